/- Package rbjoin, as landed: Join; what the package answers. -/
import Derived.Test.YtifhnaelkjfmdabJB
import Derived.Test.YtifhnaelkjfmdabJC
import Derived.Test.YtifhnaelkjfmdabGRound
import Derived.Test.YtifhnaelkjfmdabGRuns
import Derived.Test.YtifhnaelkjfmdabGCut
import Derived.Test.YtifhnaelkjfmdabGRet
import Derived.Test.YtifhnaelkjfmdabGHeldTo
import Derived.Test.YtifhnaelkjfmdabGPtrSet
import Derived.Test.YtifhnaelkjfmdabGApart
import Derived.Test.YtifhnaelkjfmdabGOwn
import Derived.Test.YtifhnaelkjfmdabGHeldIn
import Derived.Test.YtifhnaelkjfmdabJA
import Derived.Deep.Cut
import Derived.Shelf.Abstract
import Derived.Laws.OwnMore
import Derived.Test.YtifhnaelkjfmdabGHeld
import Derived.Test.YtifhnaelkjfmdabL9Same
import Derived.IntWalk
import Derived.BigRegionIn
import Derived.Sort.CutIn
import Derived.Laws.EntriesVeiled
/- Package rbjoin, as landed: the higher tree, in which the pair and the lower one are put in. Made by wip/gen/layer17join.py. -/
namespace Go.Proofs.Ytifhnaelkjfmdab
open Go.RowKit Go.Shelf Go.Proofs.Treem Go.Proofs.Cardm
attribute [local go_sem] Oper.semAt_some
set_option maxRecDepth 100000
variable {Nd : NdP}

/-- where the box is, and what is in it: the tree so far -/
structure J17 (Nd : NdP) (gT D : Nat) (W6 : World) (T : AT) (U : World) : Prop where
  tbox : Boxed U gT 25 (.pointer T.ptr)
  tree : Stand Nd U T
  kj : Kj gT gT D W6 U
section
variable {gT D : Nat} {W6 U : World} {T : AT}
theorem J17.nk0 (h : J17 Nd gT D W6 T U) (h1 : ∃ v, Boxed W6 gT 25 v) (hD : W6.heap.size = D) : NK W6 U := by
  refine ⟨h.kj.size, fun k cs hk => ?_⟩
  by_cases e : k = gT
  · subst e
    obtain ⟨v, h1⟩ := h1
    rw [show W6.heap[k]? = _ from h1] at hk
    cases hk
  · exact (h.kj.keep k (hD ▸ (Array.getElem?_eq_some_iff.1 hk).1) e e).trans hk
theorem J17.later (h : J17 Nd gT D W6 T U) (hN : NodeSays Nd) {U' : World} (hb : Below U.heap.size U U') (hD : D ≤ U.heap.size) : J17 Nd gT D W6 T U' :=
  ⟨Has.next (show Has _ _ _ _ from h.tbox) hb, h.tree.after hN hb, h.kj.trans (.of_below hb hD)⟩
theorem J17.turned (h : J17 Nd gT D W6 T U) (hN : NodeSays Nd) (hD : W6.heap.size = D) {U' : World} (ht : Turn (fun _ => false) D U U') : J17 Nd gT D W6 T U' := by
  refine ⟨ht.boxed h.tbox (.inl rfl), Stand.kept hN ⟨ht.size, fun k cs hk => ht.keep k _ hk (.inr ⟨_, _, _, rfl, rfl⟩)⟩ h.tree, h.kj.trans ⟨ht.os, ht.tape, ht.output, ht.size, fun k hk _ _ => ?_⟩⟩
  have hlt : k < U.heap.size := by have := h.kj.size; omega
  rw [Array.getElem?_eq_getElem hlt]
  exact ht.keep k _ (Array.getElem?_eq_getElem hlt) (.inl hk)
theorem J17.put (h : J17 Nd gT D W6 T U) (hN : NodeSays Nd) (hD : D ≤ U.heap.size) {T' : AT} (hT : Stand Nd U T') : J17 Nd gT D W6 T' (U.setCell ⟨gT, 0, none⟩ (.pointer T'.ptr)) :=
  ⟨h.tbox.set _, hT.kept hN (nk_set h.tbox (by decide) _), h.kj.trans (.grown (grownBy_setCell' U gT _) hD (fun r e => by cases e; exact .inr (.inl rfl)))⟩
end
/-- between two rounds: what stands in the place of a node -/
def Seek17 (Nd : NdP) (d : Bool) (H L : AT) (k v : BitVec 64) (base : List Addr) (ps : List AT) (gT D : Nat) (W6 : World) (pre : List (Nat × Option Addr)) (U : World) : Prop :=
  ∃ (rest : List AT) (M T : AT), backIts (ps.map AT.ptr) = pre ++ backIts (rest.map AT.ptr) ∧ rest.map AT.ptr <:+ ps.map AT.ptr ∧ Rep17 d H L k v base rest M T pre.length ∧ J17 Nd gT D W6 T U
theorem Seek17.turned {d : Bool} {H L : AT} {k v : BitVec 64} {base : List Addr} {ps : List AT} {gT D : Nat} {W6 : World} {pre : List (Nat × Option Addr)} {U U' : World} (h : Seek17 Nd d H L k v base ps gT D W6 pre U) (hN : NodeSays Nd) (hD : W6.heap.size = D) (ht : Turn (fun _ => false) D U U') : Seek17 Nd d H L k v base ps gT D W6 pre U' := by
  obtain ⟨rest, M, T, h1, h2, h3, h4⟩ := h
  exact ⟨rest, M, T, h1, h2, h3, h4.turned hN hD ht⟩
theorem Seek17.done {d : Bool} {H L : AT} {k v : BitVec 64} {base : List Addr} {ps : List AT} {gT D : Nat} {W6 : World} {U : World} (h : Seek17 Nd d H L k v base ps gT D W6 (backIts (ps.map AT.ptr)) U) : ∃ M T, Rep17 d H L k v base [] M T ps.length ∧ J17 Nd gT D W6 T U := by
  obtain ⟨rest, M, T, h1, h2, h3, h4⟩ := h
  cases rest with
  | nil =>
    rw [backIts_len, List.length_map] at h3
    exact ⟨M, T, h3, h4⟩
  | cons N r =>
    have := congrArg List.length h1
    simp [backIts] at this

set_option maxHeartbeats 16000000 in
theorem joined17_any (hN : NodeSays Nd) (hV : RbSays Nd) {d : Bool} {k v : BitVec 64} {L : AT} {Ty : TypeId} {ff fp fo fi fv : FuncId} (hd : Side17 Nd d k v L Ty ff fp fo fi fv) (w : World) (H : AT) (base : List Addr) (g : Nat) (hH : Stand Nd w H) (hL : Stand Nd w L) (h1 : H.size ≤ 1000) (pH : partR H.tr = true) (pL : Pt L.tr g false) (hle : 2 * g ≤ H.tr.tag.toNat)
    (oH : ∀ a ∈ H.addrs, a ∈ base) (fL : freshS base L ≤ 1) (oB : ∀ a ∈ base, a.block < w.heap.size) : Calls Try.prog 55 #[.iface Ty (.agg #[K k, K v, .pointer L.ptr]), .pointer H.ptr] w fun e w' => ∃ J : AT, e = .returned (.pointer J.ptr) ∧ Stand Nd w' J ∧ Join17 d H L k v base J ∧ Below w.heap.size w w' := by
  have aH := Pt.of pH
  have hH9 : highR H.tr ≤ 1000 := by have := (part_few pH (by rw [AT.size_tr]; omega)).1; omega
  obtain ⟨hh, hhe⟩ : ∃ h, highR H.tr = h := ⟨_, rfl⟩
  obtain ⟨ch, hce⟩ : ∃ c, redR H.tr = c := ⟨_, rfl⟩
  rw [hhe, hce] at aH
  rw [hhe] at hH9
  have hg9 : g ≤ 1000 := by have := aH.tag; have h3 : (if ch = true then 1 else 0) ≤ 1 := by split <;> omega
                            omega
  have AH := Lib.hid aH
  have PL := Lib.hid pL
  obtain ⟨np, hp⟩ : ∃ nm, nm = "joinery" ++ String.singleton (Char.ofNat 47) ++ "rbjoin.put" := ⟨_, rfl⟩
  have mp := hd.mp np hp
  have ep := hd.ep
  simp at hp
  subst hp
  obtain ⟨no, ho⟩ : ∃ nm, nm = "joinery" ++ String.singleton (Char.ofNat 47) ++ "rbjoin.outer" := ⟨_, rfl⟩
  have mo := hd.mo no ho
  have eo := hd.eo
  simp at ho
  subst ho
  obtain ⟨ni, hi⟩ : ∃ nm, nm = "joinery" ++ String.singleton (Char.ofNat 47) ++ "rbjoin.inner" := ⟨_, rfl⟩
  have mi := hd.mi ni hi
  have ei := hd.ei
  simp at hi
  subst hi
  obtain ⟨nv, hv⟩ : ∃ nm, nm = "joinery" ++ String.singleton (Char.ofNat 47) ++ "rbjoin.over" := ⟨_, rfl⟩
  have mv := hd.mv nv hv
  have ev := hd.ev
  have nv := hd.nv nv hv
  simp at hv
  subst hv
  have cW := Lib.hid (fun W (h1' : Stand Nd W H) (h2 : Stand Nd W L) => way17_any hN hd W H h1' h2 h1)
  have cT := Lib.hid (fun W (oB : ∀ a ∈ base, a.block < W.heap.size) aN y l r aT xT O I h1 h2 => turned17_any hN hV hd W base oB aN y l r aT xT O I h1 h2)
  have cP : Hid (∀ W (T : AT), Stand Nd W T → Stand Nd W L → Calls Try.prog fp #[.agg #[K k, K v, .pointer L.ptr], .pointer T.ptr] W (MadeD Nd d T L k v (tagD d T L true) W)) := fun W T h1 h2 => hd.put W _ h1 h2
  have cO : Hid (∀ W (T : AT), Stand Nd W T → Calls Try.prog fo #[.agg #[K k, K v, .pointer L.ptr], .pointer T.ptr] W fun e w' => e = .returned (.pointer (T.side d).ptr) ∧ Below W.heap.size W w') := fun W T h => hd.outer W T h
  have cI : Hid (∀ W (T : AT), Stand Nd W T → Calls Try.prog fi #[.agg #[K k, K v, .pointer L.ptr], .pointer T.ptr] W fun e w' => e = .returned (.pointer (T.side (!d)).ptr) ∧ Below W.heap.size W w') := fun W T h => hd.inner W T h
  have cV : Hid (∀ W (aN : Addr) (y : No) (l r O I : AT) (c : Bool), Stand Nd W (.n aN y l r) → Stand Nd W O → Stand Nd W I → Calls Try.prog fv #[.agg #[K k, K v, .pointer L.ptr], .pointer (some aN), .bool c, .pointer O.ptr, .pointer I.ptr] W (MadeD Nd d O I y.k y.v (tagD d O I c) W)) := fun W aN y l r O I c h1 h2 h3 => hd.over W aN y l r O I c h1 h2 h3
  have cR := Lib.hid (fun W T h => red17 hV W T h)
  have cB := Lib.hid (fun W T h base hb => black17 hN hV W T h base hb)
  obtain ⟨ph, hph⟩ : ∃ p, H.ptr = p := ⟨_, rfl⟩
  obtain ⟨pl, hpl⟩ : ∃ p, L.ptr = p := ⟨_, rfl⟩
  simp only [hpl] at cW cT cP cO cI cV mp mo mi mv nv
  rw [hph] at cW
  rw [hph, hpl]
  obtain ⟨W0, hW0⟩ : ∃ W, w.alloc (.cells #[.iface Ty (.agg #[K k, K v, .pointer pl])] 98) = W := ⟨_, rfl⟩
  obtain ⟨g0, hg0⟩ : ∃ g, w.heap.size = g := ⟨_, rfl⟩
  have hB0 : Below w.heap.size w W0 := hW0 ▸ (Below.refl _ w).alloc (Nat.le_refl _) _
  have hH0 : Boxed W0 g0 98 (.iface Ty (.agg #[K k, K v, .pointer pl])) := hg0 ▸ hW0 ▸ Boxed.new w _ _
  have k0 := hH0.cell
  have B0 := Lib.hid hB0
  have hN' := Lib.hid hN
  have H0 := Lib.hid hH0
  have HS0 : Hid (Stand Nd W0 H) := hH.after hN hB0
  have LS0 : Hid (Stand Nd W0 L) := hL.after hN hB0
  have HLE := Lib.hid hle
  have OH := Lib.hid oH
  have FL := Lib.hid fL
  have OB := Lib.hid oB
  have H9 := Lib.hid hH9
  have G9 := Lib.hid hg9
  have HW0 := Lib.hid hW0
  have HG0 := Lib.hid hg0
  clear hd hH hL hB0 hN hV hW0 hg0 hph hpl hH0 aH pL pH hhe hce hle oH fL oB hH9 hg9
  refine (callsIn_wide (n := 9)).1 ?_
  refine callsIn_of_wp_marks Try.func55 rfl trivial ?_ rfl
  simp only [Try.ntmps55, List.size_toArray, List.length_cons, List.length_nil, Nat.reduceAdd, Nat.reduceSub, Array.replicate_succ, Array.replicate_zero, List.push_toArray, List.append_toArray, List.nil_append, List.cons_append]
  refine wpIn_wide.2 ?_
  go_wp2_with fail
  rw [HW0.out, HG0.out]
  refine (cW.out W0 HS0.out LS0.out).mono ?_
  rintro e W1 ⟨v1, B, ps, rfl, hway, htag, hbot, hown, hHs, hLs, hb⟩
  obtain ⟨A, c, rfl, hnc, hcm, hcz⟩ := own_slice hown
  obtain ⟨n, hn⟩ : ∃ n, ps.length = n := ⟨_, rfl⟩
  rw [hn] at hown hnc ⊢
  obtain ⟨pB, hpB⟩ : ∃ p, B.ptr = p := ⟨_, rfl⟩
  have hBs : Stand Nd W1 B := (hway.stand hN'.out hHs).1
  have B1 := Lib.hid (Below.after B0.out hb)
  have s1 : Boxed W1 g0 98 (.iface Ty (.agg #[K k, K v, .pointer pl])) := Has.next (show Has _ _ _ _ from H0.out) hb
  have k1 := s1.cell
  have c0 := Lib.hid (cP.out W1 B hBs hLs)
  rw [hpB] at c0
  rw [hpB]
  obtain ⟨hfar1, hfar2⟩ := Way.end_ AH.out PL.out.high HLE.out hway htag hbot
  rw [hn] at hfar2
  have FAR1 := Lib.hid hfar1
  have FAR2 := Lib.hid hfar2
  have HPB := Lib.hid hpB
  have HN := Lib.hid hn
  have S1 := Lib.hid s1
  have O1 := Lib.hid hown
  have HH1 := Lib.hid hHs
  have HL1 := Lib.hid hLs
  have HWay := Lib.hid hway
  have NC := Lib.hid hnc
  have CM := Lib.hid hcm
  clear hb k0 hway htag hbot hown hHs hLs hnc hcm hcz hBs s1 hpB hn hfar1 hfar2 HS0 LS0 cW cP
  go_wp2_with fail
  refine c0.out.mono ?_
  rintro e W3 ⟨a0, x0, rfl, hx0, hs0, ha0, hb⟩
  obtain ⟨W4, hW4⟩ : ∃ W, W3.alloc (.cells #[.pointer (some a0)] 25) = W := ⟨_, rfl⟩
  obtain ⟨gT, hgT⟩ : ∃ g, W3.heap.size = g := ⟨_, rfl⟩
  obtain ⟨W6, hW6⟩ : ∃ W, W4.alloc (.cells #[.slice A n c] 85) = W := ⟨_, rfl⟩
  obtain ⟨gS, hgS⟩ : ∃ g, W4.heap.size = g := ⟨_, rfl⟩
  have b34 : Below W3.heap.size W3 W4 := hW4 ▸ (Below.refl _ W3).alloc (Nat.le_refl _) _
  have b46 : Below W4.heap.size W4 W6 := hW6 ▸ (Below.refl _ W4).alloc (Nat.le_refl _) _
  have b36 := Below.after b34 b46
  have b16 := Below.after hb b36
  have xT : Boxed W6 gT 25 (.pointer (some a0)) := Has.next (show Has _ _ _ _ from hgT ▸ hW4 ▸ Boxed.new W3 _ _) b46
  have xS : Boxed W6 gS 85 (.slice A n c) := hgS ▸ hW6 ▸ Boxed.new W4 _ _
  have HW4 := Lib.hid hW4
  have HW6 := Lib.hid hW6
  have HGT := Lib.hid hgT
  have HGS := Lib.hid hgS
  have B16 := Lib.hid b16
  have z1 : Hid (g0 < gT ∧ gT < gS ∧ gS + 1 = W6.heap.size ∧ W1.heap.size ≤ gT) := by
    have e1 := S1.out.lt
    have e2 := hb.size
    have e4 : W4.heap.size = W3.heap.size + 1 := by rw [← hW4]; simp
    have e6 : W6.heap.size = W4.heap.size + 1 := by rw [← hW6]; simp
    exact ⟨by omega, by omega, by omega, by omega⟩
  have T6 : Hid (Stand Nd W6 (AT.mk d a0 x0 B L)) := hs0.after hN'.out b36
  have HX0 := Lib.hid hx0
  have HA0 : Hid (w.heap.size ≤ a0.block) := Nat.le_trans B1.out.size ha0
  have XT := Lib.hid xT
  have XS := Lib.hid xS
  clear hb hs0 hx0 ha0 hW4 hgT hW6 hgS b34 b46 b36 b16 xT xS c0 k1
  go_upto_region 3 with (fail)
  rw [HW4.out, HGT.out]
  go_wp2_with fail
  refine (back_any A n c W4).mono ?_
  rintro e W6' ⟨rfl, hW6'⟩
  obtain rfl : W6 = W6' := HW6.out.symm.trans hW6'
  rw [HGS.out]
  clear hW6'
  go_wp2_with fail
  refine (wpIn_wide (n := 9)).1 ?_
  have hps : ps.length ≤ 1000 := by have := HWay.out.size; omega
  have cells : ∀ p r, (p :: r) <:+ ps.map AT.ptr → ∃ ad, A = some ad ∧ W6.cell? (ad.add r.length) = some (.pointer p) := fun p r h => by
    obtain ⟨ad, e, hb, hc⟩ := (Row.of_own O1.out) r.length (.pointer p) (above_cell h)
    exact ⟨ad, e, keep_cell B16.out hc⟩
  have place : ∀ ad, 0 < n → A = some ad → ad.block < gT := fun ad h0 e => by
    obtain ⟨g, c', e2, h1, h2, h3⟩ := own_full O1.out h0
    cases e2.trans rfl
    cases e
    have e3 := (O1.out.lt g rfl).2
    have e4 := z1.out
    show g < gT
    omega
  have HP := Lib.hid hps
  have HC := Lib.hid cells
  have HPL := Lib.hid place
  clear hps cells place
  refine wpIn_rangeFunc_runs (α := Nat × Option Addr) (mine := fun _ => false) rfl (by omega) (gf := 79) (lb := #[.pointer (some ⟨gS, 0, none⟩)]) rfl trivial (enters_of Try.func79 (by kernel_rfl) rfl)
    (back_runs W6 gS A n c (ps.map AT.ptr) (by rw [List.length_map]; exact HN.out) (by have := HP.out; have := HN.out; omega) XS.out HC.out (Kj gT gT W6.heap.size)
      (fun X Y h => ⟨h.keep gS (by have := z1.out; omega) (by have := z1.out; omega) (by have := z1.out; omega), fun h0 ad e => by have := HPL.out ad h0 e; have := z1.out; exact h.keep _ (by omega) (by omega) (by omega)⟩) _)
    Kj.trans (fun X l o o' h _ _ _ => Kj.put X l o' h) (Below.refl _ _) (fun _ => rfl)
    (fun pre U => Seek17 Nd d H L k v base ps gT W6.heap.size W6 pre U)
    (fun _ _ _ => False)
    (fun _ _ _ h ht => h.turned hN'.out rfl ht) (fun _ _ _ _ h _ => h)
    ?start
    (fun x a' _ => a' = { tmps := #[.iface Ty (.agg #[K k, K v, .pointer pl]), .pointer ph, .pointer (some ⟨g0, 0, none⟩), undef, .pointer none, .slice A n c, .pointer pB, .pointer (some ⟨gT, 0, none⟩), undef, .pointer x.2, .tuple #[.slice A n c, .pointer pB], .iface Ty (.agg #[K k, K v, .pointer pl]), .pointer ph, .tuple #[.slice A n c, .pointer pB], .slice A n c, .pointer pB, .iface Ty (.agg #[K k, K v, .pointer pl]), .pointer pB, .pointer (some a0), .slice A n c, .func (.func 79) #[] #[.pointer (some ⟨gS, 0, none⟩)], nI x.1, .pointer x.2, undef, undef, undef, undef, undef, undef, undef, undef, undef, undef, undef, undef, undef, undef, undef, undef, undef, undef, undef, undef, undef, undef, undef, undef, undef, undef], defers := [] })
    (fun x a' _ X Y row hs hg hr => hs)
    ?assign ?body ?done ?stop
  case start =>
    refine ⟨ps, B, AT.mk d a0 x0 B L, rfl, List.suffix_refl _, ?_, XT.out, T6.out, Kj.refl _ _ _ _⟩
    exact Rep17.start HWay.out FAR1.out PL.out G9.out HX0.out (fun h => by have := OB.out _ h; have := HA0.out; omega) OH.out FL.out
  case assign =>
    rintro L' pre ⟨pj, q⟩ U KK hI hpx hK
    have hK2 := Lib.hid (hK { tmps := #[.iface Ty (.agg #[K k, K v, .pointer pl]), .pointer ph, .pointer (some ⟨g0, 0, none⟩), undef, .pointer none, .slice A n c, .pointer pB, .pointer (some ⟨gT, 0, none⟩), undef, .pointer q, .tuple #[.slice A n c, .pointer pB], .iface Ty (.agg #[K k, K v, .pointer pl]), .pointer ph, .tuple #[.slice A n c, .pointer pB], .slice A n c, .pointer pB, .iface Ty (.agg #[K k, K v, .pointer pl]), .pointer pB, .pointer (some a0), .slice A n c, .func (.func 79) #[] #[.pointer (some ⟨gS, 0, none⟩)], nI pj, .pointer q, undef, undef, undef, undef, undef, undef, undef, undef, undef, undef, undef, undef, undef, undef, undef, undef, undef, undef, undef, undef, undef, undef, undef, undef, undef, undef], defers := [] } U ((KeepsOthers.refl _).from _) (Kj.refl _ _ _ _) hI rfl)
    clear hK hI hpx
    gi_wp2
    exact hK2.out
  case stop =>
    rintro D1 c' pre U hD1 hpre h
    exact h.elim
  case body =>
    rintro L' pre ⟨pj, q⟩ a' u0 hL _ ⟨rest, M, T, h1, h2, hR, hJ⟩ rfl hpx
    obtain ⟨p0, r0, e1, e2, e3⟩ := its_next hpx h1
    cases rest with
    | nil => cases e1
    | cons N rest =>
      rw [List.map_cons] at e1
      injection e1 with e4 e5
      subst e4 e5
      injection e2 with e6 e7
      rw [List.length_map] at e6
      subst e6 e7
      obtain ⟨⟨aN, xN, ON, eN⟩, -⟩ := hR.way
      obtain ⟨y, l, r, eN2⟩ : ∃ y l r, N = .n aN y l r := ⟨xN, _, _, eN⟩
      clear eN
      subst eN2
      clear ON xN
      have hpn : (AT.n aN y l r).ptr = some aN := rfl
      rw [hpn]
      have hD : W6.heap.size ≤ u0.heap.size := hJ.kj.size
      have hsuf := suffix_tail (x := (AT.n aN y l r).ptr) (r := rest.map AT.ptr) h2
      obtain ⟨m, hm⟩ : ∃ m, rest.length = m := ⟨_, rfl⟩
      rw [hm]
      have zz := z1.out
      have nk : NK W6 u0 := hJ.nk0 ⟨_, XT.out⟩ rfl
      have SH : Stand Nd u0 H := (HH1.out.after hN'.out B16.out).kept hN'.out nk
      have SN0 : Hid (Stand Nd u0 (.n aN y l r)) := (Way.stand hN'.out SH hR.way).2 _ (List.mem_cons_self ..)
      have HS0 : Hid (Boxed u0 g0 98 (.iface Ty (.agg #[K k, K v, .pointer pl]))) := hJ.kj.has (Has.next (show Has _ _ _ _ from S1.out) B16.out) (by omega) (by omega) (by omega)
      have hmx : Try.prog.follows .mixedOrders = true := by kernel_rfl
      have JJ0 := Lib.hid hJ
      have D0 := Lib.hid hD
      have KO0 := Lib.hid (KeepsOthers.refl u0)
      have KJ0 := Lib.hid (Kj.refl gT gT W6.heap.size u0)
      have HR := Lib.hid hR
      have E3 := Lib.hid e3
      have HSUF := Lib.hid hsuf
      have HM := Lib.hid hm
      obtain ⟨rN, hrN⟩ : ∃ c, redR (AT.n aN y l r).tr = c := ⟨_, rfl⟩
      have HRN := Lib.hid hrN
      have FRESH : Hid (∀ (W : World) (a : Addr), W6.heap.size ≤ W.heap.size → W.heap.size ≤ a.block → a ∉ base) := fun W a h1 h2 h => by have e1 := OB.out _ h; have e2 := B1.out.size; have e3 := B16.out.size; omega
      have htest := hR.test
      clear h1 h2 hR hJ hpx e3 hsuf nk SH hm hpn hrN hD zz
      obtain ⟨pT, hpT⟩ : ∃ p, T.ptr = p := ⟨_, rfl⟩
      have HPT := Lib.hid hpT
      clear hpT
      rcases htest with ⟨htst, -⟩ | ⟨⟨ht1, ht2⟩, aT, xT, O, bT, yI, P, J, m', eT, -⟩
      · have HT0 := Lib.hid htst
        cases hrT : redR T.tr with
        | false =>
          have c1 := cR.out u0 T JJ0.out.tree
          rw [hrT, HPT.out] at c1
          clear hrT htst
          have t0 := JJ0.out.tbox.cell
          rw [HPT.out] at t0
          have q0 := HS0.out.cell
          gi_wp2
          refine ⟨trivial, ?_⟩
          refine CallsIn.inRound L' (callsIn_wide.2 (c1.mono ?_))
          rintro e u1 ⟨rfl, hb⟩
          have JJ1 := Lib.hid (JJ0.out.later hN'.out hb D0.out)
          have SN1 := Lib.hid (SN0.out.after hN'.out hb)
          have HS1 : Hid (Boxed _ g0 98 (.iface Ty (.agg #[K k, K v, .pointer pl]))) := Has.next (show Has _ _ _ _ from HS0.out) hb
          have KO1 := Lib.hid (KO0.out.trans (Ret.keeps_below hb))
          have KJ1 := Lib.hid (KJ0.out.trans (.of_below hb D0.out))
          have D1 := Lib.hid (Nat.le_trans D0.out hb.size)
          clear JJ0 SN0 HS0 KO0 KJ0 D0 t0 q0 hb
          clear c1
          obtain ⟨pO, hpO⟩ : ∃ p, ((AT.n aN y l r).side d).ptr = p := ⟨_, rfl⟩
          have HPO := Lib.hid hpO
          clear hpO
          have t1 := JJ1.out.tbox.cell
          rw [HPT.out] at t1
          have q1 := HS1.out.cell
          gi_wp2
          all_goals first
            | (exfalso
               have hh : ∃ u v, some undef = some (Value.iface u v) := ⟨_, _, by assumption⟩
               obtain ⟨u, v, hh⟩ := hh
               cases hh)
            | skip
          refine ⟨fun _ h => (by cases h), ?_⟩
          gi_wp2
          refine ⟨trivial, ?_⟩
          gi_wp2
          refine wpIn_round_heldTo (m := 12) (S := fun W => W.cell? ⟨gT, 0, none⟩ = some (.pointer pT) ∧ W.cell? ⟨g0, 0, none⟩ = some (.iface Ty (.agg #[K k, K v, .pointer pl])) ∧ Below u1.heap.size u1 W) hmx (by kernel_rfl) ⟨t1, q1, (Below.refl _ u1).drew⟩ (fun hS => ?_)
          refine HeldTo.take (i := 0) (oi := ?dqr5q0) (v := ?dvr5q0) ?hir5q0 (by kernel_rfl) (by kernel_rfl) (by kernel_rfl) (by kernel_rfl) ?hQr5q0 (Or.inl ⟨?hwr5q0, ?hyr5q0⟩) hS ?hrr5q0
          case hir5q0 => simp only [List.getElem?_toArray, List.getElem?_cons_zero]; rfl
          case hQr5q0 => exact fun _ _ _ h => h
          case hwr5q0 => rfl
          case hyr5q0 => (intro w hSw; (try dsimp only at hSw); go_simp; (try with_reducible rfl))
          simp only [Act.put, List.setIfInBounds_toArray, List.set_cons_zero, List.set_cons_succ]
          refine HeldTo.take (i := 1) (oi := ?dqr5q1) (v := ?dvr5q1) ?hir5q1 (by kernel_rfl) (by kernel_rfl) (by kernel_rfl) (by kernel_rfl) ?hQr5q1 (Or.inl ⟨?hwr5q1, ?hyr5q1⟩) hS ?hrr5q1
          case hir5q1 => simp only [List.getElem?_toArray, List.getElem?_cons_succ, List.getElem?_cons_zero]; rfl
          case hQr5q1 => exact fun _ _ _ h => h
          case hwr5q1 => rfl
          case hyr5q1 => (intro w hSw; (try dsimp only at hSw); go_simp; (try with_reducible rfl))
          simp only [Act.put, List.setIfInBounds_toArray, List.set_cons_zero, List.set_cons_succ]
          refine HeldTo.take (i := 2) (oi := ?dqr5q2) (v := ?dvr5q2) ?hir5q2 (by kernel_rfl) (by kernel_rfl) (by kernel_rfl) (by kernel_rfl) ?hQr5q2 (Or.inl ⟨?hwr5q2, ?hyr5q2⟩) hS ?hrr5q2
          case hir5q2 => simp only [List.getElem?_toArray, List.getElem?_cons_succ, List.getElem?_cons_zero]; rfl
          case hQr5q2 => exact fun _ _ _ h => h
          case hwr5q2 => rfl
          case hyr5q2 => (intro w hSw; (try dsimp only at hSw); go_simp; (try with_reducible rfl))
          simp only [Act.put, List.setIfInBounds_toArray, List.set_cons_zero, List.set_cons_succ]
          refine HeldTo.take (i := 4) (oi := ?dqr5q4) (v := ?dvr5q4) ?hir5q4 (by kernel_rfl) (by kernel_rfl) (by kernel_rfl) (by kernel_rfl) ?hQr5q4 (Or.inl ⟨?hwr5q4, ?hyr5q4⟩) hS ?hrr5q4
          case hir5q4 => simp only [List.getElem?_toArray, List.getElem?_cons_succ, List.getElem?_cons_zero]; rfl
          case hQr5q4 => exact fun _ _ _ h => h
          case hwr5q4 => rfl
          case hyr5q4 => (intro w hSw; (try dsimp only at hSw); go_simp; (try with_reducible rfl))
          simp only [Act.put, List.setIfInBounds_toArray, List.set_cons_zero, List.set_cons_succ]
          refine HeldTo.take (i := 5) (oi := ?dqr5q5) (v := ?dvr5q5) ?hir5q5 (by kernel_rfl) (by kernel_rfl) (by kernel_rfl) (by kernel_rfl) ?hQr5q5 (Or.inl ⟨?hwr5q5, ?hyr5q5⟩) hS ?hrr5q5
          case hir5q5 => simp only [List.getElem?_toArray, List.getElem?_cons_succ, List.getElem?_cons_zero]; rfl
          case hQr5q5 => exact fun _ _ _ h => h
          case hwr5q5 => rfl
          case hyr5q5 => (intro w hSw; (try dsimp only at hSw); go_simp; (try with_reducible rfl))
          simp only [Act.put, List.setIfInBounds_toArray, List.set_cons_zero, List.set_cons_succ]
          refine HeldTo.take (i := 7) (oi := ?dqr5q7) (v := ?dvr5q7) ?hir5q7 (by kernel_rfl) (by kernel_rfl) (by kernel_rfl) (by kernel_rfl) ?hQr5q7 (Or.inl ⟨?hwr5q7, ?hyr5q7⟩) hS ?hrr5q7
          case hir5q7 => simp only [List.getElem?_toArray, List.getElem?_cons_succ, List.getElem?_cons_zero]; rfl
          case hQr5q7 => exact fun _ _ _ h => h
          case hwr5q7 => rfl
          case hyr5q7 => (intro w hSw; (try dsimp only at hSw); go_simp; (try with_reducible rfl))
          simp only [Act.put, List.setIfInBounds_toArray, List.set_cons_zero, List.set_cons_succ]
          refine HeldTo.take (i := 8) (oi := ?dqr5q8) (v := ?dvr5q8) ?hir5q8 (by kernel_rfl) (by kernel_rfl) (by kernel_rfl) (by kernel_rfl) ?hQr5q8 (Or.inl ⟨?hwr5q8, ?hyr5q8⟩) hS ?hrr5q8
          case hir5q8 => simp only [List.getElem?_toArray, List.getElem?_cons_succ, List.getElem?_cons_zero]; rfl
          case hQr5q8 => exact fun _ _ _ h => h
          case hwr5q8 => rfl
          case hyr5q8 => (intro w hSw; (try dsimp only at hSw); go_simp; (try with_reducible rfl))
          simp only [Act.put, List.setIfInBounds_toArray, List.set_cons_zero, List.set_cons_succ]
          refine HeldTo.take (i := 9) (oi := ?dqr5q9) (v := ?dvr5q9) ?hir5q9 (by kernel_rfl) (by kernel_rfl) (by kernel_rfl) (by kernel_rfl) ?hQr5q9 (Or.inl ⟨?hwr5q9, ?hyr5q9⟩) hS ?hrr5q9
          case hir5q9 => simp only [List.getElem?_toArray, List.getElem?_cons_succ, List.getElem?_cons_zero]; rfl
          case hQr5q9 => exact fun _ _ _ h => h
          case hwr5q9 => rfl
          case hyr5q9 => (intro w hSw; (try dsimp only at hSw); go_simp; (try with_reducible rfl))
          simp only [Act.put, List.setIfInBounds_toArray, List.set_cons_zero, List.set_cons_succ]
          refine HeldTo.take (i := 10) (oi := ?dqr5q10) (v := ?dvr5q10) ?hir5q10 (by kernel_rfl) (by kernel_rfl) (by kernel_rfl) (by kernel_rfl) ?hQr5q10 (Or.inl ⟨?hwr5q10, ?hyr5q10⟩) hS ?hrr5q10
          case hir5q10 => simp only [List.getElem?_toArray, List.getElem?_cons_succ, List.getElem?_cons_zero]; rfl
          case hQr5q10 => exact fun _ _ _ h => h
          case hwr5q10 => rfl
          case hyr5q10 => (intro w hSw; (try dsimp only at hSw); go_simp; (try with_reducible rfl))
          simp only [Act.put, List.setIfInBounds_toArray, List.set_cons_zero, List.set_cons_succ]
          refine HeldTo.one (i := 3) (o := ?dqr5q3) (by kernel_rfl) ?hir5q3 (fun Kq hKq => ?_)
          case hir5q3 => simp only [List.getElem?_toArray, List.getElem?_cons_succ, List.getElem?_cons_zero]; rfl
          go_simp
          have cc := cR.out _ _ (SN1.out.after hN'.out hS.2.2)
          rw [HRN.out] at cc
          refine cc.mono ?_
          clear cc
          rintro e v1 ⟨rfl, hb1⟩
          have hS2 := (And.intro (keep_cell hb1 hS.1) (And.intro (keep_cell hb1 hS.2.1) (Below.after hS.2.2 hb1)))
          clear hS
          refine hKq.out _ _ hS2 (fun hS => ?_)
          clear hS2 hKq Kq
          try simp only [Act.put, List.setIfInBounds_toArray, List.set_cons_zero, List.set_cons_succ]
          refine HeldTo.one (i := 6) (o := ?dqr5q6) (by kernel_rfl) ?hir5q6 (fun Kq hKq => ?_)
          case hir5q6 => simp only [List.getElem?_toArray, List.getElem?_cons_succ, List.getElem?_cons_zero]; rfl
          go_simp
          have cc := cO.out _ _ (SN1.out.after hN'.out hS.2.2)
          rw [HPO.out] at cc
          refine cc.mono ?_
          clear cc
          rintro e v2 ⟨rfl, hb2⟩
          have hS2 := (And.intro (keep_cell hb2 hS.1) (And.intro (keep_cell hb2 hS.2.1) (Below.after hS.2.2 hb2)))
          clear hS
          refine hKq.out _ _ hS2 (fun hS => ?_)
          clear hS2 hKq Kq
          try simp only [Act.put, List.setIfInBounds_toArray, List.set_cons_zero, List.set_cons_succ]
          refine HeldTo.one (i := 11) (o := ?dqr5q11) (by kernel_rfl) ?hir5q11 (fun Kq hKq => ?_)
          case hir5q11 => simp only [List.getElem?_toArray, List.getElem?_cons_succ, List.getElem?_cons_zero]; rfl
          go_simp
          have cc := cV.out _ aN y l r _ T rN (SN1.out.after hN'.out hS.2.2) (Stand.side hN'.out d (SN1.out.after hN'.out hS.2.2)) (JJ1.out.tree.after hN'.out hS.2.2)
          rw [HPO.out, HPT.out] at cc
          have Z3 := Lib.hid hS.2.2.size
          refine cc.mono ?_
          clear cc
          rintro e u2 ⟨a, x, rfl, hx, hs, ha, hb3⟩
          have HX := Lib.hid hx
          have HXS := Lib.hid hs
          have HXB := Lib.hid (FRESH.out _ a (Nat.le_trans D1.out Z3.out) ha)
          clear hx hs ha
          have hS2 := (And.intro (keep_cell hb3 hS.1) (And.intro (keep_cell hb3 hS.2.1) (Below.after hS.2.2 hb3)))
          clear hS
          refine hKq.out _ _ hS2 (fun hS => ?_)
          clear hS2 hKq Kq
          try simp only [Act.put, List.setIfInBounds_toArray, List.set_cons_zero, List.set_cons_succ]
          refine HeldTo.last (o := ?dqr5q12) (by kernel_rfl) ?hir5q12 (fun Kq hKq => ?_)
          case hir5q12 => simp only [List.getElem?_toArray, List.getElem?_cons_succ, List.getElem?_cons_zero]; rfl
          have BB := Lib.hid hS.2.2
          have JJ2 := Lib.hid (JJ1.out.later hN'.out hS.2.2 D1.out)
          have SN2 := Lib.hid (SN1.out.after hN'.out hS.2.2)
          have HS2 : Hid (Boxed _ g0 98 (.iface Ty (.agg #[K k, K v, .pointer pl]))) := Has.next (show Has _ _ _ _ from HS1.out) hS.2.2
          have KO2 := Lib.hid (KO1.out.trans (Ret.keeps_below hS.2.2))
          have KJ2 := Lib.hid (KJ1.out.trans (.of_below hS.2.2 D1.out))
          have D2 := Lib.hid (Nat.le_trans D1.out hS.2.2.size)
          have J9 := Lib.hid (JJ2.out.put hN'.out D2.out HXS.out)
          rw [AT.mk_ptr] at J9
          have KJ9 : Hid (Kj gT gT W6.heap.size u2 (u2.setCell ⟨gT, 0, none⟩ (.pointer (some a)))) := Kj.grown (grownBy_setCell' u2 gT _) D2.out (fun r e => by cases e; exact .inr (.inl rfl))
          have t9 := hS.1
          have f9 := JJ2.out.tbox.frozen
          clear hS hb1 hb2 hb3
          go_simp
          refine hKq.out _ _ ?_
          clear hKq Kq
          refine HeldTo.done (by kernel_rfl) ?_ _
          dsimp only [OnlyNormal]
          gi_wp2
          refine ⟨(KO2.out.trans (KeepsOthers.setCell _ _ _)).from _, KJ2.out.trans KJ9.out, rest, .n aN y l r, _, by rw [← HM.out]; exact E3.out, HSUF.out, ?_, J9.out⟩
          rw [List.length_append, List.length_singleton]
          exact Rep17.over AH.out H9.out HR.out HT0.out (fun b y' l' r' e => by cases e; exact ⟨HX.out.1, HX.out.2.1⟩) (by rw [HRN.out]; exact HX.out.2.2) HXB.out OH.out
        | true =>
          have hrI : redR (T.side (!d)).tr = false := by rw [hrT] at htst; exact htst
          have c1 := cR.out u0 T JJ0.out.tree
          rw [hrT, HPT.out] at c1
          have HRI := Lib.hid hrI
          clear hrT htst hrI
          have t0 := JJ0.out.tbox.cell
          rw [HPT.out] at t0
          have q0 := HS0.out.cell
          gi_wp2
          refine ⟨trivial, ?_⟩
          refine CallsIn.inRound L' (callsIn_wide.2 (c1.mono ?_))
          rintro e u1 ⟨rfl, hb⟩
          have JJ1 := Lib.hid (JJ0.out.later hN'.out hb D0.out)
          have SN1 := Lib.hid (SN0.out.after hN'.out hb)
          have HS1 : Hid (Boxed _ g0 98 (.iface Ty (.agg #[K k, K v, .pointer pl]))) := Has.next (show Has _ _ _ _ from HS0.out) hb
          have KO1 := Lib.hid (KO0.out.trans (Ret.keeps_below hb))
          have KJ1 := Lib.hid (KJ0.out.trans (.of_below hb D0.out))
          have D1 := Lib.hid (Nat.le_trans D0.out hb.size)
          clear JJ0 SN0 HS0 KO0 KJ0 D0 t0 q0 hb
          clear c1
          obtain ⟨pI, hpI⟩ : ∃ p, (T.side (!d)).ptr = p := ⟨_, rfl⟩
          have HPI := Lib.hid hpI
          clear hpI
          have c2 := cI.out u1 T JJ1.out.tree
          rw [HPT.out, HPI.out] at c2
          have t1 := JJ1.out.tbox.cell
          rw [HPT.out] at t1
          have q1 := HS1.out.cell
          gi_wp2
          refine ⟨trivial, ?_⟩
          refine CallsIn.inRound L' (callsIn_wide.2 (c2.mono ?_))
          rintro e u2 ⟨rfl, hb⟩
          have JJ2 := Lib.hid (JJ1.out.later hN'.out hb D1.out)
          have SN2 := Lib.hid (SN1.out.after hN'.out hb)
          have HS2 : Hid (Boxed _ g0 98 (.iface Ty (.agg #[K k, K v, .pointer pl]))) := Has.next (show Has _ _ _ _ from HS1.out) hb
          have KO2 := Lib.hid (KO1.out.trans (Ret.keeps_below hb))
          have KJ2 := Lib.hid (KJ1.out.trans (.of_below hb D1.out))
          have D2 := Lib.hid (Nat.le_trans D1.out hb.size)
          clear JJ1 SN1 HS1 KO1 KJ1 D1 t1 q1 hb
          clear c2
          have c3 := cR.out u2 _ (Stand.side hN'.out (!d) JJ2.out.tree)
          rw [HRI.out, HPI.out] at c3
          have t2 := JJ2.out.tbox.cell
          rw [HPT.out] at t2
          have q2 := HS2.out.cell
          gi_wp2
          refine ⟨trivial, ?_⟩
          refine CallsIn.inRound L' (callsIn_wide.2 (c3.mono ?_))
          rintro e u3 ⟨rfl, hb⟩
          have JJ3 := Lib.hid (JJ2.out.later hN'.out hb D2.out)
          have SN3 := Lib.hid (SN2.out.after hN'.out hb)
          have HS3 : Hid (Boxed _ g0 98 (.iface Ty (.agg #[K k, K v, .pointer pl]))) := Has.next (show Has _ _ _ _ from HS2.out) hb
          have KO3 := Lib.hid (KO2.out.trans (Ret.keeps_below hb))
          have KJ3 := Lib.hid (KJ2.out.trans (.of_below hb D2.out))
          have D3 := Lib.hid (Nat.le_trans D2.out hb.size)
          clear JJ2 SN2 HS2 KO2 KJ2 D2 t2 q2 hb
          clear c3
          obtain ⟨pO, hpO⟩ : ∃ p, ((AT.n aN y l r).side d).ptr = p := ⟨_, rfl⟩
          have HPO := Lib.hid hpO
          clear hpO
          have t3 := JJ3.out.tbox.cell
          rw [HPT.out] at t3
          have q3 := HS3.out.cell
          gi_wp2
          refine wpIn_round_heldTo (m := 12) (S := fun W => W.cell? ⟨gT, 0, none⟩ = some (.pointer pT) ∧ W.cell? ⟨g0, 0, none⟩ = some (.iface Ty (.agg #[K k, K v, .pointer pl])) ∧ Below u3.heap.size u3 W) hmx (by kernel_rfl) ⟨t3, q3, (Below.refl _ u3).drew⟩ (fun hS => ?_)
          refine HeldTo.take (i := 0) (oi := ?dqr6q0) (v := ?dvr6q0) ?hir6q0 (by kernel_rfl) (by kernel_rfl) (by kernel_rfl) (by kernel_rfl) ?hQr6q0 (Or.inl ⟨?hwr6q0, ?hyr6q0⟩) hS ?hrr6q0
          case hir6q0 => simp only [List.getElem?_toArray, List.getElem?_cons_zero]; rfl
          case hQr6q0 => exact fun _ _ _ h => h
          case hwr6q0 => rfl
          case hyr6q0 => (intro w hSw; (try dsimp only at hSw); go_simp; (try with_reducible rfl))
          simp only [Act.put, List.setIfInBounds_toArray, List.set_cons_zero, List.set_cons_succ]
          refine HeldTo.take (i := 1) (oi := ?dqr6q1) (v := ?dvr6q1) ?hir6q1 (by kernel_rfl) (by kernel_rfl) (by kernel_rfl) (by kernel_rfl) ?hQr6q1 (Or.inl ⟨?hwr6q1, ?hyr6q1⟩) hS ?hrr6q1
          case hir6q1 => simp only [List.getElem?_toArray, List.getElem?_cons_succ, List.getElem?_cons_zero]; rfl
          case hQr6q1 => exact fun _ _ _ h => h
          case hwr6q1 => rfl
          case hyr6q1 => (intro w hSw; (try dsimp only at hSw); go_simp; (try with_reducible rfl))
          simp only [Act.put, List.setIfInBounds_toArray, List.set_cons_zero, List.set_cons_succ]
          refine HeldTo.take (i := 2) (oi := ?dqr6q2) (v := ?dvr6q2) ?hir6q2 (by kernel_rfl) (by kernel_rfl) (by kernel_rfl) (by kernel_rfl) ?hQr6q2 (Or.inl ⟨?hwr6q2, ?hyr6q2⟩) hS ?hrr6q2
          case hir6q2 => simp only [List.getElem?_toArray, List.getElem?_cons_succ, List.getElem?_cons_zero]; rfl
          case hQr6q2 => exact fun _ _ _ h => h
          case hwr6q2 => rfl
          case hyr6q2 => (intro w hSw; (try dsimp only at hSw); go_simp; (try with_reducible rfl))
          simp only [Act.put, List.setIfInBounds_toArray, List.set_cons_zero, List.set_cons_succ]
          refine HeldTo.take (i := 4) (oi := ?dqr6q4) (v := ?dvr6q4) ?hir6q4 (by kernel_rfl) (by kernel_rfl) (by kernel_rfl) (by kernel_rfl) ?hQr6q4 (Or.inl ⟨?hwr6q4, ?hyr6q4⟩) hS ?hrr6q4
          case hir6q4 => simp only [List.getElem?_toArray, List.getElem?_cons_succ, List.getElem?_cons_zero]; rfl
          case hQr6q4 => exact fun _ _ _ h => h
          case hwr6q4 => rfl
          case hyr6q4 => (intro w hSw; (try dsimp only at hSw); go_simp; (try with_reducible rfl))
          simp only [Act.put, List.setIfInBounds_toArray, List.set_cons_zero, List.set_cons_succ]
          refine HeldTo.take (i := 5) (oi := ?dqr6q5) (v := ?dvr6q5) ?hir6q5 (by kernel_rfl) (by kernel_rfl) (by kernel_rfl) (by kernel_rfl) ?hQr6q5 (Or.inl ⟨?hwr6q5, ?hyr6q5⟩) hS ?hrr6q5
          case hir6q5 => simp only [List.getElem?_toArray, List.getElem?_cons_succ, List.getElem?_cons_zero]; rfl
          case hQr6q5 => exact fun _ _ _ h => h
          case hwr6q5 => rfl
          case hyr6q5 => (intro w hSw; (try dsimp only at hSw); go_simp; (try with_reducible rfl))
          simp only [Act.put, List.setIfInBounds_toArray, List.set_cons_zero, List.set_cons_succ]
          refine HeldTo.take (i := 7) (oi := ?dqr6q7) (v := ?dvr6q7) ?hir6q7 (by kernel_rfl) (by kernel_rfl) (by kernel_rfl) (by kernel_rfl) ?hQr6q7 (Or.inl ⟨?hwr6q7, ?hyr6q7⟩) hS ?hrr6q7
          case hir6q7 => simp only [List.getElem?_toArray, List.getElem?_cons_succ, List.getElem?_cons_zero]; rfl
          case hQr6q7 => exact fun _ _ _ h => h
          case hwr6q7 => rfl
          case hyr6q7 => (intro w hSw; (try dsimp only at hSw); go_simp; (try with_reducible rfl))
          simp only [Act.put, List.setIfInBounds_toArray, List.set_cons_zero, List.set_cons_succ]
          refine HeldTo.take (i := 8) (oi := ?dqr6q8) (v := ?dvr6q8) ?hir6q8 (by kernel_rfl) (by kernel_rfl) (by kernel_rfl) (by kernel_rfl) ?hQr6q8 (Or.inl ⟨?hwr6q8, ?hyr6q8⟩) hS ?hrr6q8
          case hir6q8 => simp only [List.getElem?_toArray, List.getElem?_cons_succ, List.getElem?_cons_zero]; rfl
          case hQr6q8 => exact fun _ _ _ h => h
          case hwr6q8 => rfl
          case hyr6q8 => (intro w hSw; (try dsimp only at hSw); go_simp; (try with_reducible rfl))
          simp only [Act.put, List.setIfInBounds_toArray, List.set_cons_zero, List.set_cons_succ]
          refine HeldTo.take (i := 9) (oi := ?dqr6q9) (v := ?dvr6q9) ?hir6q9 (by kernel_rfl) (by kernel_rfl) (by kernel_rfl) (by kernel_rfl) ?hQr6q9 (Or.inl ⟨?hwr6q9, ?hyr6q9⟩) hS ?hrr6q9
          case hir6q9 => simp only [List.getElem?_toArray, List.getElem?_cons_succ, List.getElem?_cons_zero]; rfl
          case hQr6q9 => exact fun _ _ _ h => h
          case hwr6q9 => rfl
          case hyr6q9 => (intro w hSw; (try dsimp only at hSw); go_simp; (try with_reducible rfl))
          simp only [Act.put, List.setIfInBounds_toArray, List.set_cons_zero, List.set_cons_succ]
          refine HeldTo.take (i := 10) (oi := ?dqr6q10) (v := ?dvr6q10) ?hir6q10 (by kernel_rfl) (by kernel_rfl) (by kernel_rfl) (by kernel_rfl) ?hQr6q10 (Or.inl ⟨?hwr6q10, ?hyr6q10⟩) hS ?hrr6q10
          case hir6q10 => simp only [List.getElem?_toArray, List.getElem?_cons_succ, List.getElem?_cons_zero]; rfl
          case hQr6q10 => exact fun _ _ _ h => h
          case hwr6q10 => rfl
          case hyr6q10 => (intro w hSw; (try dsimp only at hSw); go_simp; (try with_reducible rfl))
          simp only [Act.put, List.setIfInBounds_toArray, List.set_cons_zero, List.set_cons_succ]
          refine HeldTo.one (i := 3) (o := ?dqr6q3) (by kernel_rfl) ?hir6q3 (fun Kq hKq => ?_)
          case hir6q3 => simp only [List.getElem?_toArray, List.getElem?_cons_succ, List.getElem?_cons_zero]; rfl
          go_simp
          have cc := cR.out _ _ (SN3.out.after hN'.out hS.2.2)
          rw [HRN.out] at cc
          refine cc.mono ?_
          clear cc
          rintro e v1 ⟨rfl, hb1⟩
          have hS2 := (And.intro (keep_cell hb1 hS.1) (And.intro (keep_cell hb1 hS.2.1) (Below.after hS.2.2 hb1)))
          clear hS
          refine hKq.out _ _ hS2 (fun hS => ?_)
          clear hS2 hKq Kq
          try simp only [Act.put, List.setIfInBounds_toArray, List.set_cons_zero, List.set_cons_succ]
          refine HeldTo.one (i := 6) (o := ?dqr6q6) (by kernel_rfl) ?hir6q6 (fun Kq hKq => ?_)
          case hir6q6 => simp only [List.getElem?_toArray, List.getElem?_cons_succ, List.getElem?_cons_zero]; rfl
          go_simp
          have cc := cO.out _ _ (SN3.out.after hN'.out hS.2.2)
          rw [HPO.out] at cc
          refine cc.mono ?_
          clear cc
          rintro e v2 ⟨rfl, hb2⟩
          have hS2 := (And.intro (keep_cell hb2 hS.1) (And.intro (keep_cell hb2 hS.2.1) (Below.after hS.2.2 hb2)))
          clear hS
          refine hKq.out _ _ hS2 (fun hS => ?_)
          clear hS2 hKq Kq
          try simp only [Act.put, List.setIfInBounds_toArray, List.set_cons_zero, List.set_cons_succ]
          refine HeldTo.one (i := 11) (o := ?dqr6q11) (by kernel_rfl) ?hir6q11 (fun Kq hKq => ?_)
          case hir6q11 => simp only [List.getElem?_toArray, List.getElem?_cons_succ, List.getElem?_cons_zero]; rfl
          go_simp
          have cc := cV.out _ aN y l r _ T rN (SN3.out.after hN'.out hS.2.2) (Stand.side hN'.out d (SN3.out.after hN'.out hS.2.2)) (JJ3.out.tree.after hN'.out hS.2.2)
          rw [HPO.out, HPT.out] at cc
          have Z3 := Lib.hid hS.2.2.size
          refine cc.mono ?_
          clear cc
          rintro e u4 ⟨a, x, rfl, hx, hs, ha, hb3⟩
          have HX := Lib.hid hx
          have HXS := Lib.hid hs
          have HXB := Lib.hid (FRESH.out _ a (Nat.le_trans D3.out Z3.out) ha)
          clear hx hs ha
          have hS2 := (And.intro (keep_cell hb3 hS.1) (And.intro (keep_cell hb3 hS.2.1) (Below.after hS.2.2 hb3)))
          clear hS
          refine hKq.out _ _ hS2 (fun hS => ?_)
          clear hS2 hKq Kq
          try simp only [Act.put, List.setIfInBounds_toArray, List.set_cons_zero, List.set_cons_succ]
          refine HeldTo.last (o := ?dqr6q12) (by kernel_rfl) ?hir6q12 (fun Kq hKq => ?_)
          case hir6q12 => simp only [List.getElem?_toArray, List.getElem?_cons_succ, List.getElem?_cons_zero]; rfl
          have BB := Lib.hid hS.2.2
          have JJ4 := Lib.hid (JJ3.out.later hN'.out hS.2.2 D3.out)
          have SN4 := Lib.hid (SN3.out.after hN'.out hS.2.2)
          have HS4 : Hid (Boxed _ g0 98 (.iface Ty (.agg #[K k, K v, .pointer pl]))) := Has.next (show Has _ _ _ _ from HS3.out) hS.2.2
          have KO4 := Lib.hid (KO3.out.trans (Ret.keeps_below hS.2.2))
          have KJ4 := Lib.hid (KJ3.out.trans (.of_below hS.2.2 D3.out))
          have D4 := Lib.hid (Nat.le_trans D3.out hS.2.2.size)
          have J9 := Lib.hid (JJ4.out.put hN'.out D4.out HXS.out)
          rw [AT.mk_ptr] at J9
          have KJ9 : Hid (Kj gT gT W6.heap.size u4 (u4.setCell ⟨gT, 0, none⟩ (.pointer (some a)))) := Kj.grown (grownBy_setCell' u4 gT _) D4.out (fun r e => by cases e; exact .inr (.inl rfl))
          have t9 := hS.1
          have f9 := JJ4.out.tbox.frozen
          clear hS hb1 hb2 hb3
          go_simp
          refine hKq.out _ _ ?_
          clear hKq Kq
          refine HeldTo.done (by kernel_rfl) ?_ _
          dsimp only [OnlyNormal]
          gi_wp2
          refine ⟨(KO4.out.trans (KeepsOthers.setCell _ _ _)).from _, KJ4.out.trans KJ9.out, rest, .n aN y l r, _, by rw [← HM.out]; exact E3.out, HSUF.out, ?_, J9.out⟩
          rw [List.length_append, List.length_singleton]
          exact Rep17.over AH.out H9.out HR.out HT0.out (fun b y' l' r' e => by cases e; exact ⟨HX.out.1, HX.out.2.1⟩) (by rw [HRN.out]; exact HX.out.2.2) HXB.out OH.out
      · have hrT : redR T.tr = true := ht1
        have HRI := Lib.hid ht2
        have c1 := cR.out u0 T JJ0.out.tree
        rw [hrT, HPT.out] at c1
        have HT1 := Lib.hid ht1
        have HET := Lib.hid eT
        clear hrT ht1 ht2 eT
        have t0 := JJ0.out.tbox.cell
        rw [HPT.out] at t0
        have q0 := HS0.out.cell
        gi_wp2
        refine ⟨trivial, ?_⟩
        refine CallsIn.inRound L' (callsIn_wide.2 (c1.mono ?_))
        rintro e u1 ⟨rfl, hb⟩
        have JJ1 := Lib.hid (JJ0.out.later hN'.out hb D0.out)
        have SN1 := Lib.hid (SN0.out.after hN'.out hb)
        have HS1 : Hid (Boxed _ g0 98 (.iface Ty (.agg #[K k, K v, .pointer pl]))) := Has.next (show Has _ _ _ _ from HS0.out) hb
        have KO1 := Lib.hid (KO0.out.trans (Ret.keeps_below hb))
        have KJ1 := Lib.hid (KJ0.out.trans (.of_below hb D0.out))
        have D1 := Lib.hid (Nat.le_trans D0.out hb.size)
        clear JJ0 SN0 HS0 KO0 KJ0 D0 t0 q0 hb
        clear c1
        obtain ⟨pI, hpI⟩ : ∃ p, (T.side (!d)).ptr = p := ⟨_, rfl⟩
        have HPI := Lib.hid hpI
        clear hpI
        have c2 := cI.out u1 T JJ1.out.tree
        rw [HPT.out, HPI.out] at c2
        have t1 := JJ1.out.tbox.cell
        rw [HPT.out] at t1
        have q1 := HS1.out.cell
        gi_wp2
        refine ⟨trivial, ?_⟩
        refine CallsIn.inRound L' (callsIn_wide.2 (c2.mono ?_))
        rintro e u2 ⟨rfl, hb⟩
        have JJ2 := Lib.hid (JJ1.out.later hN'.out hb D1.out)
        have SN2 := Lib.hid (SN1.out.after hN'.out hb)
        have HS2 : Hid (Boxed _ g0 98 (.iface Ty (.agg #[K k, K v, .pointer pl]))) := Has.next (show Has _ _ _ _ from HS1.out) hb
        have KO2 := Lib.hid (KO1.out.trans (Ret.keeps_below hb))
        have KJ2 := Lib.hid (KJ1.out.trans (.of_below hb D1.out))
        have D2 := Lib.hid (Nat.le_trans D1.out hb.size)
        clear JJ1 SN1 HS1 KO1 KJ1 D1 t1 q1 hb
        clear c2
        have c3 := cR.out u2 _ (Stand.side hN'.out (!d) JJ2.out.tree)
        rw [HRI.out, HPI.out] at c3
        have t2 := JJ2.out.tbox.cell
        rw [HPT.out] at t2
        have q2 := HS2.out.cell
        gi_wp2
        refine ⟨trivial, ?_⟩
        refine CallsIn.inRound L' (callsIn_wide.2 (c3.mono ?_))
        rintro e u3 ⟨rfl, hb⟩
        have JJ3 := Lib.hid (JJ2.out.later hN'.out hb D2.out)
        have SN3 := Lib.hid (SN2.out.after hN'.out hb)
        have HS3 : Hid (Boxed _ g0 98 (.iface Ty (.agg #[K k, K v, .pointer pl]))) := Has.next (show Has _ _ _ _ from HS2.out) hb
        have KO3 := Lib.hid (KO2.out.trans (Ret.keeps_below hb))
        have KJ3 := Lib.hid (KJ2.out.trans (.of_below hb D2.out))
        have D3 := Lib.hid (Nat.le_trans D2.out hb.size)
        clear JJ2 SN2 HS2 KO2 KJ2 D2 t2 q2 hb
        clear c3
        have eT := HET.out
        subst eT
        obtain rfl : some aT = pT := HPT.out
        have c4 := cT.out u3 (fun a ha => by have e1 := OB.out _ ha; have e2 := B1.out.size; have e3 := B16.out.size; have e4 := D3.out; omega) aN y l r aT xT O (AT.mk d bT yI P J) SN3.out JJ3.out.tree
        have t3 := JJ3.out.tbox.cell
        rw [AT.mk_ptr] at t3
        have q3 := HS3.out.cell
        gi_wp2
        refine ⟨trivial, ?_⟩
        refine CallsIn.inRound L' (callsIn_wide.2 (c4.mono ?_))
        rintro e u4 ⟨a, z1', U', c9, z3, rfl, hz1, hg1, hk, hz3, hs, ⟨ha, hc⟩, hb⟩
        have FA := Lib.hid (FRESH.out _ a D3.out ha)
        have FC := Lib.hid (FRESH.out _ c9 D3.out hc)
        have JJ4 := Lib.hid (JJ3.out.later hN'.out hb D3.out)
        have SN4 := Lib.hid (SN3.out.after hN'.out hb)
        have HS4 : Hid (Boxed _ g0 98 (.iface Ty (.agg #[K k, K v, .pointer pl]))) := Has.next (show Has _ _ _ _ from HS3.out) hb
        have KO4 := Lib.hid (KO3.out.trans (Ret.keeps_below hb))
        have KJ4 := Lib.hid (KJ3.out.trans (.of_below hb D3.out))
        have D4 := Lib.hid (Nat.le_trans D3.out hb.size)
        have HZ1 := Lib.hid hz1
        have HG1 := Lib.hid hg1
        have HK := Lib.hid hk
        have HZ3 := Lib.hid hz3
        have HXS := Lib.hid hs
        have J9 := Lib.hid (JJ4.out.put hN'.out D4.out hs)
        rw [AT.mk_ptr] at J9
        have KJ9 : Hid (Kj gT gT W6.heap.size u4 (u4.setCell ⟨gT, 0, none⟩ (.pointer (some c9)))) := Kj.grown (grownBy_setCell' u4 gT _) D4.out (fun r e => by cases e; exact .inr (.inl rfl))
        have t4 := JJ4.out.tbox.cell
        rw [AT.mk_ptr] at t4
        have f4 := JJ4.out.tbox.frozen
        clear hz1 hg1 hk hz3 hs ha hc hb c4 t3 q3 JJ3 SN3 HS3 KO3 KJ3 D3
        gi_wp2
        refine ⟨(KO4.out.trans (KeepsOthers.setCell _ _ _)).from _, KJ4.out.trans KJ9.out, rest, .n aN y l r, _, by rw [← HM.out]; exact E3.out, HSUF.out, ?_, J9.out⟩
        rw [List.length_append, List.length_singleton]
        have hri : redR (AT.mk d bT yI P J).tr = true := by have := HRI.out; rwa [AT.mk_in] at this
        obtain ⟨b, z2, rfl, hbb, hk1, hk2, hk3⟩ := HK.out.red hri
        exact (Rep17.turn AH.out H9.out HR.out ⟨HT1.out, hri⟩ HZ1.out HG1.out ⟨hk1, hk2, hk3⟩ HZ3.out ⟨FA.out, hbb, FC.out⟩ OH.out).1
  case done =>
    rintro D1 U hD1 hI hK
    obtain ⟨M, T, hR, hJ⟩ := hI.done
    rw [HN.out] at hR
    have hwU : w.heap.size ≤ U.heap.size := by have e2 := B1.out.size; have e3 := B16.out.size; have e4 := hJ.kj.size; omega
    have c1 := Lib.hid (cB.out U T hJ.tree base (fun a ha => Nat.lt_of_lt_of_le (OB.out a ha) hwU))
    have v0 := hJ.tbox.cell
    have bU : Hid (Below w.heap.size w U) := (Below.after B1.out B16.out).trans (hJ.kj.below (by have := B1.out.size; have := z1.out; omega) (by have := B1.out.size; have := z1.out; omega) (by have := B1.out.size; have := B16.out.size; omega))
    have HR := Lib.hid hR
    have HK := Lib.hid hK
    have HD1 := Lib.hid hD1
    clear hI hR hJ hwU hK hD1
    go_wp2_with fail
    refine c1.out.mono ?_
    rintro e U1 ⟨J, rfl, hJs, hk, hb1⟩
    have hK1 : U1.heap[D1]? = some (.deferred (some [])) := (hb1.block D1 (Array.getElem?_eq_some_iff.1 HK.out).1).trans HK.out
    have b1 : Below w.heap.size U1 (U1.putObj D1 (.deferred none)) := belowK_b (w := w) (Nat.le_refl _) U1 D1 _ _ (by have := HD1.out; have := B1.out.size; have := B16.out.size; omega) hK1 rfl rfl
    have BF := Lib.hid ((Below.after bU.out hb1).trans b1)
    have nk1 : NK U1 (U1.putObj D1 (.deferred none)) := .of_grown (grownBy_putObj' U1 D1 _) (fun r e cs hc => by cases e; rw [hK1] at hc; cases hc)
    have SF := Lib.hid (hJs.kept hN'.out nk1)
    have JN := Lib.hid (HR.out.done AH.out H9.out PL.out.high FAR2.out hk)
    have HK1 := Lib.hid hK1
    obtain ⟨pJ, hpJ⟩ : ∃ p, J.ptr = p := ⟨_, rfl⟩
    have HPJ := Lib.hid hpJ
    rw [hpJ]
    clear hJs hk hb1 b1 nk1 hK1 v0 c1 hpJ
    go_wp2_with fail
    refine ⟨by simp, .inl ⟨_, _, rfl, run_takeDeferred HK1.out, ?_⟩⟩
    exact ⟨_, results_tmp rfl _ _ _, J, by rw [HPJ.out]; rfl, SF.out, JN.out, BF.out⟩
end Go.Proofs.Ytifhnaelkjfmdab
/- Layer 14, as landed: what goes over a tree's nodes in the order of its beads, each at its first place, with a set of those that it has been at. -/
namespace Go.Proofs.Ytifhnaelkjfmdab
open Go.RowKit Go.Shelf Go.Proofs.Treem
attribute [local go_sem] Oper.semAt_some
set_option maxRecDepth 100000
variable {Nd : NdP}

/-- what is handed over: a place, a tree, and where its root lies -/
abbrev It14 := Nat × Tr × Addr
def enc14 (x : It14) : Array Value := #[nI x.1, .pointer (some x.2.2)]
def mine14 (t : TypeId) : Bool := t == 25
abbrev none14 (_ : TypeId) : Bool := false
def load14 (us : List (Tr × Option Addr)) : Nat := (us.map fun u => 2 * u.1.size + 1).sum
def ptrs14 (us : List (Tr × Option Addr)) : List Value := us.map fun u => .pointer u.2
def trees14 (us : List (Tr × Option Addr)) : List Tr := us.map fun u => u.1
def size14 (us : List (Tr × Option Addr)) : Nat := (us.map fun u => u.1.size).sum
theorem load14_len : ∀ us : List (Tr × Option Addr), us.length ≤ load14 us
  | [] => Nat.le_refl _
  | u :: us => by have := load14_len us; simp only [load14, List.map_cons, List.sum_cons, List.length_cons] at this ⊢; omega
theorem load14_cons (u : Tr × Option Addr) (us : List (Tr × Option Addr)) : load14 (u :: us) = 2 * u.1.size + 1 + load14 us := rfl
theorem size14_cons (t : Tr) (q : Option Addr) (us : List (Tr × Option Addr)) : size14 ((t, q) :: us) = t.size + size14 us := rfl
theorem trees14_cons (t : Tr) (q : Option Addr) (us : List (Tr × Option Addr)) : trees14 ((t, q) :: us) = t :: trees14 us := rfl
/-- a pointer leads to one tree -/
theorem TreeAt.uniq (hN : NodeSays Nd) {W : World} {B B' : Nat} : ∀ {t u : Tr} {p : Option Addr}, TreeAt Nd W B t p → TreeAt Nd W B' u p → t = u
  | .e, .e, _, _, _ => rfl
  | .e, .n .., _, h, ⟨_, _, _, e, _⟩ => by rw [show _ = none from h] at e; cases e
  | .n .., .e, _, ⟨_, _, _, e, _⟩, h => by rw [show _ = none from h] at e; cases e
  | .n l k v g r, .n l' k' v' g' r', p, ⟨a, pl, pr, e, h2, h3, h4⟩, ⟨a', pl', pr', e', h2', h3', h4'⟩ => by
    subst e
    cases e'
    have := hN.uniq h2 h2'
    injection this with e1 e2 e3 e4 e5 e6 e7
    subst e1 e2 e3 e4 e5
    rw [h3.uniq hN h3', h4.uniq hN h4']
/-- where the closure stands, as it lies: those at us are still to be gone by, the last one first -/
structure At14 (Nd : NdP) (w0 : World) (r B' : Nat) (J : List It14 → World → Prop) (S : List (Option Addr)) (us : List (Tr × Option Addr)) (pre : List It14) (v : Value) (w : World) : Prop where
  base : Below w0.heap.size w0 w
  been : w.heap[r]? = some (setO S)
  none : Option.none ∈ S
  good : ∀ q ∈ S, GoodP w0 q
  ow : w.ownsRow B' 25 1 v us.length (ptrs14 us.reverse)
  ls : ∀ u ∈ us, TreeAt Nd w0 w0.heap.size u.1 u.2
  j : J pre w
  ld : load14 us ≤ 10001
  sz : B' ≤ w.heap.size
  low : w0.heap.size ≤ B'
  rb : B' ≤ r
/-- .. and what it knows: as far as all that it handed over is right -/
structure Go14 (Nd : NdP) (f : Tr → Nat) (t0 : Tr) (w0 : World) (S : List (Option Addr)) (us : List (Tr × Option Addr)) (pre : List It14) (pl : Nat) : Prop where
  size : pl + size14 us = t0.size
  go : (∀ y ∈ pre, f y.2.1 = 0) → errF f t0 = errL f (trees14 us) ∧ placeF f t0 = pl + placeL f (trees14 us) ∧ ∀ q ∈ S, ∀ t, TreeAt Nd w0 w0.heap.size t q → Past f (trees14 us) t
/-- what is told of a node that is handed over -/
def Told14 (Nd : NdP) (f : Tr → Nat) (t0 : Tr) (w0 : World) (pre : List It14) (x : It14) (W : World) : Prop :=
  TreeAt Nd w0 w0.heap.size x.2.1 (some x.2.2) ∧ Below w0.heap.size w0 W ∧ x.1 + x.2.1.size ≤ 5000 ∧ ((∀ y ∈ pre, f y.2.1 = 0) → f x.2.1 ≠ 0 → errF f t0 = f x.2.1 ∧ placeF f t0 = x.1)
section
variable {f : Tr → Nat} {t0 : Tr} {w0 : World} {r B' pl : Nat} {J : List It14 → World → Prop} {S : List (Option Addr)} {us : List (Tr × Option Addr)} {pre : List It14} {v : Value} {w w' : World}
theorem At14.below (h : At14 Nd w0 r B' J S us pre v w) (hJ : Abide mine14 B' J) (hb : Below w.heap.size w w') : At14 Nd w0 r B' J S us pre v w' :=
  ⟨h.base.trans (hb.mono h.base.size), (hb.block r (Array.getElem?_eq_some_iff.1 h.been).1).trans h.been, h.none, h.good, owned_next h.ow hb, h.ls, hJ _ _ _ h.j (.of_below hb), h.ld, Nat.le_trans h.sz hb.size, h.low, h.rb⟩
theorem At14.goods (h : At14 Nd w0 r B' J S us pre v w) : ∀ q ∈ S, GoodP w q := fun q hq => (h.good q hq).below h.base
/-- the last one is taken off -/
theorem At14.pop {u : Tr × Option Addr} {A : Option Addr} {m n c : Nat} (h : At14 Nd w0 r B' J S (u :: us) pre (.slice A n c) w) (hm : us.length = m) (hn : m + 1 = n) : At14 Nd w0 r B' J S us pre (.slice A m c) w := by
  subst hm hn
  have ho := h.ow
  rw [List.reverse_cons, ptrs14, List.map_append] at ho
  have ht := owned_take ho us.length (by simp)
  rw [show us.length * 1 = (us.reverse.map fun u => Value.pointer u.2).length by simp, List.take_left] at ht
  exact ⟨h.base, h.been, h.none, h.good, ht, fun x hx => h.ls x (List.mem_cons_of_mem _ hx), h.j, by have := h.ld; rw [load14_cons] at this; omega, h.sz, h.low, h.rb⟩
/-- the last one, as it lies -/
theorem At14.top {u : Tr × Option Addr} {A : Option Addr} {n m c : Nat} (h : At14 Nd w0 r B' J S (u :: us) pre (.slice A n c) w) (hm : us.length = m) : ∃ ad, A = some ad ∧ w.cell? (ad.add m) = some (.pointer u.2) := by
  obtain ⟨A', c', e1, -, -, -⟩ := own_slice h.ow
  cases e1
  have ho := h.ow
  rw [List.reverse_cons, ptrs14, List.map_append] at ho
  obtain ⟨ad, e, _, hc⟩ := (Row.of_own ho) m (.pointer u.2) (by rw [List.getElem?_append_right (by simp [hm])]; simp [hm])
  exact ⟨ad, e, hc⟩
/-- a node is put into the set -/
theorem At14.put {p : Option Addr} (h : At14 Nd w0 r B' J S us pre v w) (hJ : Abide mine14 B' J) (hp : GoodP w0 p) : At14 Nd w0 r B' J (S ++ [p]) us pre v (w.putObj r (setO (S ++ [p]))) := by
  have hk : Kf mine14 B' w (w.putObj r (setO (S ++ [p]))) := Kf.putObj w r _ _ h.rb h.been rfl
  refine ⟨h.base.trans (hk.below.mono h.low), World.putObj_heap_same (Array.getElem?_eq_some_iff.1 h.been).1, List.mem_append_left _ h.none, fun q hq => ?_, h.ow.kept (grownBy_putObj' w r _) ?_, h.ls, hJ _ _ _ h.j (.of_kf hk), h.ld, Nat.le_trans h.sz hk.size, h.low, h.rb⟩
  · rcases List.mem_append.1 hq with hq | hq
    · exact h.good q hq
    · rw [List.mem_singleton.1 hq]; exact hp
  · by_cases hv : v.ownBlock = some r
    · exfalso
      rcases h.ow.2 with ⟨rfl, _⟩ | ⟨g, cap, cur, rfl, _, hg, _⟩
      · simp [Value.ownBlock] at hv
      · obtain rfl : g = r := by simpa [Value.ownBlock] using hv
        rw [h.been] at hg
        cases hg
    · exact .inr hv
/-- a node has been told -/
theorem At14.yielded {y : It14} (h : At14 Nd w0 r B' J S us pre v w) (hj : J (pre ++ [y]) w') (hk : Kf none14 w0.heap.size w w') (hf : KeepsFrom B' w w') : At14 Nd w0 r B' J S us (pre ++ [y]) v w' :=
  ⟨h.base.trans hk.below, hf.same r _ h.rb h.been rfl, h.none, h.good, hk.owned h.ow rfl, h.ls, hj, h.ld, Nat.le_trans h.sz hk.size, h.low, h.rb⟩
/-- both sides of a node are put on the row -/
theorem At14.push {tl tr : Tr} {pl pr : Option Addr} {tmp : Obj} {v1 : Value} {w1 : World} (h : At14 Nd w0 r B' J S us pre v w) (hJ : Abide mine14 B' J) (hl : TreeAt Nd w0 w0.heap.size tl pl) (hr : TreeAt Nd w0 w0.heap.size tr pr) (hd : load14 us + (2 * tl.size + 1) + (2 * tr.size + 1) ≤ 10001)
    (ho : w1.ownsRow B' 25 1 v1 (us.length + 2) (ptrs14 us.reverse ++ [.pointer pr, .pointer pl])) (hg : (w.alloc tmp).grownBy w1 v.ownBlock) : At14 Nd w0 r B' J S ((tl, pl) :: (tr, pr) :: us) pre v1 w1 := by
  have h1 := h.below hJ ((Below.refl w.heap.size w).alloc (Nat.le_refl _) tmp)
  have hk : Kf mine14 B' (w.alloc tmp) w1 := Kf.grown hg h1.ow rfl (Nat.le_refl _) h1.sz
  refine ⟨h1.base.trans (hk.below.mono h.low), ?_, h.none, h.good, ?_, ?_, hJ _ _ _ h1.j (.of_kf hk), by rw [load14_cons, load14_cons]; show 2 * tl.size + 1 + (2 * tr.size + 1 + load14 us) ≤ _; omega, Nat.le_trans h1.sz hk.size, h.low, h.rb⟩
  · refine (hg.block r (Array.getElem?_eq_some_iff.1 h1.been).1 (fun e => ?_)).trans h1.been
    rcases h.ow.2 with ⟨rfl, _⟩ | ⟨g, cap, cur, rfl, _, hg', _⟩
    · simp [Value.ownBlock] at e
    · obtain rfl : r = g := by simpa [Value.ownBlock] using e
      rw [h.been] at hg'
      cases hg'
  · simp only [List.reverse_cons, ptrs14, List.map_append, List.length_cons, List.append_assoc, List.map_cons, List.map_nil] at ho ⊢
    exact ho
  · intro u hu
    rcases List.mem_cons.1 hu with rfl | hu
    · exact hl
    · rcases List.mem_cons.1 hu with rfl | hu
      · exact hr
      · exact h.ls u hu
/-- the start -/
theorem Go14.start (f : Tr → Nat) (t0 : Tr) (w0 : World) (p : Option Addr) : Go14 Nd f t0 w0 [none] [(t0, p)] [] 0 := by
  refine ⟨by simp [size14], fun _ => ⟨(errL_one t0).symm, by rw [show trees14 [(t0, p)] = [t0] from rfl, placeL_one, Nat.zero_add], fun q hq t ht => ?_⟩⟩
  rw [List.mem_singleton.1 hq] at ht
  cases t with
  | e => exact ⟨[], [t0], rfl, fun _ => rfl, fun u hu => by cases hu⟩
  | n l k v g r => obtain ⟨_, _, _, e, _⟩ := ht; cases e
/-- a node where one has been -/
theorem Go14.again {t : Tr} {q : Option Addr} (h : Go14 Nd f t0 w0 S ((t, q) :: us) pre pl) (ht : TreeAt Nd w0 w0.heap.size t q) (hq : q ∈ S) : Go14 Nd f t0 w0 S us pre (pl + t.size) := by
  have hs := h.size
  rw [size14_cons] at hs
  refine ⟨by omega, fun hp => ?_⟩
  obtain ⟨h1, h2, h3⟩ := h.go hp
  rw [trees14_cons] at h1 h2 h3
  have hok := (h3 q hq t ht).again
  exact ⟨by rw [h1, errL_ok _ hok], by rw [h2, placeL_ok _ hok]; omega, fun q' hq' t' ht' => (h3 q' hq' t' ht').ok hok⟩
/-- a node that is right -/
theorem Go14.step (hN : NodeSays Nd) {l r : Tr} {k x g : BitVec 64} {a : Addr} {p1 p2 : Option Addr} (h : Go14 Nd f t0 w0 S ((.n l k x g r, some a) :: us) pre pl) (ht : TreeAt Nd w0 w0.heap.size (.n l k x g r) (some a)) :
    Go14 Nd f t0 w0 (S ++ [some a]) ((l, p1) :: (r, p2) :: us) (pre ++ [(pl, .n l k x g r, a)]) (pl + 1) := by
  have hs := h.size
  rw [size14_cons, Tr.size] at hs
  refine ⟨by rw [size14_cons, size14_cons]; omega, fun hp => ?_⟩
  have hf : f (.n l k x g r) = 0 := hp (pl, .n l k x g r, a) (List.mem_append_right _ (List.mem_singleton.2 rfl))
  obtain ⟨h1, h2, h3⟩ := h.go fun y hy => hp y (List.mem_append_left _ hy)
  rw [trees14_cons] at h1 h2 h3
  rw [trees14_cons, trees14_cons]
  refine ⟨by rw [h1, errL_yes _ hf], by rw [h2, placeL_yes _ hf]; omega, fun q' hq' t' ht' => ?_⟩
  rcases List.mem_append.1 hq' with hq' | hq'
  · exact (h3 q' hq' t' ht').down hf
  · rw [List.mem_singleton.1 hq'] at ht'
    rw [ht'.uniq hN ht]
    exact Past.first hf
theorem Go14.told {l r : Tr} {k x g : BitVec 64} {q : Option Addr} (h : Go14 Nd f t0 w0 S ((.n l k x g r, q) :: us) pre pl) (hp : ∀ y ∈ pre, f y.2.1 = 0) (hf : f (.n l k x g r) ≠ 0) : errF f t0 = f (.n l k x g r) ∧ placeF f t0 = pl := by
  obtain ⟨h1, h2, -⟩ := h.go hp
  rw [trees14_cons] at h1 h2
  exact ⟨by rw [h1, errL_no _ hf], by rw [h2, placeL_no _ hf]; rfl⟩
theorem Go14.done (h : Go14 Nd f t0 w0 S [] pre pl) (hp : ∀ y ∈ pre, f y.2.1 = 0) : errF f t0 = 0 := (h.go hp).1
end
theorem good_tree14 (hN : NodeSays Nd) {w : World} {t : Tr} {p : Option Addr} (h : TreeAt Nd w w.heap.size t p) : GoodP w p := fun a e => by
  subst e
  cases t with
  | e => cases h
  | n l k v g r =>
    obtain ⟨a', pl, pr, ha, hnd, -, -⟩ := h
    cases ha
    exact hN.lies hnd
theorem info_ptr14 : (Try.prog.info? 25).map (fun i => (i.zero, i.size, i.bytes)) = some (some (.pointer none), 1, 8) := by kernel_rfl
theorem size_ptr14 (W : World) : (sizeOf 25).run Try.prog W = .ok 1 W := by kernel_rfl
theorem zero_bool14 (W : World) : (zeroValue 4).run Try.prog W = .ok (.bool false) W := by kernel_rfl
theorem look14 (W : World) (r : Nat) (S : List (Option Addr)) (hr : W.heap[r]? = some (setO S)) (hg : ∀ q ∈ S, GoodP W q) (p : Option Addr) (h : GoodP W p) (B : Bool) (hB : decide (p ∈ S) = B) :
    (Instr.lookup 104 (.map (some r)) (.pointer p) false).run Try.prog W = .ok (.bool B) W := by
  obtain ⟨j, hj, hs⟩ := node_info
  exact look_ptr W Try.underlying104 Try.underlying25 hj hs (zero_bool14 W) r S hr hg p h B hB
theorem put14 (W : World) (r : Nat) (S : List (Option Addr)) (hr : W.heap[r]? = some (setO S)) (hg : ∀ q ∈ S, GoodP W q) (p : Option Addr) (h : GoodP W p) (hx : p ∉ S) :
    (Instr.mapUpdate 104 (.map (some r)) (.pointer p) (.bool true)).run Try.prog W = .ok () (W.putObj r (setO (S ++ [p]))) := by
  obtain ⟨j, hj, hs⟩ := node_info
  exact put_ptr W Try.underlying104 Try.underlying25 hj hs r S hr hg p h hx
/-- how big a tree is, by Size -/
theorem size_any14 (hN : NodeSays Nd) {W : World} {B : Nat} {t : Tr} {p : Option Addr} (h : TreeAt Nd W B t p) (h5 : t.size ≤ 5000) : Calls Try.prog 24 #[.pointer p] W fun e w' => e = .returned (nI t.size) ∧ Below W.heap.size W w' := by
  have := h.look.size hN
  rw [show K (BitVec.ofNat 64 t.size) = nI t.size from by show Value.int .i64 _ = _; rw [size_bits (Nat.le_trans h5 (by decide))]] at this
  exact this
end Go.Proofs.Ytifhnaelkjfmdab
/- Package beads, as landed (what avl, rb, wb share): the walk over a tree's nodes, and what starts it. -/
namespace Go.Proofs.Ytifhnaelkjfmdab
open Go.RowKit Go.Shelf Go.Proofs.Treem
attribute [local go_sem] Oper.semAt_some
set_option maxRecDepth 100000
variable {Nd : NdP}

set_option maxHeartbeats 8000000 in
theorem once_turns (hN : NodeSays Nd) (w0 : World) (f : Tr → Nat) (t : Tr) (p : Option Addr) (ht : TreeAt Nd w0 w0.heap.size t p) (h5 : t.size ≤ 5000) (gT : Nat) (w : World) (hb0 : Below w0.heap.size w0 w) (hP : Boxed w gT 25 (.pointer p)) (n : Nat) :
    SeqTurns mine14 Fence.wide n Try.prog 75 #[.pointer (some ⟨gT, 0, none⟩)] (fun x : It14 => #[nI x.1, .pointer (some x.2.2)]) (Kf none14 w0.heap.size) (Told14 Nd f t w0) (fun xs => (∀ y ∈ xs, f y.2.1 = 0) → errF f t = 0) w := fun l J Jx W hbW hJ hJx hY hJ0 => by
  obtain ⟨i0, hin, hz0, hz1, hz2⟩ := info_parts info_ptr14
  obtain ⟨B', hB'⟩ : ∃ b, W.heap.size = b := ⟨_, rfl⟩
  obtain ⟨r, hr⟩ : ∃ b, W.heap.size = b := ⟨_, rfl⟩
  have bw : Below w0.heap.size w0 W := hb0.trans (hbW.mono hb0.size)
  have xP : W.cell? ⟨gT, 0, none⟩ = some (.pointer p) := keep_cell hbW hP.cell
  have hgT : gT < W.heap.size := Nat.lt_of_lt_of_le hP.lt hbW.size
  have gnone : ∀ V, GoodP V none := fun V a e => by cases e
  obtain ⟨W1, hW1⟩ : ∃ W1, (W.alloc (.map #[] 0)).putObj r (setO [none]) = W1 := ⟨_, rfl⟩
  have hm0 : (W.alloc (.map #[] 0)).heap[r]? = some (setO []) := hr ▸ World.alloc_heap_new W _
  have hput : (Instr.mapUpdate 104 (.map (some W.heap.size)) (.pointer none) (.bool true)).run Try.prog (W.alloc (.map #[] 0)) = .ok () W1 := by
    rw [hr, ← hW1]
    exact put14 _ r [] hm0 (fun q hq => by cases hq) none (gnone _) (by simp)
  have hmm := @run_makeMap Try.prog
  have ha : Below W.heap.size W (W.alloc (.map #[] 0)) := (Below.refl _ W).alloc (Nat.le_refl _) _
  have b1 : Below W.heap.size W W1 := by
    have hk : Kf (fun _ => false) r (W.alloc (.map #[] 0)) ((W.alloc (.map #[] 0)).putObj r (setO [none])) := Kf.putObj _ r _ _ (Nat.le_refl _) hm0 rfl
    rw [hW1] at hk
    exact ha.trans (hr ▸ hk.below)
  have been1 : W1.heap[r]? = some (setO [none]) := hW1 ▸ World.putObj_heap_same (Array.getElem?_eq_some_iff.1 hm0).1
  have xP1 : W1.cell? ⟨gT, 0, none⟩ = some (.pointer p) := keep_cell b1 xP
  obtain ⟨W2, hW2⟩ : ∃ W2, W1.alloc (.cells #[.pointer p] 25) = W2 := ⟨_, rfl⟩
  obtain ⟨gO, hgO⟩ : ∃ g, W1.heap.size = g := ⟨_, rfl⟩
  have b2 : Below W1.heap.size W1 W2 := hW2 ▸ (Below.refl _ W1).alloc (Nat.le_refl _) _
  have ow2 : W2.ownsRow B' 25 1 (.slice (some ⟨gO, 0, none⟩) 1 1) 1 [.pointer p] := hgO ▸ hW2 ▸ World.ownsRow_lit W1 #[.pointer p] 1 (hB' ▸ b1.size) (by decide) rfl
  rw [hB'] at hJ hJx hY
  have h1 : At14 Nd w0 r B' J [none] [(t, p)] [] (.slice (some ⟨gO, 0, none⟩) 1 1) W2 :=
    ⟨bw.trans ((Below.after b1 b2).mono bw.size), (b2.block r (Array.getElem?_eq_some_iff.1 been1).1).trans been1, List.mem_singleton.2 rfl, (fun q hq => by rw [List.mem_singleton.1 hq]; exact gnone _), ow2, (fun u hu => by rw [List.mem_singleton.1 hu]; exact ht), hJ _ _ _ hJ0 (.of_below (Below.after b1 b2)), by show 2 * t.size + 1 + 0 ≤ _; omega, hB' ▸ (Below.after b1 b2).size, hB' ▸ bw.size, by omega⟩
  have H1 := Lib.hid h1
  have G1 : Hid (Go14 Nd f t w0 [none] [(t, p)] [] 0) := Go14.start f t w0 p
  have H5000 := Lib.hid h5
  obtain ⟨mu, hmu⟩ := least_of (α := Value × Value × World) (fun m q => ∃ (S : List (Option Addr)) (us : List (Tr × Option Addr)) (pre : List It14) (pl : Nat), m = load14 us ∧ q.1 = nI pl ∧ At14 Nd w0 r B' J S us pre q.2.1 q.2.2 ∧ Go14 Nd f t w0 S us pre pl)
  have hmu' := Lib.hid hmu
  have HW1 := Lib.hid hW1
  have HW2 := Lib.hid hW2
  have HR := Lib.hid hr
  have HO := Lib.hid hgO
  have hN' := Lib.hid hN
  have hJ' := Lib.hid hJ
  have hY' := Lib.hid hY
  clear hmu hW1 hW2 hr hgO hN hJ hJx hY h1 bw b1 b2 ow2 been1 ha hm0 hJ0 hB' ht h5 hb0 hP hbW gnone hgT
  refine callsIn_of_wp Try.func75 rfl trivial ?_ rfl
  simp only [Try.ntmps75, List.size_toArray, List.length_cons, List.length_nil, Nat.reduceAdd, Nat.reduceSub, Array.replicate_succ, Array.replicate_zero, List.push_toArray, List.append_toArray, List.nil_append, List.cons_append]
  refine wpIn_wide.2 ?_
  go_upto_region 2 with (fail)
  clear hput hmm xP
  rw [HR.out]
  go_wp2_with fail
  rw [HW2.out, HO.out]
  clear xP1
  go_loopw [3, 5] (fun x v wr => ∃ (m : Nat) (S : List (Option Addr)) (us : List (Tr × Option Addr)) (pre : List It14) (pl : Nat), m = load14 us ∧ x = nI pl ∧ At14 Nd w0 r B' J S us pre v wr ∧ Go14 Nd f t w0 S us pre pl) (fun x v wr => mu (x, v, wr))
  case atStart => exact ⟨_, _, _, _, 0, rfl, rfl, H1.out, G1.out⟩
  case round =>
    clear H1 G1
    obtain ⟨m, hm⟩ := hrel
    obtain ⟨⟨S, us, pre, pl, em, ex, h3, G3⟩, -⟩ := hmu'.out (_, _, wr) m hm
    simp only at h3 ex
    subst ex
    have G3 := Lib.hid G3
    obtain ⟨A, c, rfl, hcn, -, -⟩ := own_slice h3.ow
    cases us with
    | nil =>
      have H3 := Lib.hid h3
      clear h3 hm em hcn
      go_wp2_with fail
      go_end0
      exact ⟨⟨_, rfl⟩, .inl ⟨pre, G3.out.done, H3.out.j⟩⟩
    | cons u us =>
      obtain ⟨tn, q⟩ := u
      obtain ⟨mm, hmm⟩ : ∃ n, us.length = n := ⟨_, rfl⟩
      obtain ⟨nn, hnn⟩ : ∃ n, mm + 1 = n := ⟨_, rfl⟩
      have hld := h3.ld
      have hfew := load14_len us
      rw [hmm] at hfew
      rw [load14_cons] at hld em
      simp only at hld em
      have d5 : mm ≤ 10001 := by omega
      obtain ⟨ad, rfl, g0⟩ := h3.top hmm
      have htn : TreeAt Nd w0 w0.heap.size tn q := h3.ls _ (List.mem_cons_self ..)
      have gq0 : GoodP w0 q := good_tree14 hN'.out htn
      have gq : GoodP wr q := gq0.below h3.base
      rw [List.length_cons, hmm, hnn] at h3 hcn em ⊢
      have e1 : wrap64 ((nn : Int) - 1) = (mm : Int) := by unfold wrap64; omega
      have d1 : decide ((0 : Int) < (nn : Int)) = true := decide_eq_true (by omega)
      have d2 : 0 < nn := by omega
      have hix : mm < nn := by omega
      have ct : ∀ W, (Instr.slice 85 (.slice (some ad) nn c) none (some (.int .i64 (mm : Int))) none).run Try.prog W = .ok (.slice (some ad) mm c) W := cut_to Try.underlying85 size_ptr14 (some ad) nn c mm _ rfl (by omega)
      have hnS : none ∈ S := h3.none
      obtain ⟨B, hB⟩ : ∃ b, decide (q ∈ S) = b := ⟨_, rfl⟩
      have lk := look14 wr r S h3.been h3.goods q gq B hB
      have H4 := Lib.hid (h3.pop hmm hnn)
      have hnn' := Lib.hid hnn
      have hmm' := Lib.hid hmm
      have em' := Lib.hid em
      have htn' := Lib.hid htn
      have hld' := Lib.hid hld
      have hB' := Lib.hid hB
      have gq' := Lib.hid gq
      have gq0' := Lib.hid gq0
      have hnS' := Lib.hid hnS
      clear h3 hm em hcn hnn hmm htn hld hfew hB gq gq0 hnS
      cases B with
      | true =>
        have hq : q ∈ S := of_decide_eq_true hB'.out
        have G5 := Lib.hid (G3.out.again htn'.out hq)
        have hs5 := G5.out.size
        have h50 := H5000.out
        have e5 : wrap64 ((pl : Int) + (tn.size : Int)) = ((pl + tn.size : Nat) : Int) := by unfold wrap64; omega
        have cZ : Hid (Calls Try.prog 24 #[.pointer q] wr fun e w' => e = .returned (nI tn.size) ∧ Below wr.heap.size wr w') := size_any14 hN'.out (htn'.out.next hN'.out H4.out.base) (by omega)
        obtain ⟨sz, hsz⟩ : ∃ s, tn.size = s := ⟨_, rfl⟩
        have hsz' := Lib.hid hsz
        rw [hsz] at e5 cZ
        clear hs5 h50 hq hsz
        go_wp2_with fail
        refine cZ.out.mono ?_
        rintro e w5 ⟨rfl, hb5⟩
        have H5 := Lib.hid (H4.out.below hJ'.out hb5)
        clear hb5 cZ
        have hm := Lib.hid (hmu'.out (nI (pl + tn.size), .slice (some ad) mm c, w5) _ ⟨_, _, _, pl + tn.size, rfl, rfl, H5.out, G5.out⟩)
        rw [hsz'.out] at hm
        go_wp2_with fail
        go_roundw
        case rel => rw [e5]; exact ⟨_, (hm.out).1⟩
        case measure =>
          rw [e5]
          have h1 : mu (.int .i64 ((pl + sz : Nat) : Int), .slice (some ad) mm c, w5) ≤ _ := hm.out.2
          have h2 := em'.out
          omega
      | false =>
        have hq : q ∉ S := of_decide_eq_false hB'.out
        have hp := put14 wr r S H4.out.been H4.out.goods q gq'.out hq
        have H5 := Lib.hid (H4.out.put (p := q) hJ'.out gq0'.out)
        obtain ⟨wb, hwb⟩ : ∃ wb, wr.putObj r (setO (S ++ [q])) = wb := ⟨_, rfl⟩
        rw [hwb] at hp H5
        clear hwb H4
        cases tn with
        | e =>
          obtain rfl : q = none := htn'.out
          exact absurd hnS'.out hq
        | n tl k x g tr =>
          obtain ⟨a, pL, pr, rfl, hnd, hl, hr⟩ := htn'.out
          have G6 := Lib.hid (Go14.step (p1 := pL) (p2 := pr) hN'.out G3.out htn'.out)
          have hs5 := G3.out.size
          rw [size14_cons, Tr.size] at hs5
          have h50 := H5000.out
          have hTold : Told14 Nd f t w0 pre (pl, .n tl k x g tr, a) wb := ⟨htn'.out, H5.out.base, by show pl + (1 + tl.size + tr.size) ≤ 5000; omega, G3.out.told⟩
          have e5 : wrap64 ((pl : Int) + 1) = ((pl + 1 : Nat) : Int) := by unfold wrap64; omega
          clear hs5 h50
          obtain ⟨fnY, tmY, asY, bdY, hyv, hR⟩ := round_any (m' := 0) (show YieldAt _ _ _ _ #[.int .i64 (pl : Int), .pointer (some a)] wb _ from hY'.out pre (pl, .n tl k x g tr, a) wb H5.out.j hTold)
          have hR' := Lib.hid hR
          have hnd' := Lib.hid hnd
          have hl' := Lib.hid hl
          have hr' := Lib.hid hr
          have hsz : Hid (Tr.size (.n tl k x g tr) = 1 + tl.size + tr.size) := rfl
          rw [hsz.out] at em' hld'
          clear hR hTold hnd hl hr hsz hq
          go_upto_region 10 with (fail)
          refine (wpIn_wide (n := 0)).1 ?_
          gi_wp2
          refine ⟨rfl, ?_⟩
          refine hR'.out.mono ?_
          clear hR' hyv hp lk g0
          rintro e wy ⟨⟨rfl, hj, hk⟩ | ⟨rfl, hx⟩, hf⟩
          · have HY := Lib.hid (H5.out.yielded hj hk hf)
            have bY := HY.out.base
            have cR : Hid (Calls Try.prog 17 #[.pointer (some a)] wy fun e w' => e = .returned (.pointer pr) ∧ wy = w') := hN'.out.right wy w0.heap.size a _ (hN'.out.next hnd'.out bY)
            have cL : Hid (Calls Try.prog 16 #[.pointer (some a)] wy fun e w' => e = .returned (.pointer pL) ∧ wy = w') := hN'.out.left wy w0.heap.size a _ (hN'.out.next hnd'.out bY)
            have hsl : wy.ownsRow B' 25 1 (.slice (some ad) mm c) mm (ptrs14 us.reverse) := hmm'.out ▸ HY.out.ow
            have hby : B' ≤ wy.heap.size := HY.out.sz
            clear hj hk hf bY
            gi_wp2
            go_wp2_with fail
            refine cR.out.mono ?_
            rintro e w' ⟨rfl, rfl⟩
            go_wp2_with fail
            refine cL.out.mono ?_
            rintro e w' ⟨rfl, rfl⟩
            go_wp2_with (
              (at_builtin
               refine wpList_append_own _ rfl _ _ 85 rfl B' 25 i0 (.pointer none) 1 8 Try.underlying85 hin hz0 hz1 hz2 rfl (by decide) (.slice (some ad) mm c) mm (ptrs14 us.reverse) rfl (hsl.alloc _) ⟨wy.heap.size, 0, none⟩ 2 2 [.pointer pr, .pointer pL] rfl rfl (fun j u hu => ((Has.new wy 25 #[.pointer pr, .pointer pL]).row.at_ hu).2) (by simp [Value.oneCell']) (by unfold maxLen; omega) (by omega) (by simp; omega) ?_
               intro v2 w4 hown' hgrow _
               obtain ⟨g', cap', rfl⟩ := ownsRow_succ hown'
               have H9 := Lib.hid (HY.out.push (tl := tl) (tr := tr) (pl := pL) (pr := pr) hJ'.out hl'.out hr'.out (by have := hld'.out; omega) (by rw [hmm'.out]; exact hown') hgrow)
               have hm := Lib.hid (hmu'.out (nI (pl + 1), _, w4) _ ⟨_, _, _, pl + 1, rfl, rfl, H9.out, G6.out⟩)))
            go_roundw
            case rel => exact ⟨_, (hm.out).1⟩
            case measure =>
              have h1 := hm.out.2
              have h2 := em'.out
              rw [load14_cons, load14_cons, show nI (pl + 1) = Value.int .i64 ((pl : Int) + 1) from rfl] at h1
              simp only at h1
              omega
          · have hx' := Lib.hid hx
            clear hx
            gi_wp2
            go_wp2_with fail
            exact bodyPost_ret (results_none rfl _ _ _) rfl ⟨⟨_, rfl⟩, .inr ⟨_, hx'.out⟩⟩
set_option maxHeartbeats 1000000 in
theorem once_any (p : Option Addr) (w : World) : Calls Try.prog 65 #[.pointer p] w fun e w' =>
    e = .returned (.func (.func 75) #[] #[.pointer (some ⟨w.heap.size, 0, none⟩)]) ∧ w.alloc (.cells #[.pointer p] 25) = w' := by
  go_enter Try.func65, Try.ntmps65
  go_wp2
  go_ret
  exact ⟨rfl, rfl⟩
end Go.Proofs.Ytifhnaelkjfmdab
/- Package rb, as landed: kindOf, kindOver, tag, Red, High, Make, Blacken, Rank. -/
namespace Go.Proofs.Ytifhnaelkjfmdab
open Go.RowKit Go.Proofs.Treem
set_option maxRecDepth 100000
variable {Nd : NdP}

theorem kind_f0 (W : World) (a b : Int) : (Instr.field 61 (.agg #[.int .u64 a, .int .u64 b]) 0).run Try.prog W = .ok (.int .u64 a) W := by kernel_rfl
theorem kind_f1 (W : World) (a b : Int) : (Instr.field 61 (.agg #[.int .u64 a, .int .u64 b]) 1).run Try.prog W = .ok (.int .u64 b) W := by kernel_rfl
set_option maxHeartbeats 4000000 in
/-- what a tree's root is -/
theorem kindOf_any (hN : NodeSays Nd) (w : World) (t : Tr) (p : Option Addr) (ht : TreeAt Nd w w.heap.size t p) (c d : Nat) (hc : t.tag.toNat % 2 = c) (hd : t.tag.toNat / 2 = d) :
    Calls Try.prog 50 #[.pointer p] w fun e w' => e = .returned (.agg #[.int .u64 (c : Int), .int .u64 (d : Int)]) ∧ Below w.heap.size w w' := by
  have tg : Hid (∀ V, Below w.heap.size w V → Calls Try.prog 38 #[.pointer p] V fun e w' => e = .returned (.int .u64 (t.tag.toNat : Int)) ∧ Below V.heap.size V w') := fun V h => TreeAt.tag hN (ht.after hN h)
  obtain ⟨m, hm⟩ : ∃ m, t.tag.toNat = m := ⟨_, rfl⟩
  have hlm := t.tag.isLt
  rw [hm] at tg hc hd hlm
  obtain ⟨sz, hsz⟩ : ∃ sz, w.heap.size = sz := ⟨_, rfl⟩
  obtain ⟨W, hW⟩ : ∃ W, w.alloc (.cells #[.int .u64 0, .int .u64 0] 61) = W := ⟨_, rfl⟩
  have b0 : Hid (Below w.heap.size w W) := hW ▸ (Below.refl _ w).alloc (Nat.le_refl _) _
  have g0 : Hid (Has W sz 61 #[.int .u64 0, .int .u64 0]) := hsz ▸ hW ▸ Has.new w _ _
  have e1 : (m : Int).tmod 2 = (c : Int) := by rw [Int.tmod_eq_emod_of_nonneg (by omega)]; omega
  have e2 : (m : Int).tdiv 2 = (d : Int) := by rw [Int.tdiv_eq_ediv_of_nonneg (by omega)]; omega
  have e3 : (m : Int) % 2 = (c : Int) := by omega
  have e4 : (m : Int) / 2 = (d : Int) := by omega
  have e5 : IntKind.u64.wrap (d : Int) = (d : Int) := by rw [IntKind.wrap_u64]; omega
  have HS := Lib.hid hsz
  have HW := Lib.hid hW
  clear hN ht hc hd hsz hW hlm hm
  go_enter Try.func50, Try.ntmps50
  go_wp2_with fail
  rw [HS.out, HW.out]
  refine (tg.out W b0.out).mono ?_
  rintro e w1 ⟨rfl, hb⟩
  have b1 := Lib.hid (Below.after b0.out hb)
  have g1 := Lib.hid (g0.out.next hb)
  clear hb b0 g0
  go_wp2_with fail
  refine (tg.out w1 b1.out).mono ?_
  rintro e w2 ⟨rfl, hb⟩
  have b2 := Lib.hid (Below.after b1.out hb)
  have g2 := Lib.hid (g1.out.next hb)
  clear hb b1 g1 tg
  have x0 := g2.out.free 0
  have x1 := g2.out.free 1
  have r0 := g2.out.cell 0
  have r1 := g2.out.cell 1
  simp only [List.getElem?_toArray, List.getElem?_cons_zero, List.getElem?_cons_succ] at r0 r1
  go_wp2_with fail
  refine bodyPost_ret (Ret.row rfl _ _ sz 61 _ (0, 0) _ rfl (Ret.put2 g2.out _ _) Try.underlying61 rfl (by kernel_rfl)) rfl ?_
  exact ⟨rfl, ((b2.out.setCell (p := ⟨sz, 0, none⟩) (by rw [HS.out]; exact Nat.le_refl _) _).setCell (p := ⟨sz, 1, none⟩) (by rw [HS.out]; exact Nat.le_refl _) _)⟩
set_option maxHeartbeats 4000000 in
/-- what a node of that colour over that left side ought to be -/
theorem kindOver_any (hN : NodeSays Nd) (w : World) (t : Tr) (p : Option Addr) (ht : TreeAt Nd w w.heap.size t p) (x y : Nat) (hy : (x = 0 ∧ y = t.tag.toNat / 2 + 1) ∨ (x ≠ 0 ∧ y = t.tag.toNat / 2)) :
    Calls Try.prog 41 #[.pointer p, .int .u64 (x : Int)] w fun e w' => e = .returned (.agg #[.int .u64 (x : Int), .int .u64 (y : Int)]) ∧ Below w.heap.size w w' := by
  obtain ⟨c, hc⟩ : ∃ c, t.tag.toNat % 2 = c := ⟨_, rfl⟩
  obtain ⟨d, hd⟩ : ∃ d, t.tag.toNat / 2 = d := ⟨_, rfl⟩
  have hlt : d < 9223372036854775808 := by have := t.tag.isLt; omega
  have cK : Hid (∀ V, Below w.heap.size w V → Calls Try.prog 50 #[.pointer p] V fun e w' => e = .returned (.agg #[.int .u64 (c : Int), .int .u64 (d : Int)]) ∧ Below V.heap.size V w') := fun V h => kindOf_any hN V t p (ht.after hN h) c d hc hd
  rw [hd] at hy
  obtain ⟨sz, hsz⟩ : ∃ sz, w.heap.size = sz := ⟨_, rfl⟩
  obtain ⟨W, hW⟩ : ∃ W, w.alloc (.cells #[.int .u64 0, .int .u64 0] 61) = W := ⟨_, rfl⟩
  have b0 : Hid (Below w.heap.size w W) := hW ▸ (Below.refl _ w).alloc (Nat.le_refl _) _
  have g0 : Hid (Has W sz 61 #[.int .u64 0, .int .u64 0]) := hsz ▸ hW ▸ Has.new w _ _
  have HS := Lib.hid hsz
  have HW := Lib.hid hW
  clear hN ht hc hd hsz hW
  rcases hy with ⟨rfl, hy⟩ | ⟨hx, rfl⟩
  · have e1 : IntKind.u64.wrap ((d : Int) + 1) = (y : Int) := by rw [IntKind.wrap_u64]; omega
    have f1 := fun W => kind_f1 W c d
    clear hy hlt
    go_enter Try.func41, Try.ntmps41
    go_wp2_with fail
    rw [HS.out, HW.out]
    refine (cK.out W b0.out).mono ?_
    rintro e w2 ⟨rfl, hb⟩
    have b2 := Lib.hid (Below.after b0.out hb)
    have g2 := Lib.hid (g0.out.next hb)
    clear hb b0 g0 cK
    have x0 := g2.out.free 0
    have x1 := g2.out.free 1
    have r0 := g2.out.cell 0
    have r1 := g2.out.cell 1
    simp only [List.getElem?_toArray, List.getElem?_cons_zero, List.getElem?_cons_succ] at r0 r1
    go_wp2_with fail
    refine bodyPost_ret (Ret.row rfl _ _ sz 61 _ (0, 0) _ rfl (Ret.put2 g2.out _ _) Try.underlying61 rfl (by kernel_rfl)) rfl ?_
    exact ⟨rfl, ((b2.out.setCell (p := ⟨sz, 0, none⟩) (by rw [HS.out]; exact Nat.le_refl _) _).setCell (p := ⟨sz, 1, none⟩) (by rw [HS.out]; exact Nat.le_refl _) _)⟩
  · have e1 : ((x : Int) == 0) = false := by rw [beq_eq_false_iff_ne]; omega
    have f1 := fun W => kind_f1 W c y
    clear hlt
    go_enter Try.func41, Try.ntmps41
    go_wp2_with fail
    rw [HS.out, HW.out]
    refine (cK.out W b0.out).mono ?_
    rintro e w2 ⟨rfl, hb⟩
    have b2 := Lib.hid (Below.after b0.out hb)
    have g2 := Lib.hid (g0.out.next hb)
    clear hb b0 g0 cK
    have x0 := g2.out.free 0
    have x1 := g2.out.free 1
    have r0 := g2.out.cell 0
    have r1 := g2.out.cell 1
    simp only [List.getElem?_toArray, List.getElem?_cons_zero, List.getElem?_cons_succ] at r0 r1
    go_wp2_with fail
    refine bodyPost_ret (Ret.row rfl _ _ sz 61 _ (0, 0) _ rfl (Ret.put2 g2.out _ _) Try.underlying61 rfl (by kernel_rfl)) rfl ?_
    exact ⟨rfl, ((b2.out.setCell (p := ⟨sz, 0, none⟩) (by rw [HS.out]; exact Nat.le_refl _) _).setCell (p := ⟨sz, 1, none⟩) (by rw [HS.out]; exact Nat.le_refl _) _)⟩
set_option maxHeartbeats 4000000 in
/-- the tag of such a kind -/
theorem kindTag_any (w : World) (c h y z : Int) (e1 : IntKind.u64.wrap (h * 2) = y) (e2 : IntKind.u64.wrap (y + c) = z) : Calls Try.prog 42 #[.agg #[.int .u64 c, .int .u64 h]] w fun e w' => e = .returned (.int .u64 z) ∧ Below w.heap.size w w' := by
  go_enter Try.func42, Try.ntmps42
  go_wp2
  go_ret
  exact ⟨rfl, (Below.refl _ _).alloc (Nat.le_refl _) _⟩
set_option maxHeartbeats 4000000 in
theorem rbRed_any (hN : NodeSays Nd) (w : World) (t : Tr) (p : Option Addr) (ht : TreeAt Nd w w.heap.size t p) : Calls Try.prog 21 #[.pointer p] w fun e w' => e = .returned (.bool (redR t)) ∧ Below w.heap.size w w' := by
  obtain ⟨c, hc⟩ : ∃ c, t.tag.toNat % 2 = c := ⟨_, rfl⟩
  obtain ⟨d, hd⟩ : ∃ d, t.tag.toNat / 2 = d := ⟨_, rfl⟩
  have cK := Lib.hid (kindOf_any hN w t p ht c d hc hd)
  have e1 : ((c : Int) == 1) = redR t := by
    rw [redR, hc]
    by_cases h : c = 1
    · rw [h]; rfl
    · rw [beq_eq_false_iff_ne.2 h, beq_eq_false_iff_ne]; omega
  obtain ⟨b, hb⟩ : ∃ b, redR t = b := ⟨_, rfl⟩
  rw [hb] at e1 ⊢
  have f0 := fun W => kind_f0 W c d
  clear hN ht hc hd hb
  go_enter Try.func21, Try.ntmps21
  go_wp2_with fail
  refine cK.out.mono ?_
  rintro e w1 ⟨rfl, hb⟩
  have b1 := Lib.hid hb
  clear hb cK
  go_wp2
  go_ret
  exact ⟨rfl, b1.out⟩
set_option maxHeartbeats 4000000 in
theorem rbHigh_any' (hN : NodeSays Nd) (w : World) (t : Tr) (p : Option Addr) (ht : TreeAt Nd w w.heap.size t p) : Calls Try.prog 20 #[.pointer p] w fun e w' => e = .returned (nI (highR t)) ∧ Below w.heap.size w w' := by
  obtain ⟨c, hc⟩ : ∃ c, t.tag.toNat % 2 = c := ⟨_, rfl⟩
  obtain ⟨d, hd⟩ : ∃ d, t.tag.toNat / 2 = d := ⟨_, rfl⟩
  have cK := Lib.hid (kindOf_any hN w t p ht c d hc hd)
  have e1 : IntKind.i64.wrap (d : Int) = (d : Int) := IntWalk.i64_in _ (by have := t.tag.isLt; omega)
  rw [highR, hd]
  have f1 := fun W => kind_f1 W c d
  clear hN ht hc hd
  go_enter Try.func20, Try.ntmps20
  go_wp2_with fail
  refine cK.out.mono ?_
  rintro e w1 ⟨rfl, hb⟩
  have b1 := Lib.hid hb
  clear hb cK
  go_wp2
  go_ret
  exact ⟨rfl, b1.out⟩
set_option maxHeartbeats 4000000 in
theorem rbMake_any (hN : NodeSays Nd) (w : World) (L R : AT) (k v : BitVec 64) (red : Bool) (hl : Stand Nd w L) (hr : Stand Nd w R) : Calls Try.prog 12 #[.pointer L.ptr, K k, K v, .bool red, .pointer R.ptr] w (Made13 Nd L R k v (tagR L.tr red) w) := by
  obtain ⟨d, hd⟩ : ∃ d, L.tr.tag.toNat / 2 = d := ⟨_, rfl⟩
  have hlt : d < 9223372036854775808 := by have := L.tr.tag.isLt; omega
  obtain ⟨G, hG⟩ : ∃ G, tagR L.tr red = G := ⟨_, rfl⟩
  have hg : G.toNat = (2 * d + if red then 1 else 2) % 18446744073709551616 := by rw [← hG, tagR, BitVec.toNat_ofNat, highR, hd]
  obtain ⟨z, hz⟩ : ∃ z : Int, (G.toNat : Int) = z := ⟨_, rfl⟩
  have cN : Hid (∀ W, Below w.heap.size w W → Calls Try.prog 40 #[.pointer L.ptr, K k, K v, .int .u64 z, .pointer R.ptr] W (Made13 Nd L R k v G W)) := fun W h => hz ▸ new13 hN W L R k v G (hl.after hN h) (hr.after hN h)
  have cO : Hid (∀ x y : Nat, (x = 0 ∧ y = d + 1) ∨ (x ≠ 0 ∧ y = d) → Calls Try.prog 41 #[.pointer L.ptr, .int .u64 (x : Int)] w fun e w' => e = .returned (.agg #[.int .u64 (x : Int), .int .u64 (y : Int)]) ∧ Below w.heap.size w w') := fun x y h => kindOver_any hN w L.tr L.ptr hl.tree x y (by rw [hd]; exact h)
  obtain ⟨pl, hpl⟩ : ∃ p, L.ptr = p := ⟨_, rfl⟩
  obtain ⟨pr, hpr⟩ : ∃ p, R.ptr = p := ⟨_, rfl⟩
  rw [hpl, hpr] at cN
  rw [hpl] at cO
  rw [hpl, hpr, hG]
  cases red with
  | true =>
    rw [if_pos rfl] at hg
    have e1 : IntKind.u64.wrap ((d : Int) * 2) = ((d * 2 : Nat) : Int) := by rw [IntKind.wrap_u64]; omega
    have e2 : IntKind.u64.wrap (((d * 2 : Nat) : Int) + 1) = z := by rw [IntKind.wrap_u64]; omega
    have cT : Hid (∀ W, Calls Try.prog 42 #[.agg #[.int .u64 1, .int .u64 (d : Int)]] W fun e w' => e = .returned (.int .u64 z) ∧ Below W.heap.size W w') := fun W => kindTag_any W 1 d _ z e1 e2
    have cO1 : Hid (Calls Try.prog 41 #[.pointer pl, .int .u64 1] w fun e w' => e = .returned (.agg #[.int .u64 1, .int .u64 (d : Int)]) ∧ Below w.heap.size w w') := cO.out 1 d (.inr ⟨by decide, rfl⟩)
    clear hG hz hl hr hN hpl hpr e1 e2 hg hlt hd cO
    go_enter Try.func12, Try.ntmps12
    go_wp2_with fail
    refine cO1.out.mono ?_
    rintro e w1 ⟨rfl, hb⟩
    have b1 := Lib.hid hb
    clear hb cO1
    go_wp2_with fail
    refine (cT.out w1).mono ?_
    rintro e w2 ⟨rfl, hb⟩
    have b2 := Lib.hid (Below.after b1.out hb)
    clear hb cT b1
    go_wp2_with fail
    refine (cN.out w2 b2.out).mono ?_
    rintro e w3 ⟨a, x, rfl, hx, hs, ha, hb⟩
    have B3 := Lib.hid (Below.after b2.out hb)
    have HX := Lib.hid hx
    have HS := Lib.hid hs
    have HA := Lib.hid (Nat.le_trans b2.out.size ha)
    clear hb hx hs ha
    go_wp2
    go_ret
    exact ⟨a, x, rfl, HX.out, HS.out, HA.out, B3.out⟩
  | false =>
    rw [if_neg (by decide)] at hg
    obtain ⟨y, hy⟩ : ∃ y : Int, IntKind.u64.wrap (((d + 1 : Nat) : Int) * 2) = y := ⟨_, rfl⟩
    have e2 : IntKind.u64.wrap (y + 0) = z := by rw [← hy, IntKind.wrap_u64, IntKind.wrap_u64]; omega
    have cT : Hid (∀ W, Calls Try.prog 42 #[.agg #[.int .u64 0, .int .u64 ((d + 1 : Nat) : Int)]] W fun e w' => e = .returned (.int .u64 z) ∧ Below W.heap.size W w') := fun W => kindTag_any W 0 _ _ z hy e2
    have cO1 : Hid (Calls Try.prog 41 #[.pointer pl, .int .u64 0] w fun e w' => e = .returned (.agg #[.int .u64 0, .int .u64 ((d + 1 : Nat) : Int)]) ∧ Below w.heap.size w w') := cO.out 0 (d + 1) (.inl ⟨rfl, rfl⟩)
    obtain ⟨u, hu⟩ : ∃ u : Int, ((d + 1 : Nat) : Int) = u := ⟨_, rfl⟩
    rw [hu] at cT cO1
    clear hG hz hl hr hN hpl hpr hy e2 hg hlt hd cO hu
    go_enter Try.func12, Try.ntmps12
    go_wp2_with fail
    refine cO1.out.mono ?_
    rintro e w1 ⟨rfl, hb⟩
    have b1 := Lib.hid hb
    clear hb cO1
    go_wp2_with fail
    refine (cT.out w1).mono ?_
    rintro e w2 ⟨rfl, hb⟩
    have b2 := Lib.hid (Below.after b1.out hb)
    clear hb cT b1
    go_wp2_with fail
    refine (cN.out w2 b2.out).mono ?_
    rintro e w3 ⟨a, x, rfl, hx, hs, ha, hb⟩
    have B3 := Lib.hid (Below.after b2.out hb)
    have HX := Lib.hid hx
    have HS := Lib.hid hs
    have HA := Lib.hid (Nat.le_trans b2.out.size ha)
    clear hb hx hs ha
    go_wp2
    go_ret
    exact ⟨a, x, rfl, HX.out, HS.out, HA.out, B3.out⟩
set_option maxHeartbeats 4000000 in
theorem rbBlackNo_any (hN : NodeSays Nd) (w : World) (t : Tr) (p : Option Addr) (ht : TreeAt Nd w w.heap.size t p) (hr : redR t = false) : Calls Try.prog 14 #[.pointer p] w fun e w' => e = .returned (.pointer p) ∧ Below w.heap.size w w' := by
  have cR := Lib.hid (rbRed_any hN w t p ht)
  rw [hr] at cR
  clear hN ht hr
  go_enter Try.func14, Try.ntmps14
  go_wp2_with fail
  refine cR.out.mono ?_
  rintro e w1 ⟨rfl, hb⟩
  have b1 := Lib.hid hb
  clear hb cR
  go_wp2
  go_ret
  exact ⟨rfl, b1.out⟩
set_option maxHeartbeats 4000000 in
theorem rbBlackYes_any (hN : NodeSays Nd) (w : World) (a : Addr) (x : No) (L R : AT) (hs : Stand Nd w (.n a x L R)) (hr : redR (AT.n a x L R).tr = true) : Calls Try.prog 14 #[.pointer (some a)] w (Made13 Nd L R x.k x.v (x.g + 1#64) w) := by
  have cR := Lib.hid (rbRed_any hN w _ (some a) hs.tree)
  rw [hr] at cR
  obtain ⟨hx, e1, e2, s1, s2⟩ : Nd w w.heap.size a x ∧ x.l = L.ptr ∧ x.r = R.ptr ∧ Stand Nd w L ∧ Stand Nd w R := by
    obtain ⟨h1, h2, h3, h4, h5⟩ := hs.lies
    obtain ⟨a', pl, pr, ea, k2, k3, k4⟩ := hs.tree
    cases ea
    have hu := hN.uniq h1 k2
    have el : pl = L.ptr := by rw [← h2, hu]
    have er : pr = R.ptr := by rw [← h3, hu]
    subst el er
    exact ⟨h1, h2, h3, ⟨h4, k3⟩, ⟨h5, k4⟩⟩
  have cL : Hid (∀ W, Below w.heap.size w W → Calls Try.prog 16 #[.pointer (some a)] W fun e w' => e = .returned (.pointer L.ptr) ∧ W = w') := fun W h => e1 ▸ hN.left W _ a x (hN.next hx h)
  have cr : Hid (∀ W, Below w.heap.size w W → Calls Try.prog 17 #[.pointer (some a)] W fun e w' => e = .returned (.pointer R.ptr) ∧ W = w') := fun W h => e2 ▸ hN.right W _ a x (hN.next hx h)
  have ck := Lib.hid (fun W (h : Below w.heap.size w W) => hN.key W _ a x (hN.next hx h))
  have cv := Lib.hid (fun W (h : Below w.heap.size w W) => hN.val W _ a x (hN.next hx h))
  have cg : Hid (∀ W, Below w.heap.size w W → Calls Try.prog 38 #[.pointer (some a)] W fun e w' => e = .returned (.int .u64 (x.g.toNat : Int)) ∧ W = w') := fun W h => hN.tag W _ a x (hN.next hx h)
  have cN : Hid (∀ W, Below w.heap.size w W → Calls Try.prog 40 #[.pointer L.ptr, K x.k, K x.v, .int .u64 ((x.g + 1#64).toNat : Int), .pointer R.ptr] W (Made13 Nd L R x.k x.v (x.g + 1#64) W)) := fun W h => new13 hN W L R x.k x.v (x.g + 1#64) (s1.after hN h) (s2.after hN h)
  have e5 : IntKind.u64.wrap ((x.g.toNat : Int) + 1) = ((x.g + 1#64).toNat : Int) := by rw [IntKind.wrap_u64, BitVec.toNat_add, show (1#64).toNat = 1 from rfl]; omega
  obtain ⟨G, hG⟩ : ∃ G, x.g + 1#64 = G := ⟨_, rfl⟩
  rw [hG] at cN e5 ⊢
  obtain ⟨z, hz⟩ : ∃ z : Int, (G.toNat : Int) = z := ⟨_, rfl⟩
  rw [hz] at cN e5
  obtain ⟨g, hg⟩ : ∃ z : Int, (x.g.toNat : Int) = z := ⟨_, rfl⟩
  rw [hg] at cg e5
  obtain ⟨pl, hpl⟩ : ∃ p, L.ptr = p := ⟨_, rfl⟩
  obtain ⟨pr, hpr⟩ : ∃ p, R.ptr = p := ⟨_, rfl⟩
  rw [hpl] at cL cN
  rw [hpr] at cr cN
  obtain ⟨k, hk⟩ : ∃ p, x.k = p := ⟨_, rfl⟩
  obtain ⟨v, hv⟩ : ∃ p, x.v = p := ⟨_, rfl⟩
  rw [hk] at ck cN ⊢
  rw [hv] at cv cN ⊢
  clear hG hz hg hpl hpr hk hv hx e1 e2 s1 s2 hs hr hN
  go_enter Try.func14, Try.ntmps14
  go_wp2_with fail
  refine cR.out.mono ?_
  rintro e w1 ⟨rfl, hb⟩
  have b1 := Lib.hid hb
  clear hb cR
  go_wp2_with fail
  refine (cL.out w1 b1.out).mono ?_
  rintro e w' ⟨rfl, rfl⟩
  go_wp2_with fail
  refine (ck.out w1 b1.out).mono ?_
  rintro e w' ⟨rfl, rfl⟩
  go_wp2_with fail
  refine (cv.out w1 b1.out).mono ?_
  rintro e w' ⟨rfl, rfl⟩
  go_wp2_with fail
  refine (cg.out w1 b1.out).mono ?_
  rintro e w' ⟨rfl, rfl⟩
  go_wp2_with fail
  refine (cr.out w1 b1.out).mono ?_
  rintro e w' ⟨rfl, rfl⟩
  go_wp2_with fail
  refine (cN.out w1 b1.out).mono ?_
  rintro e w3 ⟨b, y, rfl, hy, hs, ha, hb⟩
  have B3 := Lib.hid (Below.after b1.out hb)
  have HX := Lib.hid hy
  have HS := Lib.hid hs
  have HA := Lib.hid (Nat.le_trans b1.out.size ha)
  clear hb hy hs ha
  go_wp2
  go_ret
  exact ⟨b, y, rfl, HX.out, HS.out, HA.out, B3.out⟩
theorem rbBlack_any (hN : NodeSays Nd) (w : World) (t : Tr) (p : Option Addr) (h : TreeAt Nd w w.heap.size t p) : Calls Try.prog 14 #[.pointer p] w fun e w' => ∃ q, e = .returned (.pointer q) ∧ TreeAt Nd w' w'.heap.size (blackR t) q ∧ Below w.heap.size w w' := by
  cases hr : redR t with
  | false =>
    rw [black_no hr]
    exact (rbBlackNo_any hN w t p h hr).mono fun e w' ⟨h1, h2⟩ => ⟨p, h1, h.after hN h2, h2⟩
  | true =>
    obtain ⟨T, rfl, hT, rfl⟩ := AT.of_tree t p h
    cases T with
    | e => cases hr
    | n a x L R =>
      refine (rbBlackYes_any hN w a x L R ⟨hT, h⟩ hr).mono fun e w' hm => ?_
      obtain ⟨b, h1, -, -, h3, h4⟩ := stood_of_made hN hm
      refine ⟨_, h1, ?_, h4⟩
      rw [show (AT.n a x L R).tr = .n L.tr x.k x.v x.g R.tr from rfl, black_yes hr]
      exact h3
set_option maxHeartbeats 4000000 in
theorem rbRank_any (hN : NodeSays Nd) (w : World) (t : Tr) (p : Option Addr) (h : TreeAt Nd w w.heap.size t p) : Calls Try.prog 26 #[.pointer p] w fun e w' => e = .returned (K (rankR t)) ∧ Below w.heap.size w w' := by
  have cB := Lib.hid (rbBlack_any hN w t p h)
  have cH : Hid (∀ W q, TreeAt Nd W W.heap.size (blackR t) q → Calls Try.prog 20 #[.pointer q] W fun e w' => e = .returned (.int .i64 (highR (blackR t) : Nat)) ∧ Below W.heap.size W w') := fun W q h => rbHigh_any' hN W (blackR t) q h
  have hlt := high_lt (blackR t)
  have e2 := i_of_u (rankR t)
  rw [rankR, BitVec.toNat_ofNat, Nat.mod_eq_of_lt (by omega), ← rankR] at e2
  show Calls _ _ _ _ fun e w' => e = .returned (.int .i64 (rankR t).toInt) ∧ _
  obtain ⟨z, hz⟩ : ∃ z, (rankR t).toInt = z := ⟨_, rfl⟩
  rw [hz] at e2 ⊢
  obtain ⟨d, hd⟩ : ∃ d, highR (blackR t) = d := ⟨_, rfl⟩
  rw [hd] at cH e2
  have e3 : IntKind.i64.wrap (2 * (d : Int)) = z := by rw [← e2]; rfl
  clear hN h hlt hz hd e2
  go_enter Try.func26, Try.ntmps26
  go_wp2_with fail
  refine cB.out.mono ?_
  rintro e w1 ⟨q, rfl, ht, hb⟩
  have b1 := Lib.hid hb
  have T1 := Lib.hid ht
  clear hb ht cB
  go_wp2_with fail
  refine (cH.out w1 q T1.out).mono ?_
  rintro e w2 ⟨rfl, hb⟩
  have b2 := Lib.hid (Below.after b1.out hb)
  clear hb cH T1 b1
  go_wp2
  go_ret
  exact ⟨rfl, b2.out⟩
end Go.Proofs.Ytifhnaelkjfmdab
/- Package rb, as landed: firstFault, by what faultOf says of a node. Made by wip/gen/layer16check.py. -/
namespace Go.Proofs.Ytifhnaelkjfmdab
open Go.RowKit Go.Shelf Go.Proofs.Treem
attribute [local go_sem] Oper.semAt_some
set_option maxRecDepth 100000
variable {Nd : NdP}

set_option maxHeartbeats 8000000 in
theorem rbFirst_any (hN : NodeSays Nd) (f : Tr → Nat)
    (c1 : ∀ (W : World) (l : Tr) (k v g : BitVec 64) (r : Tr) (p : Option Addr), TreeAt Nd W W.heap.size (.n l k v g r) p → Calls Try.prog 66 #[.pointer p] W fun e w' => e = .returned (nI (f (.n l k v g r))) ∧ Below W.heap.size W w')
    (w : World) (t : Tr) (p : Option Addr) (ht : TreeAt Nd w w.heap.size t p) (h5 : t.size ≤ 5000) : Calls Try.prog 49 #[.pointer p] w fun e w' => e = .returned (.tuple #[nI (placeF f t), nI (errF f t)]) ∧ Below w.heap.size w w' := by
  obtain ⟨gI, hgI⟩ : ∃ g, w.heap.size = g := ⟨_, rfl⟩
  obtain ⟨gE, hgE⟩ : ∃ g, w.heap.size + 1 = g := ⟨_, rfl⟩
  obtain ⟨Wa, hWa⟩ : ∃ W, (w.alloc (.cells #[.int .i64 0] 3)).alloc (.cells #[.int .i64 0] 69) = W := ⟨_, rfl⟩
  have bI : Boxed Wa gI 3 (.int .i64 0) := hgI ▸ hWa ▸ (Boxed.new w _ _).alloc _
  have bE : Boxed Wa gE 69 (.int .i64 0) := by
    have := Boxed.new (w.alloc (.cells #[.int .i64 0] 3)) 69 (.int .i64 0)
    rw [World.size_alloc, hgE, hWa] at this
    exact this
  have ba : Below w.heap.size w Wa := hWa ▸ ((Below.refl _ w).alloc (Nat.le_refl _) _).alloc (by simp) _
  have cZ : Hid (∀ W, Below w.heap.size w W → Calls Try.prog 24 #[.pointer p] W fun e w' => e = .returned (nI t.size) ∧ Below W.heap.size W w') := fun W h => size_any14 hN (ht.after hN h) h5
  have cS : Hid (∀ (gT : Nat) (W : World), Below w.heap.size w W → Boxed W gT 25 (.pointer p) → ∀ n, SeqTurns mine14 Fence.wide n Try.prog 75 #[.pointer (some ⟨gT, 0, none⟩)] (fun x : It14 => #[nI x.1, .pointer (some x.2.2)]) (Kf none14 w.heap.size) (Told14 Nd f t w) (fun xs => (∀ y ∈ xs, f y.2.1 = 0) → errF f t = 0) W) :=
    fun gT W hb h2 n => once_turns hN w f t p ht h5 gT W hb h2 n
  obtain ⟨sz, hsz⟩ : ∃ s, t.size = s := ⟨_, rfl⟩
  have hall : Hid (errF f t = 0 → placeF f t = sz) := fun h => hsz ▸ placeF_all t h
  rw [hsz] at cZ
  have C1 := Lib.hid c1
  have HWa := Lib.hid hWa
  have HI := Lib.hid hgI
  have HE := Lib.hid hgE
  have ba' := Lib.hid ba
  have bI' := Lib.hid bI
  have bE' := Lib.hid bE
  have hN' := Lib.hid hN
  have GIE : Hid (gI ≠ gE) := by have : gI ≠ gE := by omega
                                 exact this
  clear hWa hgI hgE ba bI bE hN ht h5 c1 hsz
  refine (callsIn_wide (n := 9)).1 ?_
  refine callsIn_of_wp_marks Try.func49 rfl trivial ?_ rfl
  simp only [Try.ntmps49, List.size_toArray, List.length_cons, List.length_nil, Nat.reduceAdd, Nat.reduceSub, Array.replicate_succ, Array.replicate_zero, List.push_toArray, List.append_toArray, List.nil_append, List.cons_append]
  refine wpIn_wide.2 ?_
  go_upto_region 1 with (fail)
  rw [HWa.out, HE.out, HI.out]
  go_wp2_with fail
  refine (once_any p Wa).mono ?_
  rintro e W5 ⟨rfl, hW5⟩
  obtain ⟨gT, hgT⟩ : ∃ g, Wa.heap.size = g := ⟨_, rfl⟩
  rw [hgT]
  have bN : Below Wa.heap.size Wa W5 := hW5 ▸ (Below.refl _ Wa).alloc (Nat.le_refl _) _
  have bT : Boxed W5 gT 25 (.pointer p) := hgT ▸ hW5 ▸ Boxed.new Wa _ _
  have i5 : Boxed W5 gI 3 (.int .i64 0) := Has.next (show Has _ _ _ _ from bI'.out) bN
  have e5 : Boxed W5 gE 69 (.int .i64 0) := Has.next (show Has _ _ _ _ from bE'.out) bN
  have hB5 : Below w.heap.size w W5 := Below.after ba'.out bN
  have hseq := cS.out gT W5 hB5 bT
  clear hW5 hgT bN bT bI' bE' cS HWa ba'
  go_wp2_with fail
  refine (wpIn_wide (n := 9)).1 ?_
  refine wpIn_rangeFunc_turns (α := It14) rfl (by omega) (gf := 75) (lb := #[.pointer (some ⟨gT, 0, none⟩)]) rfl trivial (enters_of Try.func75 (by kernel_rfl) rfl)
    (hseq _) Kf.trans (Kf.put hB5.size) (Below.refl _ _) (fun _ => rfl)
    (fun pre W => (Boxed W gI 3 (.int .i64 0) ∧ Boxed W gE 69 (.int .i64 0)) ∧ (∀ y ∈ pre, f y.2.1 = 0) ∧ Below w.heap.size w W)
    (fun c _ W => (c = .ret ∧ Boxed W gI 3 (nI (placeF f t)) ∧ Boxed W gE 69 (nI (errF f t))) ∧ Below w.heap.size w W)
    (Abide.and (Abide.and (Abide.boxed _ _ _ (.inl rfl)) (Abide.boxed _ _ _ (.inl rfl))) (Abide.and (fun _ _ _ h _ => h) (Abide.below hB5.size (Nat.le_refl _))))
    (fun c => Abide.and (fun s X Y hs ht => by obtain ⟨h1, h5, h6⟩ := hs; exact ⟨h1, ht.boxed h5 (.inl rfl), ht.boxed h6 (.inl rfl)⟩) (Abide.below hB5.size (Nat.le_refl _)))
    ⟨⟨i5, e5⟩, (fun y hy => by cases hy), hB5⟩
    (fun pre y a' W => TreeAt Nd w w.heap.size y.2.1 (some y.2.2) ∧ y.1 ≤ 5000 ∧ ((∀ y ∈ pre, f y.2.1 = 0) → f y.2.1 ≠ 0 → errF f t = f y.2.1 ∧ placeF f t = y.1) ∧ a' = { tmps := #[.pointer p, undef, .pointer (some ⟨gI, 0, none⟩), .pointer (some ⟨gE, 0, none⟩), nI y.1, .pointer (some y.2.2), .pointer p, .func (.func 75) #[] #[.pointer (some ⟨gT, 0, none⟩)], nI y.1, .pointer (some y.2.2), undef, undef, undef, undef, undef, undef, undef, undef], defers := [] })
    (fun pre y a' _ X Y row hs hg hr => hs)
    ?assign ?body ?done ?stop
  case assign =>
    rintro L pre ⟨pl, tn, a⟩ U KK hI ⟨h1, h2, h3, h4⟩ hK
    have hK2 := Lib.hid (hK { tmps := #[.pointer p, undef, .pointer (some ⟨gI, 0, none⟩), .pointer (some ⟨gE, 0, none⟩), nI pl, .pointer (some a), .pointer p, .func (.func 75) #[] #[.pointer (some ⟨gT, 0, none⟩)], nI pl, .pointer (some a), undef, undef, undef, undef, undef, undef, undef, undef], defers := [] } U ((KeepsOthers.refl _).from _) (Kf.refl _ _ U) hI ⟨h1, Nat.le_trans (Nat.le_add_right _ _) h3, h4, rfl⟩)
    clear hK hI h1 h2 h3 h4
    gi_wp2
    exact hK2.out
  case body =>
    rintro L pre ⟨pl, tn, a⟩ a' U hL _ ⟨⟨bI, bE⟩, hp, hb⟩ ⟨h1, h2, h3, rfl⟩
    have t0 := h1.after hN'.out hb
    have q1 : Hid (Calls Try.prog 66 #[.pointer (some a)] U fun e w' => e = .returned (nI (f tn)) ∧ Below U.heap.size U w') := by
      cases tn with
      | e => cases h1
      | n l k v g r => exact C1.out U l k v g r (some a) t0
    have hft := h3 hp
    obtain ⟨x, hx⟩ : ∃ x, f tn = x := ⟨_, rfl⟩
    rw [hx] at q1
    have HX := Lib.hid hx
    have HT := Lib.hid hft
    have HP := Lib.hid hp
    have bI' := Lib.hid bI
    have bE' := Lib.hid bE
    have hb' := Lib.hid hb
    have gW0 : Hid (w.heap.size ≤ gI ∧ w.heap.size ≤ gE) := ⟨by have := HI.out; omega, by have := HE.out; omega⟩
    clear t0 hft hp bI bE hb h1 h2 h3 hx
    gi_wp2
    refine ⟨trivial, ?_⟩
    refine CallsIn.inRound L (callsIn_wide.2 (q1.out.mono ?_))
    rintro e U1 ⟨rfl, hb1⟩
    have i7 : Boxed U1 gI 3 (.int .i64 0) := Has.next (show Has _ _ _ _ from bI'.out) hb1
    have e7 : Boxed U1 gE 69 (.int .i64 0) := Has.next (show Has _ _ _ _ from bE'.out) hb1
    have fE := e7.frozen
    have xE := e7.cell
    have B7 := Lib.hid (Below.after hb'.out hb1)
    have K7 := Lib.hid hb1
    clear hb1 q1 bI' bE'
    by_cases h0 : x = 0
    · subst h0
      have sE : U1.setCell ⟨gE, 0, none⟩ (.int .i64 0) = U1 := Ret.set_same e7
      have I7 := Lib.hid i7
      have E7 := Lib.hid e7
      clear i7 e7
      gi_wp2
      refine ⟨(Ret.keeps_below K7.out).from _, Kf.of_below K7.out hb'.out.size, ⟨I7.out, E7.out⟩, ?_, B7.out⟩
      intro y hy
      rcases List.mem_append.1 hy with hy | hy
      · exact HP.out y hy
      · rw [List.mem_singleton.1 hy]; exact HX.out
    · have d1 : ((x : Int) != 0) = true := by rw [bne_iff_ne]; omega
      have hq := Lib.hid (HT.out (by rw [HX.out]; exact h0))
      obtain ⟨U2, hU2⟩ : ∃ u, U1.setCell ⟨gE, 0, none⟩ (nI x) = u := ⟨_, rfl⟩
      have i8 : Boxed U2 gI 3 (.int .i64 0) := hU2 ▸ Has.far (show Has _ _ _ _ from i7) (p := ⟨gE, 0, none⟩) GIE.out _
      have e8 : Boxed U2 gE 69 (nI x) := hU2 ▸ e7.set _
      have k8 : KeepsOthers U1 U2 := hU2 ▸ KeepsOthers.setCell _ _ _
      have b8 : Below w.heap.size w U2 := hU2 ▸ B7.out.setCell (p := ⟨gE, 0, none⟩) gW0.out.2 _
      have HU2 := Lib.hid hU2
      have I8 := Lib.hid i8
      have E8 := Lib.hid e8
      have K8 := Lib.hid k8
      have B8 := Lib.hid b8
      clear i7 e7 i8 e8 k8 b8 hU2 h0
      have a1 := GIE.out
      have a2 : gE ≠ gI := a1.symm
      gi_upto_region 5 with (fail)
      rw [HU2.out]
      have yI := I8.out.cell
      have gI' := I8.out.frozen
      have yE := E8.out.cell
      have gE' := E8.out.frozen
      clear xE fE
      gi_wp2
      gi_region
      all_goals (
        gi_wp2
        refine ⟨(((Ret.keeps_below K7.out).trans K8.out).trans (((KeepsOthers.setCell _ _ _)).trans ((KeepsOthers.setCell _ _ _).trans (Ret.keeps_drew _)))).from _, ⟨rfl, ?_, ?_⟩, ((B8.out.setCell (p := ⟨gI, 0, none⟩) gW0.out.1 _).setCell (p := ⟨gE, 0, none⟩) gW0.out.2 _).drew⟩
        · rw [hq.out.2]
          exact Has.far (show Has _ _ _ _ from I8.out.set (nI pl)) (p := ⟨gE, 0, none⟩) GIE.out _
        · rw [hq.out.1, HX.out]
          have hy : Boxed (U2.setCell ⟨gI, 0, none⟩ (nI pl)) gE 69 (nI x) := Has.far (show Has _ _ _ _ from E8.out) (p := ⟨gI, 0, none⟩) (Ne.symm GIE.out) _
          exact hy.set _)
  case done =>
    rintro D xs U hD hxs ⟨⟨bI, bE⟩, hp, hb⟩ hK
    have k1 := Lib.hid (hxs hp)
    have k2 := Lib.hid (hall.out k1.out)
    have BI := Lib.hid bI
    have BE := Lib.hid bE
    have HB := Lib.hid hb
    have HK := Lib.hid hK
    have HP := Lib.hid hp
    have q1 := Lib.hid (cZ.out U hb)
    clear hxs hp bI bE hb hK
    go_wp2_with fail
    refine q1.out.mono ?_
    rintro e U1 ⟨rfl, hb1⟩
    have i7 : Boxed U1 gI 3 (.int .i64 0) := Has.next (show Has _ _ _ _ from BI.out) hb1
    have e7 : Boxed U1 gE 69 (.int .i64 0) := Has.next (show Has _ _ _ _ from BE.out) hb1
    have hK1 : U1.heap[D]? = some (.deferred (some [])) := (hb1.block D (Array.getElem?_eq_some_iff.1 HK.out).1).trans HK.out
    have B7 := Lib.hid (Below.after HB.out hb1)
    have hDI : D ≠ gI := fun e => by rw [e, show U1.heap[gI]? = _ from i7] at hK1; cases hK1
    have hDE : D ≠ gE := fun e => by rw [e, show U1.heap[gE]? = _ from e7] at hK1; cases hK1
    obtain ⟨U2, hU2⟩ : ∃ u, (U1.setCell ⟨gI, 0, none⟩ (nI sz)).setCell ⟨gE, 0, none⟩ (.int .i64 0) = u := ⟨_, rfl⟩
    have hI1 : Has U2 gI 3 #[nI sz] := hU2 ▸ Has.far (show Has _ _ _ _ from i7.set (nI sz)) (p := ⟨gE, 0, none⟩) GIE.out _
    have hE1 : Has U2 gE 69 #[.int .i64 0] := by
      have hy : Boxed (U1.setCell ⟨gI, 0, none⟩ (nI sz)) gE 69 (.int .i64 0) := Has.far (show Has _ _ _ _ from e7) (p := ⟨gI, 0, none⟩) (Ne.symm GIE.out) _
      exact hU2 ▸ hy.set _
    have hb2 : Below w.heap.size w U2 := hU2 ▸ (B7.out.setCell (p := ⟨gI, 0, none⟩) (by have := HI.out; show w.heap.size ≤ gI; omega) _).setCell (p := ⟨gE, 0, none⟩) (by have := HE.out; show w.heap.size ≤ gE; omega) _
    have hK2 : U2.heap[D]? = some (.deferred (some [])) := hU2 ▸ (Below.heap_setCell _ _ _ D hDE).trans ((Below.heap_setCell _ _ _ D hDI).trans hK1)
    have xI := i7.cell
    have fI := i7.frozen
    have xE := e7.cell
    have fE := e7.frozen
    have a1 := GIE.out
    have a2 : gE ≠ gI := a1.symm
    have HU2 := Lib.hid hU2
    have XI := Lib.hid hI1
    have XE := Lib.hid hE1
    have XB := Lib.hid hb2
    have XK := Lib.hid hK2
    clear i7 e7 hK1 hDI hDE hU2 hI1 hE1 hb2 hK2 hb1 q1
    go_wp2_with fail
    rw [HU2.out]
    have hz2 : Has (U2.putObj D (.deferred none)) gI 3 #[nI sz] := has_turned (B := 0) XI.out (grownBy_putObj' U2 D _) (fun r e => by cases e; exact ⟨Nat.zero_le _, _, XK.out, rfl⟩)
    have hy2 : Has (U2.putObj D (.deferred none)) gE 69 #[.int .i64 0] := has_turned (B := 0) XE.out (grownBy_putObj' U2 D _) (fun r e => by cases e; exact ⟨Nat.zero_le _, _, XK.out, rfl⟩)
    refine ⟨by simp, .inl ⟨_, _, rfl, run_takeDeferred XK.out, ?_⟩⟩
    exact ⟨_, Ret.two rfl _ _ gI gE _ _ rfl rfl (Ret.load_int _ _ _ (hz2.cell 0)) (Ret.load_errno _ _ _ (hy2.cell 0)), by rw [k1.out, k2.out]; rfl, XB.out.trans (belowK_b (w := w) (Nat.le_refl _) U2 D _ _ (by have := hB5.size; omega) XK.out rfl rfl)⟩
  case stop =>
    rintro D c pre U hD ⟨⟨rfl, bI, bE⟩, hb⟩ hK
    have hz2 : Has (U.putObj D (.deferred none)) gI 3 #[nI (placeF f t)] := has_turned (B := 0) (show Has _ _ _ _ from bI) (grownBy_putObj' U D _) (fun r e => by cases e; exact ⟨Nat.zero_le _, _, hK, rfl⟩)
    have hy2 : Has (U.putObj D (.deferred none)) gE 69 #[nI (errF f t)] := has_turned (B := 0) (show Has _ _ _ _ from bE) (grownBy_putObj' U D _) (fun r e => by cases e; exact ⟨Nat.zero_le _, _, hK, rfl⟩)
    clear bI bE
    gi_wp2
    refine ⟨by simp, .inl ⟨_, _, rfl, run_takeDeferred hK, ?_⟩⟩
    exact ⟨_, Ret.two rfl _ _ gI gE _ _ rfl rfl (Ret.load_int _ _ _ (hz2.cell 0)) (Ret.load_errno _ _ _ (hy2.cell 0)), rfl, hb.trans (belowK_b (w := w) (Nat.le_refl _) U D _ _ (by have := hB5.size; omega) hK rfl rfl)⟩
end Go.Proofs.Ytifhnaelkjfmdab
/- Package rb, as landed: isWellTagged, isEven, faultOf. Made by wip/gen/layer16rb.py. -/
namespace Go.Proofs.Ytifhnaelkjfmdab
open Go.RowKit Go.Proofs.Treem
set_option maxRecDepth 100000
variable {Nd : NdP}

theorem heldKind : Try.prog.stoodInHeld 61 = false := by kernel_rfl
theorem fieldsKind : ∃ pk, Try.prog.fieldsOf 61 = #[{ name := "colour", type := 53, offset := 0, embedded := false, tag := "", pkgPath := pk, byteOffset := 0 }, { name := "high", type := 53, offset := 1, embedded := false, tag := "", pkgPath := pk, byteOffset := 8 }] := by
  simp only [Program.fieldsOf, Try.underlying61]
  exact ⟨_, rfl⟩
theorem kind_eql (a b c d : Nat) (W : World) : (binOp .eql 61 (.agg #[.int .u64 (a : Int), .int .u64 (b : Int)]) (.agg #[.int .u64 (c : Int), .int .u64 (d : Int)])).run Try.prog W = .ok (.bool (decide (a = c ∧ b = d))) W := by
  obtain ⟨pk, hf⟩ := fieldsKind
  rw [run_eql_struct, run_equalIn_struct W 9999 61 _ _ (by simp only [Program.fieldsOf, Try.underlying61]) heldKind, hf]
  simp only [Op.eqFields, ne_eq, String.reduceEq, not_false_eq_true, if_true]
  have ap0 : ∀ W, (part 53 #[.int .u64 (a : Int), .int .u64 (b : Int)] 0).run Try.prog W = .ok (.int .u64 (a : Int)) W := fun W => partU W _ _ _ rfl
  have ap1 : ∀ W, (part 53 #[.int .u64 (a : Int), .int .u64 (b : Int)] 1).run Try.prog W = .ok (.int .u64 (b : Int)) W := fun W => partU W _ _ _ rfl
  have bp0 : ∀ W, (part 53 #[.int .u64 (c : Int), .int .u64 (d : Int)] 0).run Try.prog W = .ok (.int .u64 (c : Int)) W := fun W => partU W _ _ _ rfl
  have bp1 : ∀ W, (part 53 #[.int .u64 (c : Int), .int .u64 (d : Int)] 1).run Try.prog W = .ok (.int .u64 (d : Int)) W := fun W => partU W _ _ _ rfl
  have eu : ∀ (W : World) (a b : Int), (Op.equalIn 9999 53 (.int .u64 a) (.int .u64 b)).run Try.prog W = .ok (a == b) W := fun W a b => run_equalIn_int W 9998 53 .u64 .u64 a b Try.underlying53
  have hb : ∀ a c : Nat, ((a : Int) == (c : Int)) = decide (a = c) := fun a c => by
    by_cases h : a = c
    · rw [h]; simp
    · rw [decide_eq_false h, beq_eq_false_iff_ne]; omega
  simp only [Sem.run_bind, Sem.run_ite, Sem.run_pure, Result.andThen_ok, ap0, ap1, bp0, bp1, eu, hb, Bool.decide_and]
  cases decide (a = c) <;> cases decide (b = d) <;> rfl
def wellR (g p : Nat) : Bool := decide (¬ (g = 0 ∨ (g ≠ 2 * (p / 2) + 1 ∧ g ≠ 2 * (p / 2) + 2)))
def evenR (g p q : Nat) : Bool := decide (¬ (q / 2 ≠ p / 2 ∨ (g % 2 = 1 ∧ (p % 2 = 1 ∨ q % 2 = 1))))
theorem root_R (l : Tr) (k v g : BitVec 64) (r : Tr) : rootR (.n l k v g r) = if wellR g.toNat l.tag.toNat = false then 140 else if evenR g.toNat l.tag.toNat r.tag.toNat = false then 8 else 0 := by
  rw [rootR, oneR]
  simp only [wellR, evenR, decide_eq_false_iff_not, Classical.not_not]
set_option maxHeartbeats 4000000 in
/-- whether a node is what one of its colour over its left side ought to be -/
theorem rbWell_any (hN : NodeSays Nd) (w : World) (t : Tr) (p : Option Addr) (ht : TreeAt Nd w w.heap.size t p) : Calls Try.prog 76 #[.pointer p] w fun e w' => e = .returned (.bool (wellR t.tag.toNat (Tr.lt t).tag.toNat)) ∧ Below w.heap.size w w' := by
  obtain ⟨m, hm⟩ : ∃ m, (Tr.lt t).tag.toNat / 2 = m := ⟨_, rfl⟩
  obtain ⟨c, hc⟩ : ∃ c, t.tag.toNat % 2 = c := ⟨_, rfl⟩
  obtain ⟨d, hd⟩ : ∃ c, t.tag.toNat / 2 = c := ⟨_, rfl⟩
  obtain ⟨y, hy⟩ : ∃ y, (if c = 0 then m + 1 else m) = y := ⟨_, rfl⟩
  have hy' : (c = 0 ∧ y = m + 1) ∨ (c ≠ 0 ∧ y = m) := by
    rw [← hy]
    by_cases h : c = 0
    · exact .inl ⟨h, if_pos h⟩
    · exact .inr ⟨h, if_neg h⟩
  have cK := Lib.hid (kindOf_any hN w t p ht c d hc hd)
  have cL := Lib.hid (fun W (h : Below w.heap.size w W) => TreeAt.leftT hN (ht.after hN h))
  have cO : Hid (∀ W q, TreeAt Nd W W.heap.size (Tr.lt t) q → Calls Try.prog 41 #[.pointer q, .int .u64 (c : Int)] W fun e w' => e = .returned (.agg #[.int .u64 (c : Int), .int .u64 (y : Int)]) ∧ Below W.heap.size W w') := fun W q h => kindOver_any hN W (Tr.lt t) q h c y (by rw [hm]; exact hy')
  have hv : wellR t.tag.toNat (Tr.lt t).tag.toNat = decide (c = c ∧ d = y) := by
    rw [wellR, hm]
    apply decide_eq_decide.2
    omega
  have E := fun W => kind_eql c d c y W
  rw [hv]
  obtain ⟨b, hb⟩ : ∃ b, decide (c = c ∧ d = y) = b := ⟨_, rfl⟩
  rw [hb] at E ⊢
  clear hv hb hy' hy hm hc hd hN ht
  go_enter Try.func76, Try.ntmps76
  go_wp2_with fail
  refine cK.out.mono ?_
  rintro e w1 ⟨rfl, hb⟩
  have b1 := Lib.hid hb
  clear hb cK
  obtain ⟨sz, hsz⟩ : ∃ z, w1.heap.size = z := ⟨_, rfl⟩
  obtain ⟨W2, hW2⟩ : ∃ W, w1.alloc (.cells #[.int .u64 (c : Int), .int .u64 (d : Int)] 61) = W := ⟨_, rfl⟩
  have g2 : Has W2 sz 61 #[.int .u64 (c : Int), .int .u64 (d : Int)] := hsz ▸ hW2 ▸ Has.new w1 _ _
  have B2 : Hid (Below w.heap.size w W2) := Below.after b1.out (hW2 ▸ (Below.refl _ w1).alloc (Nat.le_refl _) _)
  have G2 := Lib.hid g2
  have HS := Lib.hid hsz
  have HW := Lib.hid hW2
  clear g2 hsz hW2 b1
  go_upto_region 2 with (fail)
  rw [HW.out, HS.out]
  have x0 := G2.out.cell 0
  have x1 := G2.out.cell 1
  simp only [List.getElem?_toArray, List.getElem?_cons_zero, List.getElem?_cons_succ] at x0 x1
  refine wp_region_held_drew (S := fun u => u.cell? ⟨sz, 0, none⟩ = some (.int .u64 (c : Int)) ∧ u.cell? ⟨sz, 1, none⟩ = some (.int .u64 (d : Int)) ∧ Below W2.heap.size W2 u) (by kernel_rfl) ⟨x0, x1, (Below.refl _ W2).drew⟩ (fun hS => ?_)
  refine wpAnyH_take (i := 0) (oi := ?dqr1q0) (v := ?dvr1q0) ?hir1q0 (by kernel_rfl) (by kernel_rfl) (by kernel_rfl) ?hQr1q0 (Or.inl ⟨?hwr1q0, ?hyr1q0⟩) hS ?hrr1q0
  case hir1q0 => simp only [List.getElem?_toArray, List.getElem?_cons_zero]; rfl
  case hQr1q0 => exact fun _ _ _ h => h
  case hwr1q0 => rfl
  case hyr1q0 => (intro w hSw; (try dsimp only at hSw); go_simp; (try with_reducible rfl))
  simp only [Act.put, List.setIfInBounds_toArray, List.set_cons_zero, List.set_cons_succ]
  refine wpAnyH_take (i := 1) (oi := ?dqr1q1) (v := ?dvr1q1) ?hir1q1 (by kernel_rfl) (by kernel_rfl) (by kernel_rfl) ?hQr1q1 (Or.inl ⟨?hwr1q1, ?hyr1q1⟩) hS ?hrr1q1
  case hir1q1 => simp only [List.getElem?_toArray, List.getElem?_cons_succ, List.getElem?_cons_zero]; rfl
  case hQr1q1 => exact fun _ _ _ h => h
  case hwr1q1 => rfl
  case hyr1q1 => (intro w hSw; (try dsimp only at hSw); go_simp; (try with_reducible rfl))
  simp only [Act.put, List.setIfInBounds_toArray, List.set_cons_zero, List.set_cons_succ]
  refine wpAnyH_take (i := 3) (oi := ?dqr1q3) (v := ?dvr1q3) ?hir1q3 (by kernel_rfl) (by kernel_rfl) (by kernel_rfl) ?hQr1q3 (Or.inl ⟨?hwr1q3, ?hyr1q3⟩) hS ?hrr1q3
  case hir1q3 => simp only [List.getElem?_toArray, List.getElem?_cons_succ, List.getElem?_cons_zero]; rfl
  case hQr1q3 => exact fun _ _ _ h => h
  case hwr1q3 => rfl
  case hyr1q3 => (intro w hSw; (try dsimp only at hSw); go_simp; (try with_reducible rfl))
  simp only [Act.put, List.setIfInBounds_toArray, List.set_cons_zero, List.set_cons_succ]
  refine wpAnyH_take (i := 4) (oi := ?dqr1q4) (v := ?dvr1q4) ?hir1q4 (by kernel_rfl) (by kernel_rfl) (by kernel_rfl) ?hQr1q4 (Or.inl ⟨?hwr1q4, ?hyr1q4⟩) hS ?hrr1q4
  case hir1q4 => simp only [List.getElem?_toArray, List.getElem?_cons_succ, List.getElem?_cons_zero]; rfl
  case hQr1q4 => exact fun _ _ _ h => h
  case hwr1q4 => rfl
  case hyr1q4 => (intro w hSw; (try dsimp only at hSw); go_simp; (try with_reducible rfl))
  simp only [Act.put, List.setIfInBounds_toArray, List.set_cons_zero, List.set_cons_succ]
  refine wpAnyH_ready (rs := [2]) (by kernel_rfl) (by simp) ?_
  refine AllReadyH.cons (o := ?dqr1q2) ?hir1q2 (fun K hK => ?_) AllReadyH.nil
  case hir1q2 => simp only [List.getElem?_toArray, List.getElem?_cons_succ, List.getElem?_cons_zero]; rfl
  go_simp
  refine (cL.out _ (Below.after B2.out hS.2.2)).mono ?_
  rintro e u1 ⟨q, rfl, hq, hb1⟩
  have HQ := Lib.hid hq
  clear hq
  have hS2 := (And.intro (keep_cell hb1 hS.1) (And.intro (keep_cell hb1 hS.2.1) (Below.after hS.2.2 hb1)))
  clear hS
  refine hK.out _ _ hS2 (fun hS => ?_)
  clear hS2 hK K
  try simp only [Act.put, List.setIfInBounds_toArray, List.set_cons_zero, List.set_cons_succ]
  refine wpAnyH_ready (rs := [5]) (by kernel_rfl) (by simp) ?_
  refine AllReadyH.cons (o := ?dqr1q5) ?hir1q5 (fun K hK => ?_) AllReadyH.nil
  case hir1q5 => simp only [List.getElem?_toArray, List.getElem?_cons_succ, List.getElem?_cons_zero]; rfl
  go_simp
  refine (cO.out _ q HQ.out).mono ?_
  rintro e u2 ⟨rfl, hb2⟩
  have hS2 := (And.intro (keep_cell hb2 hS.1) (And.intro (keep_cell hb2 hS.2.1) (Below.after hS.2.2 hb2)))
  clear hS
  refine hK.out _ _ hS2 (fun hS => ?_)
  clear hS2 hK K
  try simp only [Act.put, List.setIfInBounds_toArray, List.set_cons_zero, List.set_cons_succ]
  refine wpAnyH_take (i := 6) (oi := ?dqr1q6) (v := ?dvr1q6) ?hir1q6 (by kernel_rfl) (by kernel_rfl) (by kernel_rfl) ?hQr1q6 (Or.inl ⟨?hwr1q6, ?hyr1q6⟩) hS ?hrr1q6
  case hir1q6 => simp only [List.getElem?_toArray, List.getElem?_cons_succ, List.getElem?_cons_zero]; rfl
  case hQr1q6 => exact fun _ _ _ h => h
  case hwr1q6 => rfl
  case hyr1q6 => (intro w hSw; (try dsimp only at hSw); go_simp; (try with_reducible rfl))
  simp only [Act.put, List.setIfInBounds_toArray, List.set_cons_zero, List.set_cons_succ]
  refine wpAnyH_take (i := 7) (oi := ?dqr1q7) (v := ?dvr1q7) ?hir1q7 (by kernel_rfl) (by kernel_rfl) (by kernel_rfl) ?hQr1q7 (Or.inl ⟨?hwr1q7, ?hyr1q7⟩) hS ?hrr1q7
  case hir1q7 => simp only [List.getElem?_toArray, List.getElem?_cons_succ, List.getElem?_cons_zero]; rfl
  case hQr1q7 => exact fun _ _ _ h => h
  case hwr1q7 => rfl
  case hyr1q7 => (intro w hSw; (try dsimp only at hSw); go_simp; (try with_reducible rfl))
  simp only [Act.put, List.setIfInBounds_toArray, List.set_cons_zero, List.set_cons_succ]
  refine wpAnyH_done (by kernel_rfl) ?_ _
  have B5 := Lib.hid (Below.after B2.out hS.2.2)
  clear hS hb1 hb2 cL cO HQ x0 x1 G2 HS HW B2
  go_wp2
  go_ret
  exact ⟨rfl, B5.out⟩
set_option maxHeartbeats 4000000 in
/-- whether both sides of a node are as high in black, and, if it is red, none of them is -/
theorem rbEven_any (hN : NodeSays Nd) (w : World) (t : Tr) (p : Option Addr) (ht : TreeAt Nd w w.heap.size t p) : Calls Try.prog 77 #[.pointer p] w fun e w' => e = .returned (.bool (evenR t.tag.toNat (Tr.lt t).tag.toNat (Tr.rt t).tag.toNat)) ∧ Below w.heap.size w w' := by
  obtain ⟨c, hc⟩ : ∃ c, (Tr.lt t).tag.toNat % 2 = c := ⟨_, rfl⟩
  obtain ⟨d, hd⟩ : ∃ c, (Tr.lt t).tag.toNat / 2 = c := ⟨_, rfl⟩
  obtain ⟨c', hc'⟩ : ∃ c, (Tr.rt t).tag.toNat % 2 = c := ⟨_, rfl⟩
  obtain ⟨d', hd'⟩ : ∃ c, (Tr.rt t).tag.toNat / 2 = c := ⟨_, rfl⟩
  have cL := Lib.hid (fun W (h : Below w.heap.size w W) => TreeAt.leftT hN (ht.after hN h))
  have cR := Lib.hid (fun W (h : Below w.heap.size w W) => TreeAt.rightT hN (ht.after hN h))
  have cK := Lib.hid (fun W q (h : TreeAt Nd W W.heap.size (Tr.lt t) q) => kindOf_any hN W (Tr.lt t) q h c d hc hd)
  have cK' := Lib.hid (fun W q (h : TreeAt Nd W W.heap.size (Tr.rt t) q) => kindOf_any hN W (Tr.rt t) q h c' d' hc' hd')
  have cE := Lib.hid (fun W (h : Below w.heap.size w W) => rbRed_any hN W t p (ht.after hN h))
  have E := fun W => kind_eql c d c' d' W
  have hN' := Lib.hid hN
  obtain ⟨v, hv⟩ : ∃ v, evenR t.tag.toNat (Tr.lt t).tag.toNat (Tr.rt t).tag.toNat = v := ⟨_, rfl⟩
  have hv2 : v = if redR t = true then decide (c = c' ∧ d = d') && ((c : Int) == 0) else ((d : Int) == (d' : Int)) := by
    rw [← hv, evenR, hc, hd, hc', hd']
    by_cases hr : redR t = true
    · rw [if_pos hr]
      have h1 := red_iff.1 hr
      rw [Bool.eq_iff_iff, Bool.and_eq_true, decide_eq_true_iff, decide_eq_true_iff, beq_iff_eq]
      omega
    · rw [if_neg hr]
      rw [Bool.not_eq_true] at hr
      have h1 := red_no.1 hr
      rw [Bool.eq_iff_iff, decide_eq_true_iff, beq_iff_eq]
      omega
  rw [hv]
  obtain ⟨r, hr⟩ : ∃ r, redR t = r := ⟨_, rfl⟩
  rw [hr] at hv2 cE
  obtain ⟨b, hb⟩ : ∃ b, decide (c = c' ∧ d = d') = b := ⟨_, rfl⟩
  rw [hb] at hv2 E
  obtain ⟨z, hz⟩ : ∃ b, ((c : Int) == 0) = b := ⟨_, rfl⟩
  rw [hz] at hv2
  obtain ⟨y, hy⟩ : ∃ b, ((d : Int) == (d' : Int)) = b := ⟨_, rfl⟩
  rw [hy] at hv2
  have HV := Lib.hid hv2
  clear hv hr hb hc hd hc' hd' hN ht hv2
  go_enter Try.func77, Try.ntmps77
  go_wp2_with fail
  refine (cL.out w (Below.refl _ _)).mono ?_
  rintro e w1 ⟨q, rfl, hq, hb⟩
  have b1 := Lib.hid hb
  have Q1 := Lib.hid hq
  clear hb hq cL
  go_wp2_with fail
  refine (cK.out w1 q Q1.out).mono ?_
  rintro e w2 ⟨rfl, hb⟩
  have b2 := Lib.hid (Below.after b1.out hb)
  clear hb cK b1 Q1
  go_wp2_with fail
  refine (cR.out w2 b2.out).mono ?_
  rintro e w3 ⟨q', rfl, hq, hb⟩
  have b3 := Lib.hid (Below.after b2.out hb)
  have Q3 := Lib.hid hq
  clear hb hq cR b2
  go_wp2_with fail
  refine (cK'.out w3 q' Q3.out).mono ?_
  rintro e w4 ⟨rfl, hb⟩
  have b4 := Lib.hid (Below.after b3.out hb)
  clear hb cK' b3 Q3
  obtain ⟨sz, hsz⟩ : ∃ z, w4.heap.size = z := ⟨_, rfl⟩
  obtain ⟨sy, hsy⟩ : ∃ z, sz + 1 = z := ⟨_, rfl⟩
  obtain ⟨W5, hW5⟩ : ∃ W, w4.alloc (.cells #[.int .u64 (c : Int), .int .u64 (d : Int)] 61) = W := ⟨_, rfl⟩
  obtain ⟨W6, hW6⟩ : ∃ W, W5.alloc (.cells #[.int .u64 (c' : Int), .int .u64 (d' : Int)] 61) = W := ⟨_, rfl⟩
  have hs5 : W5.heap.size = sy := by rw [← hW5, World.size_alloc, hsz, hsy]
  have g5 : Has W5 sz 61 #[.int .u64 (c : Int), .int .u64 (d : Int)] := hsz ▸ hW5 ▸ Has.new w4 _ _
  have b56 : Below W5.heap.size W5 W6 := hW6 ▸ (Below.refl _ W5).alloc (Nat.le_refl _) _
  have g6 := g5.next b56
  have g7 : Has W6 sy 61 #[.int .u64 (c' : Int), .int .u64 (d' : Int)] := hs5 ▸ hW6 ▸ Has.new W5 _ _
  have B6 : Hid (Below w.heap.size w W6) := Below.after (Below.after b4.out (hW5 ▸ (Below.refl _ w4).alloc (Nat.le_refl _) _)) b56
  have G6 := Lib.hid g6
  have G7 := Lib.hid g7
  have HS := Lib.hid hsz
  have HY := Lib.hid hsy
  have HW5 := Lib.hid hW5
  have HW6 := Lib.hid hW6
  clear g5 g6 g7 b56 hsz hsy hW5 hW6 hs5 b4
  go_upto_region 2 with (fail)
  rw [HS.out, HY.out, HW5.out, HW6.out]
  go_wp2_with fail
  refine (cE.out W6 B6.out).mono ?_
  rintro e w7 ⟨rfl, hb⟩
  have b7 := Lib.hid (Below.after B6.out hb)
  have g6 := G6.out.next hb
  have g7 := G7.out.next hb
  have x0 := g6.cell 0
  have x1 := g6.cell 1
  have y0 := g7.cell 0
  have y1 := g7.cell 1
  simp only [List.getElem?_toArray, List.getElem?_cons_zero, List.getElem?_cons_succ] at x0 x1 y0 y1
  clear hb g6 g7 G6 G7 HS HY HW5 HW6 B6 cE
  cases r with
  | true =>
    cases b with
    | true =>
      go_wp2
      go_ret
      exact ⟨by rw [HV.out]; rfl, b7.out⟩
    | false =>
      go_wp2
      go_ret
      exact ⟨by rw [HV.out]; rfl, b7.out⟩
  | false =>
    go_wp2
    go_ret
    exact ⟨by rw [HV.out]; rfl, b7.out⟩
set_option maxHeartbeats 4000000 in
/-- what is wrong with a node by itself -/
theorem rbFault_any (hN : NodeSays Nd) (w : World) (l : Tr) (k v g : BitVec 64) (r : Tr) (p : Option Addr) (ht : TreeAt Nd w w.heap.size (.n l k v g r) p) : Calls Try.prog 66 #[.pointer p] w fun e w' => e = .returned (nI (rootR (.n l k v g r))) ∧ Below w.heap.size w w' := by
  have cW : Hid (Calls Try.prog 76 #[.pointer p] w fun e w' => e = .returned (.bool (wellR g.toNat l.tag.toNat)) ∧ Below w.heap.size w w') := rbWell_any hN w _ p ht
  have cE : Hid (∀ W, Below w.heap.size w W → Calls Try.prog 77 #[.pointer p] W fun e w' => e = .returned (.bool (evenR g.toNat l.tag.toNat r.tag.toNat)) ∧ Below W.heap.size W w') := fun W h => rbEven_any hN W _ p (ht.after hN h)
  rw [root_R]
  obtain ⟨a, ha⟩ : ∃ a, wellR g.toNat l.tag.toNat = a := ⟨_, rfl⟩
  obtain ⟨b, hb⟩ : ∃ a, evenR g.toNat l.tag.toNat r.tag.toNat = a := ⟨_, rfl⟩
  rw [ha] at cW ⊢
  rw [hb] at cE ⊢
  clear ha hb hN ht
  cases a with
  | false =>
    rw [if_pos rfl]
    clear cE
    go_enter Try.func66, Try.ntmps66
    go_wp2_with fail
    refine cW.out.mono ?_
    rintro e w1 ⟨rfl, hb⟩
    have b1 := Lib.hid hb
    clear hb cW
    go_wp2
    go_ret
    exact ⟨rfl, b1.out⟩
  | true =>
    rw [if_neg (by decide)]
    cases b with
    | false =>
      rw [if_pos rfl]
      go_enter Try.func66, Try.ntmps66
      go_wp2_with fail
      refine cW.out.mono ?_
      rintro e w1 ⟨rfl, hb⟩
      have b1 := Lib.hid hb
      clear hb cW
      go_wp2_with fail
      refine (cE.out w1 b1.out).mono ?_
      rintro e w2 ⟨rfl, hb⟩
      have b2 := Lib.hid (Below.after b1.out hb)
      clear hb cE b1
      go_wp2
      go_ret
      exact ⟨rfl, b2.out⟩
    | true =>
      rw [if_neg (by decide)]
      go_enter Try.func66, Try.ntmps66
      go_wp2_with fail
      refine cW.out.mono ?_
      rintro e w1 ⟨rfl, hb⟩
      have b1 := Lib.hid hb
      clear hb cW
      go_wp2_with fail
      refine (cE.out w1 b1.out).mono ?_
      rintro e w2 ⟨rfl, hb⟩
      have b2 := Lib.hid (Below.after b1.out hb)
      clear hb cE b1
      go_wp2
      go_ret
      exact ⟨rfl, b2.out⟩
end Go.Proofs.Ytifhnaelkjfmdab
/- Package rb, as landed: Check, Part, May; it answers what layer 16's laws lean on. Made by wip/gen/layer16check.py. -/
namespace Go.Proofs.Ytifhnaelkjfmdab
open Go.RowKit Go.Proofs.Treem
set_option maxRecDepth 100000
variable {Nd : NdP}

theorem rbFirstR_any (hN : NodeSays Nd) (w : World) (t : Tr) (p : Option Addr) (ht : TreeAt Nd w w.heap.size t p) (h5 : t.size ≤ 5000) : Calls Try.prog 49 #[.pointer p] w fun e w' => e = .returned (.tuple #[nI (placeF rootR t), nI (errF rootR t)]) ∧ Below w.heap.size w w' :=
  rbFirst_any hN rootR (fun W l k v g r p h => rbFault_any hN W l k v g r p h) w t p ht h5
theorem nat_eq0 (x : Nat) : ((x : Int) == 0) = (x == 0) := by
  by_cases h : x = 0
  · rw [h]; rfl
  · rw [beq_eq_false_iff_ne.2 h, beq_eq_false_iff_ne]; omega
set_option maxHeartbeats 4000000 in
theorem rbCheck_any (hN : NodeSays Nd) (w : World) (t : Tr) (p : Option Addr) (ht : TreeAt Nd w w.heap.size t p) (h5 : t.size ≤ 5000) : Calls Try.prog 51 #[.pointer p] w fun e w' => e = .returned (.tuple #[nI (placeR t), nI (errR t)]) ∧ Below w.heap.size w w' := by
  have c1 := Lib.hid (rbFirstR_any hN w t p ht h5)
  have cE := Lib.hid (fun W (h : Below w.heap.size w W) => rbRed_any hN W t p (ht.after hN h))
  unfold placeR errR
  obtain ⟨x, hx⟩ : ∃ x, errF rootR t = x := ⟨_, rfl⟩
  obtain ⟨y, hy⟩ : ∃ x, placeF rootR t = x := ⟨_, rfl⟩
  obtain ⟨r, hr⟩ : ∃ x, redR t = x := ⟨_, rfl⟩
  rw [hx, hy] at c1
  rw [hr] at cE
  rw [hx, hy, hr]
  clear hx hy hr hN ht h5
  by_cases h0 : x = 0
  · subst h0
    cases r with
    | true =>
      rw [if_pos ⟨rfl, rfl⟩, if_pos ⟨rfl, rfl⟩]
      go_enter Try.func51, Try.ntmps51
      go_wp2_with fail
      refine c1.out.mono ?_
      rintro e w1 ⟨rfl, hb⟩
      have b1 := Lib.hid hb
      clear hb c1
      go_wp2_with fail
      refine (cE.out w1 b1.out).mono ?_
      rintro e w2 ⟨rfl, hb⟩
      have b2 := Lib.hid (Below.after b1.out hb)
      clear hb cE b1
      go_wp2
      exact bodyPost_ret (results_tmp2 rfl _ _ _) rfl ⟨rfl, b2.out⟩
    | false =>
      rw [if_neg (by simp), if_neg (by simp)]
      go_enter Try.func51, Try.ntmps51
      go_wp2_with fail
      refine c1.out.mono ?_
      rintro e w1 ⟨rfl, hb⟩
      have b1 := Lib.hid hb
      clear hb c1
      go_wp2_with fail
      refine (cE.out w1 b1.out).mono ?_
      rintro e w2 ⟨rfl, hb⟩
      have b2 := Lib.hid (Below.after b1.out hb)
      clear hb cE b1
      go_wp2
      exact bodyPost_ret (results_tmp2 rfl _ _ _) rfl ⟨rfl, b2.out⟩
  · rw [if_neg (fun h => h0 h.1), if_neg (fun h => h0 h.1)]
    have d1 : ((x : Int) == 0) = false := by rw [beq_eq_false_iff_ne]; omega
    clear cE
    go_enter Try.func51, Try.ntmps51
    go_wp2_with fail
    refine c1.out.mono ?_
    rintro e w1 ⟨rfl, hb⟩
    have b1 := Lib.hid hb
    clear hb c1
    go_wp2
    exact bodyPost_ret (results_tmp2 rfl _ _ _) rfl ⟨rfl, b1.out⟩
theorem rbPart_any (hN : NodeSays Nd) (w : World) (t : Tr) (p : Option Addr) (ht : TreeAt Nd w w.heap.size t p) (h5 : t.size ≤ 5000) : Calls Try.prog 19 #[.pointer p] w fun e w' => e = .returned (.bool (partR t)) ∧ Below w.heap.size w w' := by
  rw [partR, ← nat_eq0]
  have c1 := Lib.hid (rbFirstR_any hN w t p ht h5)
  obtain ⟨f, hf⟩ : ∃ x, errF rootR t = x := ⟨_, rfl⟩
  obtain ⟨x, hx⟩ : ∃ x, placeF rootR t = x := ⟨_, rfl⟩
  rw [hf, hx] at c1
  rw [hf]
  clear hf hx ht hN h5
  go_enter Try.func19, Try.ntmps19
  go_wp2_with fail
  refine c1.out.mono ?_
  rintro e w1 ⟨rfl, hb⟩
  have b1 := Lib.hid hb
  clear hb c1
  go_wp2
  go_ret
  exact ⟨rfl, b1.out⟩
theorem rbMay_any (hN : NodeSays Nd) (w : World) (t : Tr) (p : Option Addr) (ht : TreeAt Nd w w.heap.size t p) (h5 : t.size ≤ 5000) : Calls Try.prog 22 #[.pointer p] w fun e w' => e = .returned (.bool (mayR t)) ∧ Below w.heap.size w w' := by
  rw [mayR, ← nat_eq0]
  have c1 := Lib.hid (rbCheck_any hN w t p ht h5)
  obtain ⟨f, hf⟩ : ∃ x, errR t = x := ⟨_, rfl⟩
  obtain ⟨x, hx⟩ : ∃ x, placeR t = x := ⟨_, rfl⟩
  rw [hf, hx] at c1
  rw [hf]
  clear hf hx ht hN h5
  go_enter Try.func22, Try.ntmps22
  go_wp2_with fail
  refine c1.out.mono ?_
  rintro e w1 ⟨rfl, hb⟩
  have b1 := Lib.hid hb
  clear hb c1
  go_wp2
  go_ret
  exact ⟨rfl, b1.out⟩
theorem rb_says (hN : NodeSays Nd) : RbSays Nd where
  make := fun w L R k v red hl hr => rbMake_any hN w L R k v red hl hr
  red := fun w t p ht => rbRed_any hN w t p ht
  high := fun w t p ht => rbHigh_any' hN w t p ht
  blackNo := fun w T ht hr => rbBlackNo_any hN w T.tr T.ptr ht.tree hr
  blackYes := fun w a x L R ht hr => rbBlackYes_any hN w a x L R ht hr
  check := fun w t p ht h5 => rbCheck_any hN w t p ht h5
  part := fun w t p ht h5 => rbPart_any hN w t p ht h5
  may := fun w t p ht h5 => rbMay_any hN w t p ht h5
  rank := fun w t p ht => rbRank_any hN w t p ht
end Go.Proofs.Ytifhnaelkjfmdab
namespace Go.Proofs.Ytifhnaelkjfmdab
open Go.RowKit Go.Shelf Go.Proofs.Treem Go.Proofs.Cardm
set_option maxRecDepth 100000
variable {Nd : NdP}

theorem old_of17 (L R : AT) {w : World} (hN : NodeSays Nd) (hL : Stand Nd w L) (hR : Stand Nd w R) : (∀ a ∈ L.addrs, a ∈ addrsOf [L, R]) ∧ (∀ a ∈ R.addrs, a ∈ addrsOf [L, R]) ∧ ∀ a ∈ addrsOf [L, R], a.block < w.heap.size :=
  ⟨fun _ h => of_two.2 (.inl h), fun _ h => of_two.2 (.inr h), fun a h => (of_two.1 h).elim (hL.lies.lt hN a) (hR.lies.lt hN a)⟩
/-- the lower tree, made black -/
theorem low17 {base : List Addr} {T U : AT} {h : Nat} (hk : Blk base T U) (hp : partR T.tr = true) (hs : T.size ≤ 1000) (hlt : highR T.tr < h) : Pt U.tr (hbR T.tr) false ∧ hbR T.tr ≤ h ∧ highR U.tr = hbR T.tr := by
  have h1 : partR U.tr = true := by rw [hk.1]; exact black_part hp (by rw [AT.size_tr]; omega)
  have h2 : redR U.tr = false := by rw [hk.1]; exact black_red _
  have h3 : highR U.tr = hbR T.tr := by rw [hk.1]; rfl
  have h4 := Pt.of h1
  rw [h2, h3] at h4
  refine ⟨h4, ?_, h3⟩
  have h5 := (Pt.of hp).hb (by have := (part_few hp (by rw [AT.size_tr]; omega)).1; omega)
  rw [h5]
  split <;> omega
theorem high_le_hb {t : Tr} (hp : partR t = true) (hs : t.size ≤ 5000) : highR t ≤ hbR t ∧ hbR t ≤ highR t + 1 := by
  have h5 := (Pt.of hp).hb (by have := (part_few hp hs).1; omega)
  rw [h5]
  split <;> omega
/-- two that are as high as each other -/
theorem even17 {L R : AT} {a : Addr} {x : No} {k v : BitVec 64} (hp : partR L.tr = true) (hq : partR R.tr = true) (h1 : L.size ≤ 1000) (h2 : R.size ≤ 1000) (he : highR L.tr = highR R.tr) (hx : x.k = k ∧ x.v = v ∧ x.g = tagR L.tr false) (ha : a ∉ addrsOf [L, R]) :
    mayR (AT.n a x L R).tr = true ∧ (AT.n a x L R).tr.pairs = L.tr.pairs ++ (k, v) :: R.tr.pairs ∧ (highR (AT.n a x L R).tr = max (hbR L.tr) (hbR R.tr) ∨ highR (AT.n a x L R).tr = max (hbR L.tr) (hbR R.tr) + 1) ∧
      1 ≤ newC (AT.n a x L R).addrs (addrsOf [L, R]) ∧ newC (AT.n a x L R).addrs (addrsOf [L, R]) ≤ mostR L.tr R.tr := by
  have pL := Pt.of hp
  have pR := Pt.of hq
  have f1 := (part_few hp (by rw [AT.size_tr]; omega)).1
  have b1 := high_le_hb hp (by rw [AT.size_tr]; omega)
  have b2 := high_le_hb hq (by rw [AT.size_tr]; omega)
  rw [← he] at pR b2
  have pJ : Pt (AT.n a x L R).tr (highR L.tr + 1) false := Pt.blackNode (d := true) (a := a) (x := x) (O := L) (I := R) pL pR (by rw [hx.2.2, tag_black f1])
  refine ⟨by rw [may_R, pJ.part, pJ.red]; rfl, ?_, ?_, new_root ha _ _ _, ?_⟩
  · show L.tr.pairs ++ (x.k, x.v) :: R.tr.pairs = _
    rw [hx.1, hx.2.1]
  · rw [pJ.high]; omega
  · have h3 := new_le_S (addrsOf [L, R]) (.n a x L R)
    rw [freshS_new ha, freshS_old (J := L) (fun _ h => of_two.2 (.inl h)), freshS_old (J := R) (fun _ h => of_two.2 (.inr h))] at h3
    unfold mostR
    omega
set_option maxHeartbeats 8000000 in
theorem join17_any (hN : NodeSays Nd) (hV : RbSays Nd) (w : World) (L R : AT) (k v : BitVec 64) (hL : Stand Nd w L) (hR : Stand Nd w R) (eL : partR L.tr = true) (eR : partR R.tr = true) (h1 : L.tr.size ≤ 1000) (h2 : R.tr.size ≤ 1000) :
    Calls Try.prog 30 #[.pointer L.ptr, K k, K v, .pointer R.ptr] w (Joined17 Nd L R k v w) := by
  rw [AT.size_tr] at h1 h2
  have c1 := Lib.hid (high17 hV w L hL)
  have c2 := Lib.hid (fun W (h : Below w.heap.size w W) => high17 hV W R (hR.after hN h))
  have hN' := Lib.hid hN
  obtain ⟨P, hP⟩ : ∃ P, highR L.tr = P := ⟨_, rfl⟩
  obtain ⟨Q, hQ⟩ : ∃ Q, highR R.tr = Q := ⟨_, rfl⟩
  rw [hP] at c1
  rw [hQ] at c2
  obtain ⟨Z, hZ⟩ : ∃ Z, Joined17 Nd L R k v w = Z := ⟨_, rfl⟩
  have b1 := high_le_hb eL (by rw [AT.size_tr]; omega)
  have b2 := high_le_hb eR (by rw [AT.size_tr]; omega)
  obtain ⟨oL, oR, oB⟩ := old_of17 L R hN hL hR
  obtain ⟨pl, hpl⟩ : ∃ p, L.ptr = p := ⟨_, rfl⟩
  obtain ⟨pr, hpr⟩ : ∃ p, R.ptr = p := ⟨_, rfl⟩
  rcases Nat.lt_trichotomy Q P with hlt | heq | hlt
  · have cB : Hid (∀ W, Below w.heap.size w W → Calls Try.prog 14 #[.pointer R.ptr] W fun e w' => ∃ U : AT, e = .returned (.pointer U.ptr) ∧ Stand Nd w' U ∧ Blk (addrsOf [L, R]) R U ∧ Below W.heap.size W w') := fun W hb => black17 hN hV W R (hR.after hN hb) _ (fun a ha => Nat.lt_of_lt_of_le (oB a ha) hb.size)
    have cJ : Hid (∀ W U, Below w.heap.size w W → Stand Nd W U → Blk (addrsOf [L, R]) R U → Calls Try.prog 55 #[.iface 79 (.agg #[K k, K v, .pointer U.ptr]), .pointer L.ptr] W fun e w' => ∃ J : AT, e = .returned (.pointer J.ptr) ∧ Stand Nd w' J ∧ Join17 true L U k v (addrsOf [L, R]) J ∧ Below W.heap.size W w') := fun W U hb hU hk => by
      obtain ⟨p1, p2, -⟩ := low17 (h := P) hk eR h2 (by omega)
      have p3 := (Pt.of eL).tag
      exact joined17_any hN hV (sideR17 hN hV k v U) W L _ _ (hL.after hN hb) hU h1 eL p1 (by omega) oL (hk.few oR) (fun a ha => Nat.lt_of_lt_of_le (oB a ha) hb.size)
    have fin : Hid (∀ J U W, Stand Nd W J → Blk (addrsOf [L, R]) R U → Join17 true L U k v (addrsOf [L, R]) J → Below w.heap.size w W → Z (.returned (.pointer J.ptr)) W) := fun J U W h3 hk h4 h5 => by
      obtain ⟨-, p2, p3⟩ := low17 (h := P) hk eR h2 (by omega)
      have p4 : hbR R.tr ≤ hbR L.tr := by omega
      have p5 : J.tr.pairs = L.tr.pairs ++ (k, v) :: U.tr.pairs := h4.pairs
      have p6 := h4.few
      have p7 := h4.high
      rw [hk.pairs] at p5
      rw [p3] at p6
      exact hZ ▸ ⟨J, rfl, h3, h4.may, p5, by rw [Nat.max_eq_left p4]; exact p7, h4.new, by unfold mostR; rw [Nat.max_eq_left p4, Nat.min_eq_right p4]; exact p6, h5⟩
    have d1 : decide ((Q : Int) < (P : Int)) = true := decide_eq_true (by omega)
    rw [hpr] at cB c2
    rw [hpl] at cJ c1
    rw [hZ, hpl, hpr]
    clear hN hL hR hV hP hQ hZ h1 h2 b1 b2 oL oR oB hpl hpr eL eR
    go_enter Try.func30, Try.ntmps30
    go_wp2_with fail
    refine c1.out.mono ?_
    rintro e w1 ⟨rfl, hb⟩
    have B1 := Lib.hid hb
    clear hb c1
    go_wp2_with fail
    refine (c2.out w1 B1.out).mono ?_
    rintro e w2 ⟨rfl, hb⟩
    have B2 := Lib.hid (Below.after B1.out hb)
    clear hb c2
    go_wp2_with fail
    refine (cB.out w2 B2.out).mono ?_
    rintro e w3 ⟨U, rfl, hU, hk, hb⟩
    have B3 := Lib.hid (Below.after B2.out hb)
    have HK := Lib.hid hk
    have c4 := Lib.hid (cJ.out w3 U B3.out hU hk)
    obtain ⟨pu, hpu⟩ : ∃ p, U.ptr = p := ⟨_, rfl⟩
    rw [hpu] at c4
    rw [hpu]
    clear hb hU hk cB cJ hpu
    go_wp2_with fail
    refine c4.out.mono ?_
    rintro e w4 ⟨J, rfl, hJ, hq, hb⟩
    have f4 := Lib.hid (fin.out J U w4 hJ HK.out hq (Below.after B3.out hb))
    clear hb hJ hq c4 fin
    go_wp2
    exact f4.out
  · have cM : Hid (∀ W, Below w.heap.size w W → Calls Try.prog 12 #[.pointer L.ptr, K k, K v, .bool false, .pointer R.ptr] W (Made13 Nd L R k v (tagR L.tr false) W)) := fun W hb => hV.make W L R k v false (hL.after hN hb) (hR.after hN hb)
    have fin : Hid (∀ (a : Addr) (x : No) (W U : World), (x.k = k ∧ x.v = v ∧ x.g = tagR L.tr false) → Stand Nd U (.n a x L R) → W.heap.size ≤ a.block → w.heap.size ≤ W.heap.size → Below w.heap.size w U → Z (.returned (.pointer (some a))) U) := fun a x W U h3 h4 h5 h6 h7 => by
      have h8 := even17 (a := a) (x := x) eL eR h1 h2 (by omega) h3 (fun h => by have := oB a h; omega)
      exact hZ ▸ ⟨.n a x L R, rfl, h4, h8.1, h8.2.1, h8.2.2.1, h8.2.2.2.1, h8.2.2.2.2, h7⟩
    have d1 : decide ((Q : Int) < (P : Int)) = false := decide_eq_false (by omega)
    have d2 : decide ((P : Int) < (Q : Int)) = false := decide_eq_false (by omega)
    rw [hpr] at cM c2
    rw [hpl] at cM c1
    rw [hZ, hpl, hpr]
    clear hN hL hR hV hP hQ hZ h1 h2 b1 b2 oL oR oB hpl hpr eL eR
    go_enter Try.func30, Try.ntmps30
    go_wp2_with fail
    refine c1.out.mono ?_
    rintro e w1 ⟨rfl, hb⟩
    have B1 := Lib.hid hb
    clear hb c1
    go_wp2_with fail
    refine (c2.out w1 B1.out).mono ?_
    rintro e w2 ⟨rfl, hb⟩
    have B2 := Lib.hid (Below.after B1.out hb)
    clear hb c2
    go_wp2_with fail
    refine (cM.out w2 B2.out).mono ?_
    rintro e w3 ⟨a, x, rfl, hx, hs, ha, hb⟩
    have f4 := Lib.hid (fin.out a x w2 w3 hx hs ha B2.out.size (Below.after B2.out hb))
    clear hx hs ha hb cM fin
    go_wp2
    exact f4.out
  · have cB : Hid (∀ W, Below w.heap.size w W → Calls Try.prog 14 #[.pointer L.ptr] W fun e w' => ∃ U : AT, e = .returned (.pointer U.ptr) ∧ Stand Nd w' U ∧ Blk (addrsOf [L, R]) L U ∧ Below W.heap.size W w') := fun W hb => black17 hN hV W L (hL.after hN hb) _ (fun a ha => Nat.lt_of_lt_of_le (oB a ha) hb.size)
    have cJ : Hid (∀ W U, Below w.heap.size w W → Stand Nd W U → Blk (addrsOf [L, R]) L U → Calls Try.prog 55 #[.iface 80 (.agg #[K k, K v, .pointer U.ptr]), .pointer R.ptr] W fun e w' => ∃ J : AT, e = .returned (.pointer J.ptr) ∧ Stand Nd w' J ∧ Join17 false R U k v (addrsOf [L, R]) J ∧ Below W.heap.size W w') := fun W U hb hU hk => by
      obtain ⟨p1, p2, -⟩ := low17 (h := Q) hk eL h1 (by omega)
      have p3 := (Pt.of eR).tag
      exact joined17_any hN hV (sideL17 hN hV k v U) W R _ _ (hR.after hN hb) hU h2 eR p1 (by omega) oR (hk.few oL) (fun a ha => Nat.lt_of_lt_of_le (oB a ha) hb.size)
    have fin : Hid (∀ J U W, Stand Nd W J → Blk (addrsOf [L, R]) L U → Join17 false R U k v (addrsOf [L, R]) J → Below w.heap.size w W → Z (.returned (.pointer J.ptr)) W) := fun J U W h3 hk h4 h5 => by
      obtain ⟨-, p2, p3⟩ := low17 (h := Q) hk eL h1 (by omega)
      have p4 : hbR L.tr ≤ hbR R.tr := by omega
      have p5 : J.tr.pairs = U.tr.pairs ++ (k, v) :: R.tr.pairs := by
        have h := congrArg List.reverse h4.pairs
        simpa [prD] using h
      have p6 := h4.few
      have p7 := h4.high
      rw [hk.pairs] at p5
      rw [p3] at p6
      exact hZ ▸ ⟨J, rfl, h3, h4.may, p5, by rw [Nat.max_eq_right p4]; exact p7, h4.new, by unfold mostR; rw [Nat.max_eq_right p4, Nat.min_eq_left p4]; exact p6, h5⟩
    have d1 : decide ((Q : Int) < (P : Int)) = false := decide_eq_false (by omega)
    have d2 : decide ((P : Int) < (Q : Int)) = true := decide_eq_true (by omega)
    rw [hpr] at cJ c2
    rw [hpl] at cB c1
    rw [hZ, hpl, hpr]
    clear hN hL hR hV hP hQ hZ h1 h2 b1 b2 oL oR oB hpl hpr eL eR
    go_enter Try.func30, Try.ntmps30
    go_wp2_with fail
    refine c1.out.mono ?_
    rintro e w1 ⟨rfl, hb⟩
    have B1 := Lib.hid hb
    clear hb c1
    go_wp2_with fail
    refine (c2.out w1 B1.out).mono ?_
    rintro e w2 ⟨rfl, hb⟩
    have B2 := Lib.hid (Below.after B1.out hb)
    clear hb c2
    go_wp2_with fail
    refine (cB.out w2 B2.out).mono ?_
    rintro e w3 ⟨U, rfl, hU, hk, hb⟩
    have B3 := Lib.hid (Below.after B2.out hb)
    have HK := Lib.hid hk
    have c4 := Lib.hid (cJ.out w3 U B3.out hU hk)
    obtain ⟨pu, hpu⟩ : ∃ p, U.ptr = p := ⟨_, rfl⟩
    rw [hpu] at c4
    rw [hpu]
    clear hb hU hk cB cJ hpu
    go_wp2_with fail
    refine c4.out.mono ?_
    rintro e w4 ⟨J, rfl, hJ, hq, hb⟩
    have f4 := Lib.hid (fin.out J U w4 hJ HK.out hq (Below.after B3.out hb))
    clear hb hJ hq c4 fin
    go_wp2
    exact f4.out
/-- what package rbjoin answers -/
theorem rbj_says (hN : NodeSays Nd) : RbjSays Nd where
  join := fun w L R k v hL hR eL eR h1 h2 => join17_any hN (rb_says hN) w L R k v hL hR eL eR h1 h2
  most := fun w t u p q hl hr h1 h2 => most17_any hN (rb_says hN) w t u p q hl hr h1 h2
end Go.Proofs.Ytifhnaelkjfmdab
