/- Package wb, as landed: it answers what layer 18's laws lean on. Made by wip/gen/layer18check.py. -/
import Derived.Test.YtfbmpgffekhmhaaJB
import Derived.Test.YtfbmpgffekhmhaaJC
import Derived.Test.YtfbmpgffekhmhaaGRound
import Derived.Test.YtfbmpgffekhmhaaGRuns
import Derived.Test.YtfbmpgffekhmhaaGCut
import Derived.Test.YtfbmpgffekhmhaaGRet
import Derived.Test.YtfbmpgffekhmhaaGMap
import Derived.Test.YtfbmpgffekhmhaaGHeldTo
import Derived.Test.YtfbmpgffekhmhaaJA
import Derived.Test.YtfbmpgffekhmhaaGPtrSet
import Derived.Test.YtfbmpgffekhmhaaGApart
import Derived.Test.YtfbmpgffekhmhaaGOwn
import Derived.Test.YtfbmpgffekhmhaaGHeldIn
import Derived.Deep.Cut
import Derived.Shelf.Abstract
import Derived.Laws.OwnMore
import Derived.Test.YtfbmpgffekhmhaaGRow
import Derived.IntWalk
import Derived.BigRegionIn
import Derived.Sort.CutIn
import Derived.Laws.EntriesVeiled
/- Package wbjoin, as landed: the heavier tree, in which the pair and the lighter one are put in. Made by wip/gen/layer19join.py. -/
namespace Go.Proofs.Ytfbmpgffekhmhaa
open Go.RowKit Go.Shelf Go.Proofs.Treem Go.Proofs.Cardm
attribute [local go_sem] Oper.semAt_some
set_option maxRecDepth 100000
variable {Nd : NdP}

/-- a turn, as a value: the function, and which side is outward -/
abbrev turnV (f : FuncId) (sd : Value) : Value := .func (.func f) #[sd] #[]
/-- the map of turns, with its first n entries -/
def turnsM (sd : Value) : Nat → Array MapEntry
  | 0 => #[]
  | 1 => #[⟨.int .i64 0, turnV 47 sd, 0⟩]
  | 2 => #[⟨.int .i64 0, turnV 47 sd, 0⟩, ⟨.int .i64 1, turnV 48 sd, 1⟩]
  | _ => #[⟨.int .i64 0, turnV 47 sd, 0⟩, ⟨.int .i64 1, turnV 48 sd, 1⟩, ⟨.int .i64 2, turnV 49 sd, 2⟩]
/-- a key that is there is found, wherever the map lies -/
theorem look_has {P : Program} (W : World) {t kt et : TypeId} {q : IntKind} {r : Nat} {es : Array MapEntry} {c : Nat} {k : Int} {i : Nat} {v : Value} (hm : P.underlying t = some (.map kt et)) (hk : P.underlying kt = some (.int q)) (hb : W.heap[r]? = some (.map es c))
    (hf : Instr.findNow (.int q) (.int q k) es.toList 0 = some (some (i, v))) :
    (Instr.lookup t (.map (some r)) (.int q k) false).run P W = .ok v W := by
  have hc : (Instr.checkKey es.isEmpty 10000 kt (.int q k)).run P W = .ok () W := MapKept.run_checkKey (k := .int q k) hk (by simp [MapKept.IsKey]) _ 9999
  simp [Instr.lookup, run_underlying hm, MapKept.run_getObj_map hb, hc, MapKept.run_findKey hk hf, Result.andThen]
theorem look0 {W : World} {r : Nat} {sd : Value} (hb : W.heap[r]? = some (.map (turnsM sd 3) 3)) : (Instr.lookup 79 (.map (some r)) (.int .i64 0) false).run Try.prog W = .ok (turnV 47 sd) W := look_has W Try.underlying79 Try.underlying77 hb (i := 0) rfl
theorem look1 {W : World} {r : Nat} {sd : Value} (hb : W.heap[r]? = some (.map (turnsM sd 3) 3)) : (Instr.lookup 79 (.map (some r)) (.int .i64 1) false).run Try.prog W = .ok (turnV 48 sd) W := look_has W Try.underlying79 Try.underlying77 hb (i := 1) rfl
theorem look2 {W : World} {r : Nat} {sd : Value} (hb : W.heap[r]? = some (.map (turnsM sd 3) 3)) : (Instr.lookup 79 (.map (some r)) (.int .i64 2) false).run Try.prog W = .ok (turnV 49 sd) W := look_has W Try.underlying79 Try.underlying77 hb (i := 2) rfl
/-- between two rounds: what stands in the place of a node -/
def Seek19 (Nd : NdP) (d : Bool) (H L : AT) (k v : BitVec 64) (base : List Addr) (ps : List AT) (gT D : Nat) (W6 : World) (pre : List (Nat × Option Addr)) (U : World) : Prop :=
  ∃ (rest : List AT) (M T : AT), backIts (ps.map AT.ptr) = pre ++ backIts (rest.map AT.ptr) ∧ rest.map AT.ptr <:+ ps.map AT.ptr ∧ rest <:+ ps ∧ Rep19 d H L k v base rest M T pre.length ∧ Jb Nd gT D W6 T U
theorem Seek19.turned {d : Bool} {H L : AT} {k v : BitVec 64} {base : List Addr} {ps : List AT} {gT D : Nat} {W6 : World} {pre : List (Nat × Option Addr)} {U U' : World} (h : Seek19 Nd d H L k v base ps gT D W6 pre U) (hN : NodeSays Nd) (hD : W6.heap.size = D) (ht : Turn (fun _ => false) D U U') : Seek19 Nd d H L k v base ps gT D W6 pre U' := by
  obtain ⟨rest, M, T, h1, h2, h0, h3, h4⟩ := h
  exact ⟨rest, M, T, h1, h2, h0, h3, h4.turned hN hD ht⟩
theorem Seek19.done {d : Bool} {H L : AT} {k v : BitVec 64} {base : List Addr} {ps : List AT} {gT D : Nat} {W6 : World} {U : World} (h : Seek19 Nd d H L k v base ps gT D W6 (backIts (ps.map AT.ptr)) U) : ∃ M T, Rep19 d H L k v base [] M T ps.length ∧ Jb Nd gT D W6 T U := by
  obtain ⟨rest, M, T, h1, h2, -, h3, h4⟩ := h
  cases rest with
  | nil =>
    rw [backIts_len, List.length_map] at h3
    exact ⟨M, T, h3, h4⟩
  | cons N r =>
    have := congrArg List.length h1
    simp [backIts] at this
theorem Rep19.small {d : Bool} {H L : AT} {k v : BitVec 64} {base : List Addr} {ps : List AT} {M T : AT} {n : Nat} (r : Rep19 d H L k v base ps M T n) (h1 : H.size ≤ 1000) (h2 : L.size ≤ 1000) : T.size ≤ 4000 := by
  have := r.size
  have := r.way.size
  omega
set_option maxHeartbeats 16000000 in
theorem joined19_any (hN : NodeSays Nd) (hV : WbSays Nd) (w : World) (d : Bool) (H L : AT) (k v : BitVec 64) (base : List Addr) (hH : Stand Nd w H) (hL : Stand Nd w L) (h1 : H.size ≤ 1000) (h2 : L.size ≤ 1000) (mH : mayW H.tr = true) (mL : mayW L.tr = true) (hle : wt L ≤ wt H)
    (oH : ∀ a ∈ H.addrs, a ∈ base) (oL : ∀ a ∈ L.addrs, a ∈ base) (oB : ∀ a ∈ base, a.block < w.heap.size) : Calls Try.prog 29 #[sV d, .pointer H.ptr, K k, K v, .pointer L.ptr] w fun e w' => ∃ J : AT, e = .returned (.pointer J.ptr) ∧ Stand Nd w' J ∧ Join19 d H L k v base J ∧ Below w.heap.size w w' := by
  have cW := Lib.hid (fun W (h1' : Stand Nd W H) (h2' : Stand Nd W L) => way19_any hN hV W d H L h1' h2' h1 h2)
  have cP := Lib.hid (fun W B (hB : Stand Nd W B) (h2' : Stand Nd W L) => made19_any hN hV W d B L k v hB h2')
  have cQ := Lib.hid (fun aN y l r aT xT O I s1 s2 => asked19_any hN hV d aN y l r aT xT O I s1 s2)
  have c0 := Lib.hid (fun W aN y l r T h hT => with19_any hN hV W d aN y l r T h hT)
  have c1 := Lib.hid (fun W aN y l r aT xT O I h hT => once19_any hN hV W d aN y l r aT xT O I h hT)
  have c2 := Lib.hid (fun W aN y l r aT xT aM xM P Q I h hT => twice19_any hN hV W d aN y l r aT xT aM xM P Q I h hT)
  obtain ⟨ph, hph⟩ : ∃ p, H.ptr = p := ⟨_, rfl⟩
  obtain ⟨pl, hpl⟩ : ∃ p, L.ptr = p := ⟨_, rfl⟩
  obtain ⟨s, hsd⟩ : ∃ s, sV d = .int .i64 s := ⟨_, rfl⟩
  simp only [hpl, hph, hsd] at cW cP
  simp only [hsd] at cQ c0 c1 c2
  rw [hph, hpl, hsd]
  obtain ⟨g0, hg0⟩ : ∃ g, w.heap.size = g := ⟨_, rfl⟩
  obtain ⟨W0, hW0⟩ : ∃ W, w.alloc (.cells #[.int .i64 s] 54) = W := ⟨_, rfl⟩
  have hB0 : Below w.heap.size w W0 := hW0 ▸ (Below.refl _ w).alloc (Nat.le_refl _) _
  have hH0 : Boxed W0 g0 54 (.int .i64 s) := hg0 ▸ hW0 ▸ Boxed.new w _ _
  obtain ⟨gM, hgM⟩ : ∃ g, W0.heap.size = g := ⟨_, rfl⟩
  obtain ⟨Wm, hWm⟩ : ∃ W, W0.alloc (.map (turnsM (.int .i64 s) 3) 3) = W := ⟨_, rfl⟩
  have hBm : Below W0.heap.size W0 Wm := hWm ▸ (Below.refl _ W0).alloc (Nat.le_refl _) _
  have hMm : Wm.heap[gM]? = some (.map (turnsM (.int .i64 s) 3) 3) := by rw [← hWm, ← hgM]; exact (MapKept.heap_alloc W0 _).1
  obtain ⟨gQ, hgQ⟩ : ∃ g, W0.heap.size + 1 = g := ⟨_, rfl⟩
  have eM : Wm.heap.size = gQ := by rw [← hWm, ← hgQ]; simp
  obtain ⟨Wq, hWq⟩ : ∃ W, Wm.alloc (.cells #[.map (some gM)] 79) = W := ⟨_, rfl⟩
  have hBq : Below Wm.heap.size Wm Wq := hWq ▸ (Below.refl _ Wm).alloc (Nat.le_refl _) _
  have hHq : Boxed Wq gQ 79 (.map (some gM)) := eM ▸ hWq ▸ Boxed.new Wm _ _
  have hB0q := Below.after hBm hBq
  have k0 : W0.cell? ⟨g0, 0, none⟩ = some (.int .i64 s) := hH0.cell
  have r0 : ∀ es c, (W0.alloc (.map es c)).cell? ⟨g0, 0, none⟩ = some (.int .i64 s) := fun es c => keep_cell ((Below.refl _ W0).alloc (Nat.le_refl _) (.map es c)) k0
  have r1 := r0 #[] 0
  have r2 := r0 (turnsM (.int .i64 s) 1) 1
  have r3 := r0 (turnsM (.int .i64 s) 2) 2
  have q0 := keep_cell hB0q k0
  have hmm : (Instr.makeMap 79 none).run Try.prog W0 = .ok (.map (some gM)) (W0.alloc (.map #[] 0)) := by rw [← hgM]; exact run_makeMap ..
  have q1 : (Instr.mapUpdate 79 (.map (some gM)) (.int .i64 0) (turnV 47 (.int .i64 s))).run Try.prog (W0.alloc (.map #[] 0)) = .ok () (W0.alloc (.map (turnsM (.int .i64 s) 1) 1)) := put_fresh W0 Try.underlying79 Try.underlying77 hgM rfl
  have q2 : (Instr.mapUpdate 79 (.map (some gM)) (.int .i64 1) (turnV 48 (.int .i64 s))).run Try.prog (W0.alloc (.map (turnsM (.int .i64 s) 1) 1)) = .ok () (W0.alloc (.map (turnsM (.int .i64 s) 2) 2)) := put_fresh W0 Try.underlying79 Try.underlying77 hgM rfl
  have q3 : (Instr.mapUpdate 79 (.map (some gM)) (.int .i64 2) (turnV 49 (.int .i64 s))).run Try.prog (W0.alloc (.map (turnsM (.int .i64 s) 2) 2)) = .ok () (W0.alloc (.map (turnsM (.int .i64 s) 3) 3)) := put_fresh W0 Try.underlying79 Try.underlying77 hgM rfl
  have B0 : Hid (Below w.heap.size w Wq) := Below.after hB0 hB0q
  have H0 : Hid (Boxed Wq g0 54 (.int .i64 s)) := Has.next (show Has _ _ _ _ from hH0) hB0q
  have HQ := Lib.hid hHq
  have HM : Hid (Wq.heap[gM]? = some (.map (turnsM (.int .i64 s) 3) 3)) := (hBq.block gM (Array.getElem?_eq_some_iff.1 hMm).1).trans hMm
  have z0 : Hid (g0 < gM ∧ gM < gQ ∧ gQ + 1 = Wq.heap.size) := by
    have e1 : W0.heap.size = w.heap.size + 1 := by rw [← hW0]; simp
    have e2 : Wm.heap.size = W0.heap.size + 1 := by rw [← hWm]; simp
    have e3 : Wq.heap.size = Wm.heap.size + 1 := by rw [← hWq]; simp
    exact ⟨by omega, by omega, by omega⟩
  have hN' := Lib.hid hN
  have HSq : Hid (Stand Nd Wq H) := hH.after hN B0.out
  have LSq : Hid (Stand Nd Wq L) := hL.after hN B0.out
  have MH := Lib.hid mH
  have ML := Lib.hid mL
  have HLE := Lib.hid hle
  have OH := Lib.hid oH
  have OL := Lib.hid oL
  have OB := Lib.hid oB
  have S1' := Lib.hid h1
  have S2' := Lib.hid h2
  have HW0 := Lib.hid hW0
  have HG0 := Lib.hid hg0
  have HWM := Lib.hid hWm
  have HGM := Lib.hid hgM
  have HWQ := Lib.hid hWq
  have HGQ := Lib.hid hgQ
  clear hH hL hB0 hN hV hW0 hg0 hph hpl hsd hH0 mH mL hle oH oL oB hBm hMm hBq hHq hB0q hWm hgM hWq hgQ r0 eM
  refine (callsIn_wide (n := 9)).1 ?_
  refine callsIn_of_wp_marks Try.func29 rfl trivial ?_ rfl
  simp only [Try.ntmps29, List.size_toArray, List.length_cons, List.length_nil, Nat.reduceAdd, Nat.reduceSub, Array.replicate_succ, Array.replicate_zero, List.push_toArray, List.append_toArray, List.nil_append, List.cons_append]
  refine wpIn_wide.2 ?_
  go_upto_region 1 with (fail)
  rw [HW0.out, HG0.out]
  go_upto_region 2 with (fail)
  rw [HWM.out, HWQ.out, HGQ.out]
  clear q1 q2 q3 r1 r2 r3 hmm k0
  go_wp2_with fail
  refine (cW.out Wq HSq.out LSq.out).mono ?_
  rintro e W1 ⟨v1, B, ps, rfl, hway, htag, hbot, hown, hHs, hLs, hb⟩
  obtain ⟨A, c, rfl, hnc, hcm, hcz⟩ := own_slice hown
  have hheavy := (hway.heavy MH.out S1'.out HLE.out htag).2
  have hends := hway.ends MH.out S1'.out HLE.out (wt_pos L) htag hbot
  have hfar := hway.far MH.out S1'.out (wt_pos L) hheavy
  obtain ⟨n, hn⟩ : ∃ n, ps.length = n := ⟨_, rfl⟩
  rw [hn] at hown hnc hfar ⊢
  obtain ⟨pB, hpB⟩ : ∃ p, B.ptr = p := ⟨_, rfl⟩
  have hBs : Stand Nd W1 B := (hway.stand hN'.out hHs).1
  have B1 := Lib.hid (Below.after B0.out hb)
  have s1 : Boxed W1 g0 54 (.int .i64 s) := Has.next (show Has _ _ _ _ from H0.out) hb
  have sq : Boxed W1 gQ 79 (.map (some gM)) := Has.next (show Has _ _ _ _ from HQ.out) hb
  have sm : Hid (W1.heap[gM]? = some (.map (turnsM (.int .i64 s) 3) 3)) := (hb.block gM (Array.getElem?_eq_some_iff.1 HM.out).1).trans HM.out
  have z2 : Hid (Wq.heap.size ≤ W1.heap.size) := hb.size
  have k1 := s1.cell
  have cp := Lib.hid (cP.out W1 B hBs hLs)
  rw [hpB] at cp
  rw [hpB]
  have FAR := Lib.hid hfar
  have HEAVY := Lib.hid hheavy
  have ENDS := Lib.hid hends
  have HPB := Lib.hid hpB
  have HN := Lib.hid hn
  have S1 := Lib.hid s1
  have SQ := Lib.hid sq
  have O1 := Lib.hid hown
  have HH1 := Lib.hid hHs
  have HWay := Lib.hid hway
  have NC := Lib.hid hnc
  have CM := Lib.hid hcm
  clear hb q0 hway htag hbot hown hHs hLs hnc hcm hcz hBs s1 sq hpB hn hfar hheavy hends HSq LSq cW cP h1 h2
  go_wp2_with fail
  refine cp.out.mono ?_
  rintro e W3 ⟨a0, x0, rfl, hx0, hs0, ha0, hb⟩
  obtain ⟨W4, hW4⟩ : ∃ W, W3.alloc (.cells #[.pointer (some a0)] 25) = W := ⟨_, rfl⟩
  obtain ⟨gT, hgT⟩ : ∃ g, W3.heap.size = g := ⟨_, rfl⟩
  obtain ⟨W6, hW6⟩ : ∃ W, W4.alloc (.cells #[.slice A n c] 59) = W := ⟨_, rfl⟩
  obtain ⟨gS, hgS⟩ : ∃ g, W4.heap.size = g := ⟨_, rfl⟩
  have b34 : Below W3.heap.size W3 W4 := hW4 ▸ (Below.refl _ W3).alloc (Nat.le_refl _) _
  have b46 : Below W4.heap.size W4 W6 := hW6 ▸ (Below.refl _ W4).alloc (Nat.le_refl _) _
  have b36 := Below.after b34 b46
  have b16 := Below.after hb b36
  have xT : Boxed W6 gT 25 (.pointer (some a0)) := Has.next (show Has _ _ _ _ from hgT ▸ hW4 ▸ Boxed.new W3 _ _) b46
  have xS : Boxed W6 gS 59 (.slice A n c) := hgS ▸ hW6 ▸ Boxed.new W4 _ _
  have HW4 := Lib.hid hW4
  have HW6 := Lib.hid hW6
  have HGT := Lib.hid hgT
  have HGS := Lib.hid hgS
  have B16 := Lib.hid b16
  have z1 : Hid (g0 < gM ∧ gM < gQ ∧ gQ < gT ∧ gT < gS ∧ gS + 1 = W6.heap.size ∧ W1.heap.size ≤ gT) := by
    have e0 := z0.out
    have e1 := z2.out
    have e2 := hb.size
    have e4 : W4.heap.size = W3.heap.size + 1 := by rw [← hW4]; simp
    have e6 : W6.heap.size = W4.heap.size + 1 := by rw [← hW6]; simp
    exact ⟨by omega, by omega, by omega, by omega, by omega, by omega⟩
  have T6 : Hid (Stand Nd W6 (AT.mk d a0 x0 B L)) := hs0.after hN'.out b36
  have HX0 := Lib.hid hx0
  have HA0 : Hid (w.heap.size ≤ a0.block) := Nat.le_trans B1.out.size ha0
  have XT := Lib.hid xT
  have XS := Lib.hid xS
  clear hb hs0 hx0 ha0 hW4 hgT hW6 hgS b34 b46 b36 b16 xT xS cp k1
  go_upto_region 4 with (fail)
  rw [HW4.out, HGT.out]
  go_wp2_with fail
  refine (back_any A n c W4).mono ?_
  rintro e W6' ⟨rfl, hW6'⟩
  obtain rfl : W6 = W6' := HW6.out.symm.trans hW6'
  rw [HGS.out]
  clear hW6'
  go_wp2_with fail
  refine (wpIn_wide (n := 9)).1 ?_
  have hps : ps.length ≤ 1000 := by have := HWay.out.size; have := S1'.out; omega
  have cells : ∀ p r, (p :: r) <:+ ps.map AT.ptr → ∃ ad, A = some ad ∧ W6.cell? (ad.add r.length) = some (.pointer p) := fun p r h => by
    obtain ⟨ad, e, hb, hc⟩ := (Row.of_own O1.out) r.length (.pointer p) (above_cell h)
    exact ⟨ad, e, keep_cell B16.out hc⟩
  have place : ∀ ad, 0 < n → A = some ad → ad.block < gT := fun ad h0 e => by
    obtain ⟨g, c', e2, h1, h2, h3⟩ := own_full O1.out h0
    cases e2.trans rfl
    cases e
    have e3 := (O1.out.lt g rfl).2
    have e4 := z1.out
    show g < gT
    omega
  have HP := Lib.hid hps
  have HC := Lib.hid cells
  have HPL := Lib.hid place
  clear hps cells place
  refine wpIn_rangeFunc_runs (α := Nat × Option Addr) (mine := fun _ => false) rfl (by omega) (gf := 66) (lb := #[.pointer (some ⟨gS, 0, none⟩)]) rfl trivial (enters_of Try.func66 (by kernel_rfl) rfl)
    (back_runs W6 gS A n c (ps.map AT.ptr) (by rw [List.length_map]; exact HN.out) (by have := HP.out; have := HN.out; omega) XS.out HC.out (Kj gT gT W6.heap.size)
      (fun X Y h => ⟨h.keep gS (by have := z1.out; omega) (by have := z1.out; omega) (by have := z1.out; omega), fun h0 ad e => by have := HPL.out ad h0 e; have := z1.out; exact h.keep _ (by omega) (by omega) (by omega)⟩) _)
    Kj.trans (fun X l o o' h _ _ _ => Kj.put X l o' h) (Below.refl _ _) (fun _ => rfl)
    (fun pre U => Seek19 Nd d H L k v base ps gT W6.heap.size W6 pre U)
    (fun _ _ _ => False)
    (fun _ _ _ h ht => h.turned hN'.out rfl ht) (fun _ _ _ _ h _ => h)
    ?start
    (fun x a' _ => a' = { tmps := #[.int .i64 s, .pointer ph, K k, K v, .pointer pl, .pointer (some ⟨g0, 0, none⟩), undef, undef, undef, undef, .pointer none, .pointer (some ⟨gQ, 0, none⟩), .slice A n c, .pointer pB, .pointer (some ⟨gT, 0, none⟩), undef, .pointer x.2, .map (some gM), .int .i64 s, turnV 47 (.int .i64 s), .int .i64 s, turnV 48 (.int .i64 s), .int .i64 s, turnV 49 (.int .i64 s), .map (some gM), .tuple #[.slice A n c, .pointer pB], .int .i64 s, .pointer ph, .pointer pl, .tuple #[.slice A n c, .pointer pB], .slice A n c, .pointer pB, .int .i64 s, .pointer pB, K k, K v, .pointer pl, .pointer (some a0), .slice A n c, .func (.func 66) #[] #[.pointer (some ⟨gS, 0, none⟩)], nI x.1, .pointer x.2, undef, undef, undef, undef, undef, undef, undef, undef, undef, undef], defers := [] })
    (fun x a' _ X Y row hs hg hr => hs)
    ?assign ?body ?done ?stop
  case start =>
    refine ⟨ps, B, AT.mk d a0 x0 B L, rfl, List.suffix_refl _, List.suffix_refl _, ?_, XT.out, T6.out, Kj.refl _ _ _ _⟩
    exact Rep19.start MH.out ML.out S1'.out S2'.out HWay.out ENDS.out HX0.out (fun h => by have := OB.out _ h; have := HA0.out; omega) OH.out OL.out
  case assign =>
    rintro L' pre ⟨pj, q⟩ U KK hI hpx hK
    have hK2 := Lib.hid (hK { tmps := #[.int .i64 s, .pointer ph, K k, K v, .pointer pl, .pointer (some ⟨g0, 0, none⟩), undef, undef, undef, undef, .pointer none, .pointer (some ⟨gQ, 0, none⟩), .slice A n c, .pointer pB, .pointer (some ⟨gT, 0, none⟩), undef, .pointer q, .map (some gM), .int .i64 s, turnV 47 (.int .i64 s), .int .i64 s, turnV 48 (.int .i64 s), .int .i64 s, turnV 49 (.int .i64 s), .map (some gM), .tuple #[.slice A n c, .pointer pB], .int .i64 s, .pointer ph, .pointer pl, .tuple #[.slice A n c, .pointer pB], .slice A n c, .pointer pB, .int .i64 s, .pointer pB, K k, K v, .pointer pl, .pointer (some a0), .slice A n c, .func (.func 66) #[] #[.pointer (some ⟨gS, 0, none⟩)], nI pj, .pointer q, undef, undef, undef, undef, undef, undef, undef, undef, undef, undef], defers := [] } U ((KeepsOthers.refl _).from _) (Kj.refl _ _ _ _) hI rfl)
    clear hK hI hpx
    gi_wp2
    exact hK2.out
  case stop =>
    rintro D1 c' pre U hD1 hpre h
    exact h.elim
  case body =>
    rintro L' pre ⟨pj, q⟩ a' u0 hL _ ⟨rest, M, T, h1, h2, h0, hR, hJ⟩ rfl hpx
    obtain ⟨p0, r0, e1, e2, e3⟩ := its_next hpx h1
    cases rest with
    | nil => cases e1
    | cons N rest =>
      rw [List.map_cons] at e1
      injection e1 with e4 e5
      subst e4 e5
      injection e2 with e6 e7
      rw [List.length_map] at e6
      subst e6 e7
      have hNh := HEAVY.out N (h0.subset (List.mem_cons_self ..))
      have hsuf0 : rest <:+ ps := suffix_tail h0
      have hNs : N.size ≤ 4000 := by
        obtain ⟨⟨a, x, O, e⟩, kk⟩ := hR.way
        have := kk.size; have := S1'.out; omega
      obtain ⟨⟨aN, xN, ON, eN⟩, -⟩ := hR.way
      obtain ⟨y, l, r, eN2⟩ : ∃ y l r, N = .n aN y l r := ⟨xN, _, _, eN⟩
      clear eN
      subst eN2
      clear ON xN
      have hpn : (AT.n aN y l r).ptr = some aN := rfl
      rw [hpn]
      have hD : W6.heap.size ≤ u0.heap.size := hJ.kj.size
      have hsuf := suffix_tail (x := (AT.n aN y l r).ptr) (r := rest.map AT.ptr) h2
      obtain ⟨m, hm⟩ : ∃ m, rest.length = m := ⟨_, rfl⟩
      rw [hm]
      have zz := z1.out
      have nk : NK W6 u0 := hJ.nk0 ⟨_, XT.out⟩ rfl
      have SH : Stand Nd u0 H := (HH1.out.after hN'.out B16.out).kept hN'.out nk
      have SN0 : Hid (Stand Nd u0 (.n aN y l r)) := (Way.stand hN'.out SH hR.way).2 _ (List.mem_cons_self ..)
      have hTs := hR.small S1'.out S2'.out
      obtain ⟨aT, xT, O, I, eT, haT⟩ := hR.root
      subst eT
      obtain ⟨q, hq, cq⟩ := cQ.out aN y l r aT xT O I hNs hTs
      have hmx : Try.prog.follows .mixedOrders = true := by kernel_rfl
      have ks : u0.cell? ⟨g0, 0, none⟩ = some (.int .i64 s) := (show Boxed u0 g0 54 (.int .i64 s) from hJ.kj.has (Has.next (show Has _ _ _ _ from S1.out) B16.out) (by omega) (by omega) (by omega)).cell
      have kq : u0.cell? ⟨gQ, 0, none⟩ = some (.map (some gM)) := (show Boxed u0 gQ 79 (.map (some gM)) from hJ.kj.has (Has.next (show Has _ _ _ _ from SQ.out) B16.out) (by omega) (by omega) (by omega)).cell
      have km : u0.heap[gM]? = some (.map (turnsM (.int .i64 s) 3) 3) := (hJ.kj.keep gM (by omega) (by omega) (by omega)).trans ((B16.out.block gM (Array.getElem?_eq_some_iff.1 sm.out).1).trans sm.out)
      have kt := hJ.tbox.cell
      rw [AT.mk_ptr] at kt
      have ft := hJ.tbox.frozen
      have TB := Lib.hid hJ.tbox
      have ST0 := Lib.hid hJ.tree
      have JJ0 := Lib.hid hJ
      have D0 := Lib.hid hD
      have KO0 := Lib.hid (KeepsOthers.refl u0)
      have KJ0 := Lib.hid (Kj.refl gT gT W6.heap.size u0)
      have HR := Lib.hid hR
      have E3 := Lib.hid e3
      have HSUF := Lib.hid hsuf
      have HSUF0 := Lib.hid hsuf0
      have HNM := Lib.hid hm
      have HNH := Lib.hid hNh
      have FRESH : Hid (∀ (W : World) (a : Addr), W6.heap.size ≤ W.heap.size → W.heap.size ≤ a.block → a ∉ base) := fun W a h1 h2 h => by have e1 := OB.out _ h; have e2 := B1.out.size; have e3 := B16.out.size; omega
      clear h1 h2 h0 hR hJ hpx e3 hsuf hsuf0 nk SH hm hpn hD zz hNh hNs hTs haT
      rcases hq with ⟨rfl, hk⟩ | ⟨rfl, hno, hmid⟩ | ⟨rfl, hno, ⟨aM, xM, P, Q, rfl⟩, hmid⟩
      · have HK := Lib.hid hk
        rw [← wt_mk d aT xT] at HK
        have cq : ∀ W, Stand Nd W (.n aN y l r) → Stand Nd W (AT.mk d aT xT O I) → Calls Try.prog 53 #[.int .i64 s, .pointer (some aN), .pointer (some aT)] W fun e w' => e = .returned (.int .i64 0) ∧ Below W.heap.size W w' := cq
        have cq := Lib.hid cq
        clear hk
        gi_wp2
        refine wpIn_round_heldTo (m := 9) (S := fun W => W.cell? ⟨gQ, 0, none⟩ = some (.map (some gM)) ∧ W.cell? ⟨g0, 0, none⟩ = some (.int .i64 s) ∧ W.cell? ⟨gT, 0, none⟩ = some (.pointer (some aT)) ∧ W.heap[gM]? = some (.map (turnsM (.int .i64 s) 3) 3) ∧ Below u0.heap.size u0 W) hmx (by kernel_rfl) ⟨kq, ks, kt, km, (Below.refl _ u0).drew⟩ (fun hS => ?_)
        refine HeldTo.take (i := 0) (oi := ?dqr1q0) (v := ?dvr1q0) ?hir1q0 (by kernel_rfl) (by kernel_rfl) (by kernel_rfl) (by kernel_rfl) ?hQr1q0 (Or.inl ⟨?hwr1q0, ?hyr1q0⟩) hS ?hrr1q0
        case hir1q0 => simp only [List.getElem?_toArray, List.getElem?_cons_zero]; rfl
        case hQr1q0 => exact fun _ _ _ h => h
        case hwr1q0 => rfl
        case hyr1q0 => (intro w hSw; (try dsimp only at hSw); go_simp; (try with_reducible rfl))
        simp only [Act.put, List.setIfInBounds_toArray, List.set_cons_zero, List.set_cons_succ]
        refine HeldTo.take (i := 1) (oi := ?dqr1q1) (v := ?dvr1q1) ?hir1q1 (by kernel_rfl) (by kernel_rfl) (by kernel_rfl) (by kernel_rfl) ?hQr1q1 (Or.inl ⟨?hwr1q1, ?hyr1q1⟩) hS ?hrr1q1
        case hir1q1 => simp only [List.getElem?_toArray, List.getElem?_cons_succ, List.getElem?_cons_zero]; rfl
        case hQr1q1 => exact fun _ _ _ h => h
        case hwr1q1 => rfl
        case hyr1q1 => (intro w hSw; (try dsimp only at hSw); go_simp; (try with_reducible rfl))
        simp only [Act.put, List.setIfInBounds_toArray, List.set_cons_zero, List.set_cons_succ]
        refine HeldTo.take (i := 2) (oi := ?dqr1q2) (v := ?dvr1q2) ?hir1q2 (by kernel_rfl) (by kernel_rfl) (by kernel_rfl) (by kernel_rfl) ?hQr1q2 (Or.inl ⟨?hwr1q2, ?hyr1q2⟩) hS ?hrr1q2
        case hir1q2 => simp only [List.getElem?_toArray, List.getElem?_cons_succ, List.getElem?_cons_zero]; rfl
        case hQr1q2 => exact fun _ _ _ h => h
        case hwr1q2 => rfl
        case hyr1q2 => (intro w hSw; (try dsimp only at hSw); go_simp; (try with_reducible rfl))
        simp only [Act.put, List.setIfInBounds_toArray, List.set_cons_zero, List.set_cons_succ]
        refine HeldTo.take (i := 3) (oi := ?dqr1q3) (v := ?dvr1q3) ?hir1q3 (by kernel_rfl) (by kernel_rfl) (by kernel_rfl) (by kernel_rfl) ?hQr1q3 (Or.inl ⟨?hwr1q3, ?hyr1q3⟩) hS ?hrr1q3
        case hir1q3 => simp only [List.getElem?_toArray, List.getElem?_cons_succ, List.getElem?_cons_zero]; rfl
        case hQr1q3 => exact fun _ _ _ h => h
        case hwr1q3 => rfl
        case hyr1q3 => (intro w hSw; (try dsimp only at hSw); go_simp; (try with_reducible rfl))
        simp only [Act.put, List.setIfInBounds_toArray, List.set_cons_zero, List.set_cons_succ]
        refine HeldTo.take (i := 6) (oi := ?dqr1q6) (v := ?dvr1q6) ?hir1q6 (by kernel_rfl) (by kernel_rfl) (by kernel_rfl) (by kernel_rfl) ?hQr1q6 (Or.inl ⟨?hwr1q6, ?hyr1q6⟩) hS ?hrr1q6
        case hir1q6 => simp only [List.getElem?_toArray, List.getElem?_cons_succ, List.getElem?_cons_zero]; rfl
        case hQr1q6 => exact fun _ _ _ h => h
        case hwr1q6 => rfl
        case hyr1q6 => (intro w hSw; (try dsimp only at hSw); go_simp; (try with_reducible rfl))
        simp only [Act.put, List.setIfInBounds_toArray, List.set_cons_zero, List.set_cons_succ]
        refine HeldTo.take (i := 7) (oi := ?dqr1q7) (v := ?dvr1q7) ?hir1q7 (by kernel_rfl) (by kernel_rfl) (by kernel_rfl) (by kernel_rfl) ?hQr1q7 (Or.inl ⟨?hwr1q7, ?hyr1q7⟩) hS ?hrr1q7
        case hir1q7 => simp only [List.getElem?_toArray, List.getElem?_cons_succ, List.getElem?_cons_zero]; rfl
        case hQr1q7 => exact fun _ _ _ h => h
        case hwr1q7 => rfl
        case hyr1q7 => (intro w hSw; (try dsimp only at hSw); go_simp; (try with_reducible rfl))
        simp only [Act.put, List.setIfInBounds_toArray, List.set_cons_zero, List.set_cons_succ]
        refine HeldTo.one (i := 4) (o := ?dqr1q4) (by kernel_rfl) ?hir1q4 (fun Kq hKq => ?_)
        case hir1q4 => simp only [List.getElem?_toArray, List.getElem?_cons_succ, List.getElem?_cons_zero]; rfl
        go_simp
        have cc := cq.out _ (SN0.out.after hN'.out hS.2.2.2.2) (ST0.out.after hN'.out hS.2.2.2.2)
        refine cc.mono ?_
        clear cc
        rintro e v1 ⟨rfl, hb1⟩
        have hS2 := (And.intro (keep_cell hb1 hS.1) (And.intro (keep_cell hb1 hS.2.1) (And.intro (keep_cell hb1 hS.2.2.1) (And.intro ((hb1.block gM (Array.getElem?_eq_some_iff.1 hS.2.2.2.1).1).trans hS.2.2.2.1) (Below.after hS.2.2.2.2 hb1)))))
        clear hS
        refine hKq.out _ _ hS2 (fun hS => ?_)
        clear hS2 hKq Kq
        try simp only [Act.put, List.setIfInBounds_toArray, List.set_cons_zero, List.set_cons_succ]
        refine HeldTo.take (i := 5) (oi := ?dqr1q5) (v := ?dvr1q5) ?hir1q5 (by kernel_rfl) (by kernel_rfl) (by kernel_rfl) (by kernel_rfl) ?hQr1q5 (Or.inl ⟨?hwr1q5, ?hyr1q5⟩) hS ?hrr1q5
        case hir1q5 => simp only [List.getElem?_toArray, List.getElem?_cons_succ, List.getElem?_cons_zero]; rfl
        case hQr1q5 => exact fun _ _ _ h => h
        case hwr1q5 => rfl
        case hyr1q5 => (intro w hSw; (try dsimp only at hSw); have hlk := look0 hSw.2.2.2.1; go_simp; (try with_reducible rfl))
        simp only [Act.put, List.setIfInBounds_toArray, List.set_cons_zero, List.set_cons_succ]
        refine HeldTo.one (i := 8) (o := ?dqr1q8) (by kernel_rfl) ?hir1q8 (fun Kq hKq => ?_)
        case hir1q8 => simp only [List.getElem?_toArray, List.getElem?_cons_succ, List.getElem?_cons_zero]; rfl
        go_simp
        have cc := c0.out _ aN y l r _ (SN0.out.after hN'.out hS.2.2.2.2) (ST0.out.after hN'.out hS.2.2.2.2)
        rw [AT.mk_ptr] at cc
        have Z3 := Lib.hid hS.2.2.2.2.size
        refine cc.mono ?_
        clear cc
        rintro e u1 ⟨a, x, rfl, hx, hg, hs, ha, hb3⟩
        have HX := Lib.hid hx
        have HG := Lib.hid hg
        have HXS := Lib.hid hs
        have HA := Lib.hid (FRESH.out _ a (Nat.le_trans D0.out Z3.out) ha)
        clear hx hg hs ha
        have hS2 := (And.intro (keep_cell hb3 hS.1) (And.intro (keep_cell hb3 hS.2.1) (And.intro (keep_cell hb3 hS.2.2.1) (And.intro ((hb3.block gM (Array.getElem?_eq_some_iff.1 hS.2.2.2.1).1).trans hS.2.2.2.1) (Below.after hS.2.2.2.2 hb3)))))
        clear hS
        refine hKq.out _ _ hS2 (fun hS => ?_)
        clear hS2 hKq Kq
        try simp only [Act.put, List.setIfInBounds_toArray, List.set_cons_zero, List.set_cons_succ]
        refine HeldTo.last (o := ?dqr1q9) (by kernel_rfl) ?hir1q9 (fun Kq hKq => ?_)
        case hir1q9 => simp only [List.getElem?_toArray, List.getElem?_cons_succ, List.getElem?_cons_zero]; rfl
        have BB := Lib.hid hS.2.2.2.2
        have JJ1 := Lib.hid (JJ0.out.later hN'.out hS.2.2.2.2 D0.out)
        have KO1 := Lib.hid (KO0.out.trans (Ret.keeps_below hS.2.2.2.2))
        have KJ1 := Lib.hid (KJ0.out.trans (.of_below hS.2.2.2.2 D0.out))
        have D1 := Lib.hid (Nat.le_trans D0.out hS.2.2.2.2.size)
        have J9 := Lib.hid (JJ1.out.put hN'.out D1.out HXS.out)
        rw [AT.mk_ptr] at J9
        have KJ9 : Hid (Kj gT gT W6.heap.size u1 (u1.setCell ⟨gT, 0, none⟩ (.pointer (some a)))) := Kj.grown (grownBy_setCell' u1 gT _) D1.out (fun r e => by cases e; exact .inr (.inl rfl))
        have t9 := hS.2.2.1
        have f9 := JJ1.out.tbox.frozen
        clear hS hb1 hb3
        go_simp
        refine hKq.out _ _ ?_
        clear hKq Kq
        refine HeldTo.done (by kernel_rfl) ?_ _
        dsimp only [OnlyNormal]
        gi_wp2
        refine ⟨(KO1.out.trans (KeepsOthers.setCell _ _ _)).from _, KJ1.out.trans KJ9.out, rest, .n aN y l r, _, by rw [← HNM.out]; exact E3.out, HSUF.out, HSUF0.out, ?_, J9.out⟩
        rw [List.length_append, List.length_singleton]
        exact Rep19.with_ MH.out S1'.out S2'.out HR.out HK.out HX.out HG.out HA.out OH.out
      · have HNO := Lib.hid hno
        rw [← wt_mk d aT xT] at HNO
        have HMID := Lib.hid hmid
        have cq : ∀ W, Stand Nd W (.n aN y l r) → Stand Nd W (AT.mk d aT xT O I) → Calls Try.prog 53 #[.int .i64 s, .pointer (some aN), .pointer (some aT)] W fun e w' => e = .returned (.int .i64 1) ∧ Below W.heap.size W w' := cq
        have cq := Lib.hid cq
        clear hno hmid
        gi_wp2
        refine wpIn_round_heldTo (m := 9) (S := fun W => W.cell? ⟨gQ, 0, none⟩ = some (.map (some gM)) ∧ W.cell? ⟨g0, 0, none⟩ = some (.int .i64 s) ∧ W.cell? ⟨gT, 0, none⟩ = some (.pointer (some aT)) ∧ W.heap[gM]? = some (.map (turnsM (.int .i64 s) 3) 3) ∧ Below u0.heap.size u0 W) hmx (by kernel_rfl) ⟨kq, ks, kt, km, (Below.refl _ u0).drew⟩ (fun hS => ?_)
        refine HeldTo.take (i := 0) (oi := ?dqr2q0) (v := ?dvr2q0) ?hir2q0 (by kernel_rfl) (by kernel_rfl) (by kernel_rfl) (by kernel_rfl) ?hQr2q0 (Or.inl ⟨?hwr2q0, ?hyr2q0⟩) hS ?hrr2q0
        case hir2q0 => simp only [List.getElem?_toArray, List.getElem?_cons_zero]; rfl
        case hQr2q0 => exact fun _ _ _ h => h
        case hwr2q0 => rfl
        case hyr2q0 => (intro w hSw; (try dsimp only at hSw); go_simp; (try with_reducible rfl))
        simp only [Act.put, List.setIfInBounds_toArray, List.set_cons_zero, List.set_cons_succ]
        refine HeldTo.take (i := 1) (oi := ?dqr2q1) (v := ?dvr2q1) ?hir2q1 (by kernel_rfl) (by kernel_rfl) (by kernel_rfl) (by kernel_rfl) ?hQr2q1 (Or.inl ⟨?hwr2q1, ?hyr2q1⟩) hS ?hrr2q1
        case hir2q1 => simp only [List.getElem?_toArray, List.getElem?_cons_succ, List.getElem?_cons_zero]; rfl
        case hQr2q1 => exact fun _ _ _ h => h
        case hwr2q1 => rfl
        case hyr2q1 => (intro w hSw; (try dsimp only at hSw); go_simp; (try with_reducible rfl))
        simp only [Act.put, List.setIfInBounds_toArray, List.set_cons_zero, List.set_cons_succ]
        refine HeldTo.take (i := 2) (oi := ?dqr2q2) (v := ?dvr2q2) ?hir2q2 (by kernel_rfl) (by kernel_rfl) (by kernel_rfl) (by kernel_rfl) ?hQr2q2 (Or.inl ⟨?hwr2q2, ?hyr2q2⟩) hS ?hrr2q2
        case hir2q2 => simp only [List.getElem?_toArray, List.getElem?_cons_succ, List.getElem?_cons_zero]; rfl
        case hQr2q2 => exact fun _ _ _ h => h
        case hwr2q2 => rfl
        case hyr2q2 => (intro w hSw; (try dsimp only at hSw); go_simp; (try with_reducible rfl))
        simp only [Act.put, List.setIfInBounds_toArray, List.set_cons_zero, List.set_cons_succ]
        refine HeldTo.take (i := 3) (oi := ?dqr2q3) (v := ?dvr2q3) ?hir2q3 (by kernel_rfl) (by kernel_rfl) (by kernel_rfl) (by kernel_rfl) ?hQr2q3 (Or.inl ⟨?hwr2q3, ?hyr2q3⟩) hS ?hrr2q3
        case hir2q3 => simp only [List.getElem?_toArray, List.getElem?_cons_succ, List.getElem?_cons_zero]; rfl
        case hQr2q3 => exact fun _ _ _ h => h
        case hwr2q3 => rfl
        case hyr2q3 => (intro w hSw; (try dsimp only at hSw); go_simp; (try with_reducible rfl))
        simp only [Act.put, List.setIfInBounds_toArray, List.set_cons_zero, List.set_cons_succ]
        refine HeldTo.take (i := 6) (oi := ?dqr2q6) (v := ?dvr2q6) ?hir2q6 (by kernel_rfl) (by kernel_rfl) (by kernel_rfl) (by kernel_rfl) ?hQr2q6 (Or.inl ⟨?hwr2q6, ?hyr2q6⟩) hS ?hrr2q6
        case hir2q6 => simp only [List.getElem?_toArray, List.getElem?_cons_succ, List.getElem?_cons_zero]; rfl
        case hQr2q6 => exact fun _ _ _ h => h
        case hwr2q6 => rfl
        case hyr2q6 => (intro w hSw; (try dsimp only at hSw); go_simp; (try with_reducible rfl))
        simp only [Act.put, List.setIfInBounds_toArray, List.set_cons_zero, List.set_cons_succ]
        refine HeldTo.take (i := 7) (oi := ?dqr2q7) (v := ?dvr2q7) ?hir2q7 (by kernel_rfl) (by kernel_rfl) (by kernel_rfl) (by kernel_rfl) ?hQr2q7 (Or.inl ⟨?hwr2q7, ?hyr2q7⟩) hS ?hrr2q7
        case hir2q7 => simp only [List.getElem?_toArray, List.getElem?_cons_succ, List.getElem?_cons_zero]; rfl
        case hQr2q7 => exact fun _ _ _ h => h
        case hwr2q7 => rfl
        case hyr2q7 => (intro w hSw; (try dsimp only at hSw); go_simp; (try with_reducible rfl))
        simp only [Act.put, List.setIfInBounds_toArray, List.set_cons_zero, List.set_cons_succ]
        refine HeldTo.one (i := 4) (o := ?dqr2q4) (by kernel_rfl) ?hir2q4 (fun Kq hKq => ?_)
        case hir2q4 => simp only [List.getElem?_toArray, List.getElem?_cons_succ, List.getElem?_cons_zero]; rfl
        go_simp
        have cc := cq.out _ (SN0.out.after hN'.out hS.2.2.2.2) (ST0.out.after hN'.out hS.2.2.2.2)
        refine cc.mono ?_
        clear cc
        rintro e v1 ⟨rfl, hb1⟩
        have hS2 := (And.intro (keep_cell hb1 hS.1) (And.intro (keep_cell hb1 hS.2.1) (And.intro (keep_cell hb1 hS.2.2.1) (And.intro ((hb1.block gM (Array.getElem?_eq_some_iff.1 hS.2.2.2.1).1).trans hS.2.2.2.1) (Below.after hS.2.2.2.2 hb1)))))
        clear hS
        refine hKq.out _ _ hS2 (fun hS => ?_)
        clear hS2 hKq Kq
        try simp only [Act.put, List.setIfInBounds_toArray, List.set_cons_zero, List.set_cons_succ]
        refine HeldTo.take (i := 5) (oi := ?dqr2q5) (v := ?dvr2q5) ?hir2q5 (by kernel_rfl) (by kernel_rfl) (by kernel_rfl) (by kernel_rfl) ?hQr2q5 (Or.inl ⟨?hwr2q5, ?hyr2q5⟩) hS ?hrr2q5
        case hir2q5 => simp only [List.getElem?_toArray, List.getElem?_cons_succ, List.getElem?_cons_zero]; rfl
        case hQr2q5 => exact fun _ _ _ h => h
        case hwr2q5 => rfl
        case hyr2q5 => (intro w hSw; (try dsimp only at hSw); have hlk := look1 hSw.2.2.2.1; go_simp; (try with_reducible rfl))
        simp only [Act.put, List.setIfInBounds_toArray, List.set_cons_zero, List.set_cons_succ]
        refine HeldTo.one (i := 8) (o := ?dqr2q8) (by kernel_rfl) ?hir2q8 (fun Kq hKq => ?_)
        case hir2q8 => simp only [List.getElem?_toArray, List.getElem?_cons_succ, List.getElem?_cons_zero]; rfl
        go_simp
        have cc := c1.out _ aN y l r aT xT O I (SN0.out.after hN'.out hS.2.2.2.2) (ST0.out.after hN'.out hS.2.2.2.2)
        have Z3 := Lib.hid hS.2.2.2.2.size
        refine cc.mono ?_
        clear cc
        rintro e u1 ⟨a, x, b, z, rfl, hx, hg, hz, hs, ha, hb, hb3⟩
        have HX := Lib.hid hx
        have HG := Lib.hid hg
        have HZ := Lib.hid hz
        have HXS := Lib.hid hs
        have HA := Lib.hid (FRESH.out _ a (Nat.le_trans D0.out Z3.out) ha)
        have HB := Lib.hid (FRESH.out _ b (Nat.le_trans D0.out Z3.out) hb)
        clear hx hg hz hs ha hb
        have hS2 := (And.intro (keep_cell hb3 hS.1) (And.intro (keep_cell hb3 hS.2.1) (And.intro (keep_cell hb3 hS.2.2.1) (And.intro ((hb3.block gM (Array.getElem?_eq_some_iff.1 hS.2.2.2.1).1).trans hS.2.2.2.1) (Below.after hS.2.2.2.2 hb3)))))
        clear hS
        refine hKq.out _ _ hS2 (fun hS => ?_)
        clear hS2 hKq Kq
        try simp only [Act.put, List.setIfInBounds_toArray, List.set_cons_zero, List.set_cons_succ]
        refine HeldTo.last (o := ?dqr2q9) (by kernel_rfl) ?hir2q9 (fun Kq hKq => ?_)
        case hir2q9 => simp only [List.getElem?_toArray, List.getElem?_cons_succ, List.getElem?_cons_zero]; rfl
        have BB := Lib.hid hS.2.2.2.2
        have JJ1 := Lib.hid (JJ0.out.later hN'.out hS.2.2.2.2 D0.out)
        have KO1 := Lib.hid (KO0.out.trans (Ret.keeps_below hS.2.2.2.2))
        have KJ1 := Lib.hid (KJ0.out.trans (.of_below hS.2.2.2.2 D0.out))
        have D1 := Lib.hid (Nat.le_trans D0.out hS.2.2.2.2.size)
        have J9 := Lib.hid (JJ1.out.put hN'.out D1.out HXS.out)
        rw [AT.mk_ptr] at J9
        have KJ9 : Hid (Kj gT gT W6.heap.size u1 (u1.setCell ⟨gT, 0, none⟩ (.pointer (some b)))) := Kj.grown (grownBy_setCell' u1 gT _) D1.out (fun r e => by cases e; exact .inr (.inl rfl))
        have t9 := hS.2.2.1
        have f9 := JJ1.out.tbox.frozen
        clear hS hb1 hb3
        go_simp
        refine hKq.out _ _ ?_
        clear hKq Kq
        refine HeldTo.done (by kernel_rfl) ?_ _
        dsimp only [OnlyNormal]
        gi_wp2
        refine ⟨(KO1.out.trans (KeepsOthers.setCell _ _ _)).from _, KJ1.out.trans KJ9.out, rest, .n aN y l r, _, by rw [← HNM.out]; exact E3.out, HSUF.out, HSUF0.out, ?_, J9.out⟩
        rw [List.length_append, List.length_singleton]
        exact Rep19.once MH.out S1'.out S2'.out HNH.out HR.out HNO.out HMID.out HX.out HG.out HZ.out ⟨HA.out, HB.out⟩ OH.out
      · have HNO := Lib.hid hno
        rw [← wt_mk d aT xT] at HNO
        have HMID := Lib.hid hmid
        have cq : ∀ W, Stand Nd W (.n aN y l r) → Stand Nd W (AT.mk d aT xT (AT.mk d aM xM P Q) I) → Calls Try.prog 53 #[.int .i64 s, .pointer (some aN), .pointer (some aT)] W fun e w' => e = .returned (.int .i64 2) ∧ Below W.heap.size W w' := cq
        have cq := Lib.hid cq
        clear hno hmid
        gi_wp2
        refine wpIn_round_heldTo (m := 9) (S := fun W => W.cell? ⟨gQ, 0, none⟩ = some (.map (some gM)) ∧ W.cell? ⟨g0, 0, none⟩ = some (.int .i64 s) ∧ W.cell? ⟨gT, 0, none⟩ = some (.pointer (some aT)) ∧ W.heap[gM]? = some (.map (turnsM (.int .i64 s) 3) 3) ∧ Below u0.heap.size u0 W) hmx (by kernel_rfl) ⟨kq, ks, kt, km, (Below.refl _ u0).drew⟩ (fun hS => ?_)
        refine HeldTo.take (i := 0) (oi := ?dqr3q0) (v := ?dvr3q0) ?hir3q0 (by kernel_rfl) (by kernel_rfl) (by kernel_rfl) (by kernel_rfl) ?hQr3q0 (Or.inl ⟨?hwr3q0, ?hyr3q0⟩) hS ?hrr3q0
        case hir3q0 => simp only [List.getElem?_toArray, List.getElem?_cons_zero]; rfl
        case hQr3q0 => exact fun _ _ _ h => h
        case hwr3q0 => rfl
        case hyr3q0 => (intro w hSw; (try dsimp only at hSw); go_simp; (try with_reducible rfl))
        simp only [Act.put, List.setIfInBounds_toArray, List.set_cons_zero, List.set_cons_succ]
        refine HeldTo.take (i := 1) (oi := ?dqr3q1) (v := ?dvr3q1) ?hir3q1 (by kernel_rfl) (by kernel_rfl) (by kernel_rfl) (by kernel_rfl) ?hQr3q1 (Or.inl ⟨?hwr3q1, ?hyr3q1⟩) hS ?hrr3q1
        case hir3q1 => simp only [List.getElem?_toArray, List.getElem?_cons_succ, List.getElem?_cons_zero]; rfl
        case hQr3q1 => exact fun _ _ _ h => h
        case hwr3q1 => rfl
        case hyr3q1 => (intro w hSw; (try dsimp only at hSw); go_simp; (try with_reducible rfl))
        simp only [Act.put, List.setIfInBounds_toArray, List.set_cons_zero, List.set_cons_succ]
        refine HeldTo.take (i := 2) (oi := ?dqr3q2) (v := ?dvr3q2) ?hir3q2 (by kernel_rfl) (by kernel_rfl) (by kernel_rfl) (by kernel_rfl) ?hQr3q2 (Or.inl ⟨?hwr3q2, ?hyr3q2⟩) hS ?hrr3q2
        case hir3q2 => simp only [List.getElem?_toArray, List.getElem?_cons_succ, List.getElem?_cons_zero]; rfl
        case hQr3q2 => exact fun _ _ _ h => h
        case hwr3q2 => rfl
        case hyr3q2 => (intro w hSw; (try dsimp only at hSw); go_simp; (try with_reducible rfl))
        simp only [Act.put, List.setIfInBounds_toArray, List.set_cons_zero, List.set_cons_succ]
        refine HeldTo.take (i := 3) (oi := ?dqr3q3) (v := ?dvr3q3) ?hir3q3 (by kernel_rfl) (by kernel_rfl) (by kernel_rfl) (by kernel_rfl) ?hQr3q3 (Or.inl ⟨?hwr3q3, ?hyr3q3⟩) hS ?hrr3q3
        case hir3q3 => simp only [List.getElem?_toArray, List.getElem?_cons_succ, List.getElem?_cons_zero]; rfl
        case hQr3q3 => exact fun _ _ _ h => h
        case hwr3q3 => rfl
        case hyr3q3 => (intro w hSw; (try dsimp only at hSw); go_simp; (try with_reducible rfl))
        simp only [Act.put, List.setIfInBounds_toArray, List.set_cons_zero, List.set_cons_succ]
        refine HeldTo.take (i := 6) (oi := ?dqr3q6) (v := ?dvr3q6) ?hir3q6 (by kernel_rfl) (by kernel_rfl) (by kernel_rfl) (by kernel_rfl) ?hQr3q6 (Or.inl ⟨?hwr3q6, ?hyr3q6⟩) hS ?hrr3q6
        case hir3q6 => simp only [List.getElem?_toArray, List.getElem?_cons_succ, List.getElem?_cons_zero]; rfl
        case hQr3q6 => exact fun _ _ _ h => h
        case hwr3q6 => rfl
        case hyr3q6 => (intro w hSw; (try dsimp only at hSw); go_simp; (try with_reducible rfl))
        simp only [Act.put, List.setIfInBounds_toArray, List.set_cons_zero, List.set_cons_succ]
        refine HeldTo.take (i := 7) (oi := ?dqr3q7) (v := ?dvr3q7) ?hir3q7 (by kernel_rfl) (by kernel_rfl) (by kernel_rfl) (by kernel_rfl) ?hQr3q7 (Or.inl ⟨?hwr3q7, ?hyr3q7⟩) hS ?hrr3q7
        case hir3q7 => simp only [List.getElem?_toArray, List.getElem?_cons_succ, List.getElem?_cons_zero]; rfl
        case hQr3q7 => exact fun _ _ _ h => h
        case hwr3q7 => rfl
        case hyr3q7 => (intro w hSw; (try dsimp only at hSw); go_simp; (try with_reducible rfl))
        simp only [Act.put, List.setIfInBounds_toArray, List.set_cons_zero, List.set_cons_succ]
        refine HeldTo.one (i := 4) (o := ?dqr3q4) (by kernel_rfl) ?hir3q4 (fun Kq hKq => ?_)
        case hir3q4 => simp only [List.getElem?_toArray, List.getElem?_cons_succ, List.getElem?_cons_zero]; rfl
        go_simp
        have cc := cq.out _ (SN0.out.after hN'.out hS.2.2.2.2) (ST0.out.after hN'.out hS.2.2.2.2)
        refine cc.mono ?_
        clear cc
        rintro e v1 ⟨rfl, hb1⟩
        have hS2 := (And.intro (keep_cell hb1 hS.1) (And.intro (keep_cell hb1 hS.2.1) (And.intro (keep_cell hb1 hS.2.2.1) (And.intro ((hb1.block gM (Array.getElem?_eq_some_iff.1 hS.2.2.2.1).1).trans hS.2.2.2.1) (Below.after hS.2.2.2.2 hb1)))))
        clear hS
        refine hKq.out _ _ hS2 (fun hS => ?_)
        clear hS2 hKq Kq
        try simp only [Act.put, List.setIfInBounds_toArray, List.set_cons_zero, List.set_cons_succ]
        refine HeldTo.take (i := 5) (oi := ?dqr3q5) (v := ?dvr3q5) ?hir3q5 (by kernel_rfl) (by kernel_rfl) (by kernel_rfl) (by kernel_rfl) ?hQr3q5 (Or.inl ⟨?hwr3q5, ?hyr3q5⟩) hS ?hrr3q5
        case hir3q5 => simp only [List.getElem?_toArray, List.getElem?_cons_succ, List.getElem?_cons_zero]; rfl
        case hQr3q5 => exact fun _ _ _ h => h
        case hwr3q5 => rfl
        case hyr3q5 => (intro w hSw; (try dsimp only at hSw); have hlk := look2 hSw.2.2.2.1; go_simp; (try with_reducible rfl))
        simp only [Act.put, List.setIfInBounds_toArray, List.set_cons_zero, List.set_cons_succ]
        refine HeldTo.one (i := 8) (o := ?dqr3q8) (by kernel_rfl) ?hir3q8 (fun Kq hKq => ?_)
        case hir3q8 => simp only [List.getElem?_toArray, List.getElem?_cons_succ, List.getElem?_cons_zero]; rfl
        go_simp
        have cc := c2.out _ aN y l r aT xT aM xM P Q I (SN0.out.after hN'.out hS.2.2.2.2) (ST0.out.after hN'.out hS.2.2.2.2)
        have Z3 := Lib.hid hS.2.2.2.2.size
        refine cc.mono ?_
        clear cc
        rintro e u1 ⟨a, x, b, z, c9, z9, rfl, hx, hg, hz9, hz, hs, ha, hb, hc9, hb3⟩
        have HX := Lib.hid hx
        have HG := Lib.hid hg
        have HZ := Lib.hid hz
        have HZ9 := Lib.hid hz9
        have HXS := Lib.hid hs
        have HA := Lib.hid (FRESH.out _ a (Nat.le_trans D0.out Z3.out) ha)
        have HB := Lib.hid (FRESH.out _ b (Nat.le_trans D0.out Z3.out) hb)
        have HC9 := Lib.hid (FRESH.out _ c9 (Nat.le_trans D0.out Z3.out) hc9)
        clear hx hg hz hz9 hs ha hb hc9
        have hS2 := (And.intro (keep_cell hb3 hS.1) (And.intro (keep_cell hb3 hS.2.1) (And.intro (keep_cell hb3 hS.2.2.1) (And.intro ((hb3.block gM (Array.getElem?_eq_some_iff.1 hS.2.2.2.1).1).trans hS.2.2.2.1) (Below.after hS.2.2.2.2 hb3)))))
        clear hS
        refine hKq.out _ _ hS2 (fun hS => ?_)
        clear hS2 hKq Kq
        try simp only [Act.put, List.setIfInBounds_toArray, List.set_cons_zero, List.set_cons_succ]
        refine HeldTo.last (o := ?dqr3q9) (by kernel_rfl) ?hir3q9 (fun Kq hKq => ?_)
        case hir3q9 => simp only [List.getElem?_toArray, List.getElem?_cons_succ, List.getElem?_cons_zero]; rfl
        have BB := Lib.hid hS.2.2.2.2
        have JJ1 := Lib.hid (JJ0.out.later hN'.out hS.2.2.2.2 D0.out)
        have KO1 := Lib.hid (KO0.out.trans (Ret.keeps_below hS.2.2.2.2))
        have KJ1 := Lib.hid (KJ0.out.trans (.of_below hS.2.2.2.2 D0.out))
        have D1 := Lib.hid (Nat.le_trans D0.out hS.2.2.2.2.size)
        have J9 := Lib.hid (JJ1.out.put hN'.out D1.out HXS.out)
        rw [AT.mk_ptr] at J9
        have KJ9 : Hid (Kj gT gT W6.heap.size u1 (u1.setCell ⟨gT, 0, none⟩ (.pointer (some b)))) := Kj.grown (grownBy_setCell' u1 gT _) D1.out (fun r e => by cases e; exact .inr (.inl rfl))
        have t9 := hS.2.2.1
        have f9 := JJ1.out.tbox.frozen
        clear hS hb1 hb3
        go_simp
        refine hKq.out _ _ ?_
        clear hKq Kq
        refine HeldTo.done (by kernel_rfl) ?_ _
        dsimp only [OnlyNormal]
        gi_wp2
        refine ⟨(KO1.out.trans (KeepsOthers.setCell _ _ _)).from _, KJ1.out.trans KJ9.out, rest, .n aN y l r, _, by rw [← HNM.out]; exact E3.out, HSUF.out, HSUF0.out, ?_, J9.out⟩
        rw [List.length_append, List.length_singleton]
        exact Rep19.twice MH.out S1'.out S2'.out HNH.out HR.out HNO.out HMID.out HX.out HG.out HZ9.out HZ.out ⟨HA.out, HB.out, HC9.out⟩ OH.out
  case done =>
    rintro D1 U hD1 hI hK
    obtain ⟨M, T, hR, hJ⟩ := hI.done
    rw [HN.out] at hR
    have v0 := hJ.tbox.cell
    have bU : Hid (Below w.heap.size w U) := (Below.after B1.out B16.out).trans (hJ.kj.below (by have := B1.out.size; have := z1.out; omega) (by have := B1.out.size; have := z1.out; omega) (by have := B1.out.size; have := B16.out.size; omega))
    have JN := Lib.hid (hR.done FAR.out)
    have HK1 := Lib.hid hK
    have b1 : Below w.heap.size U (U.putObj D1 (.deferred none)) := belowK_b (w := w) (Nat.le_refl _) U D1 _ _ (by have := B1.out.size; have := B16.out.size; omega) hK rfl rfl
    have BF := Lib.hid (bU.out.trans b1)
    have nk1 : NK U (U.putObj D1 (.deferred none)) := .of_grown (grownBy_putObj' U D1 _) (fun r e cs hc => by cases e; rw [hK] at hc; cases hc)
    have SF := Lib.hid (hJ.tree.kept hN'.out nk1)
    obtain ⟨pJ, hpJ⟩ : ∃ p, T.ptr = p := ⟨_, rfl⟩
    have HPJ := Lib.hid hpJ
    rw [hpJ] at v0
    clear hI hR hJ hK hD1 b1 nk1 hpJ
    go_wp2_with fail
    refine ⟨by simp, .inl ⟨_, _, rfl, run_takeDeferred HK1.out, ?_⟩⟩
    exact ⟨_, results_tmp rfl _ _ _, T, by rw [HPJ.out]; rfl, SF.out, JN.out, BF.out⟩
end Go.Proofs.Ytfbmpgffekhmhaa
/- Package wbjoin, as landed: Join; what the package answers. -/
namespace Go.Proofs.Ytfbmpgffekhmhaa
open Go.RowKit Go.Shelf Go.Proofs.Treem Go.Proofs.Cardm
set_option maxRecDepth 100000
variable {Nd : NdP}

theorem rank_le {a b : Nat} (h : a ≤ b) : rankN a ≤ rankN b := by
  have := log_up (a := a + 1) (b := b + 1) (m := 0) (by omega) (by omega)
  unfold rankN; omega
set_option maxHeartbeats 4000000 in
theorem join19_any (hN : NodeSays Nd) (hV : WbSays Nd) (w : World) (L R : AT) (k v : BitVec 64) (hL : Stand Nd w L) (hR : Stand Nd w R) (eL : mayW L.tr = true) (eR : mayW R.tr = true) (h1 : L.tr.size ≤ 1000) (h2 : R.tr.size ≤ 1000) : Calls Try.prog 11 #[.pointer L.ptr, K k, K v, .pointer R.ptr] w (Joined19 Nd L R k v w) := by
  rw [AT.size_tr] at h1 h2
  have c1 := Lib.hid (weight19 hV w L hL (by omega))
  have c2 := Lib.hid (fun W (hb : Below w.heap.size w W) => weight19 hV W R (hR.after hN hb) (by omega))
  have oL : ∀ a ∈ L.addrs, a ∈ addrsOf [L, R] := fun a h => of_two.2 (.inl h)
  have oR : ∀ a ∈ R.addrs, a ∈ addrsOf [L, R] := fun a h => of_two.2 (.inr h)
  have oB : ∀ a ∈ addrsOf [L, R], a.block < w.heap.size := fun a h => by
    rcases of_two.1 h with h | h
    · exact hL.lies.lt hN a h
    · exact hR.lies.lt hN a h
  obtain ⟨Z, hZ⟩ : ∃ Z, Joined19 Nd L R k v w = Z := ⟨_, rfl⟩
  obtain ⟨P, hP⟩ : ∃ P, wt L = P := ⟨_, rfl⟩
  obtain ⟨Q, hQ⟩ : ∃ Q, wt R = Q := ⟨_, rfl⟩
  obtain ⟨pl, hpl⟩ : ∃ p, L.ptr = p := ⟨_, rfl⟩
  obtain ⟨pr, hpr⟩ : ∃ p, R.ptr = p := ⟨_, rfl⟩
  rcases Nat.lt_or_ge P Q with hPQ | hPQ
  · have cJ : Hid (∀ W, Below w.heap.size w W → Calls Try.prog 29 #[.int .i64 1, .pointer R.ptr, K k, K v, .pointer L.ptr] W fun e w' => ∃ J : AT, e = .returned (.pointer J.ptr) ∧ Stand Nd w' J ∧ Join19 false R L k v (addrsOf [L, R]) J ∧ Below W.heap.size W w') := fun W hb =>
      joined19_any hN hV W false R L k v _ (hR.after hN hb) (hL.after hN hb) h2 h1 eR eL (by omega) oR oL (fun a ha => Nat.lt_of_lt_of_le (oB a ha) hb.size)
    have fin : Hid (∀ J W, Stand Nd W J → Join19 false R L k v (addrsOf [L, R]) J → Below w.heap.size w W → Z (.returned (.pointer J.ptr)) W) := fun J W h3 h4 h5 => by
      have p5 : J.tr.pairs = L.tr.pairs ++ (k, v) :: R.tr.pairs := by
        have h := congrArg List.reverse h4.pairs
        simpa [prD] using h
      have p6 := h4.few
      have p7 : rankN L.tr.size ≤ rankN R.tr.size := rank_le (by rw [AT.size_tr, AT.size_tr]; unfold wt at hP hQ; omega)
      exact hZ ▸ ⟨J, rfl, h3, h4.may, p5, h4.new, by unfold mostW; rw [Nat.max_eq_right p7, Nat.min_eq_left p7]; exact p6, h5⟩
    have d1 : decide ((P : Int) < (Q : Int)) = true := decide_eq_true (by omega)
    rw [hP] at c1
    rw [hQ] at c2
    rw [hpl, hpr] at cJ
    rw [hpr] at c2
    rw [hpl] at c1
    rw [hZ, hpl, hpr]
    clear hN hL hR hV hP hQ hZ h1 h2 oL oR oB hpl hpr eL eR
    go_enter Try.func11, Try.ntmps11
    go_wp2_with fail
    refine c1.out.mono ?_
    rintro e w1 ⟨rfl, hb⟩
    have B1 := Lib.hid hb
    clear hb c1
    go_wp2_with fail
    refine (c2.out w1 B1.out).mono ?_
    rintro e w2 ⟨rfl, hb⟩
    have B2 := Lib.hid (Below.after B1.out hb)
    clear hb c2
    go_wp2_with fail
    refine (cJ.out w2 B2.out).mono ?_
    rintro e w3 ⟨J, rfl, hJ, hq, hb⟩
    have f4 := Lib.hid (fin.out J w3 hJ hq (Below.after B2.out hb))
    clear hb hJ hq cJ fin
    go_wp2
    exact f4.out
  · have cJ : Hid (∀ W, Below w.heap.size w W → Calls Try.prog 29 #[.int .i64 0, .pointer L.ptr, K k, K v, .pointer R.ptr] W fun e w' => ∃ J : AT, e = .returned (.pointer J.ptr) ∧ Stand Nd w' J ∧ Join19 true L R k v (addrsOf [L, R]) J ∧ Below W.heap.size W w') := fun W hb =>
      joined19_any hN hV W true L R k v _ (hL.after hN hb) (hR.after hN hb) h1 h2 eL eR (by omega) oL oR (fun a ha => Nat.lt_of_lt_of_le (oB a ha) hb.size)
    have fin : Hid (∀ J W, Stand Nd W J → Join19 true L R k v (addrsOf [L, R]) J → Below w.heap.size w W → Z (.returned (.pointer J.ptr)) W) := fun J W h3 h4 h5 => by
      have p5 : J.tr.pairs = L.tr.pairs ++ (k, v) :: R.tr.pairs := h4.pairs
      have p6 := h4.few
      have p7 : rankN R.tr.size ≤ rankN L.tr.size := rank_le (by rw [AT.size_tr, AT.size_tr]; unfold wt at hP hQ; omega)
      exact hZ ▸ ⟨J, rfl, h3, h4.may, p5, h4.new, by unfold mostW; rw [Nat.max_eq_left p7, Nat.min_eq_right p7]; exact p6, h5⟩
    have d1 : decide ((P : Int) < (Q : Int)) = false := decide_eq_false (by omega)
    rw [hP] at c1
    rw [hQ] at c2
    rw [hpl, hpr] at cJ
    rw [hpr] at c2
    rw [hpl] at c1
    rw [hZ, hpl, hpr]
    clear hN hL hR hV hP hQ hZ h1 h2 oL oR oB hpl hpr eL eR
    go_enter Try.func11, Try.ntmps11
    go_wp2_with fail
    refine c1.out.mono ?_
    rintro e w1 ⟨rfl, hb⟩
    have B1 := Lib.hid hb
    clear hb c1
    go_wp2_with fail
    refine (c2.out w1 B1.out).mono ?_
    rintro e w2 ⟨rfl, hb⟩
    have B2 := Lib.hid (Below.after B1.out hb)
    clear hb c2
    go_wp2_with fail
    refine (cJ.out w2 B2.out).mono ?_
    rintro e w3 ⟨J, rfl, hJ, hq, hb⟩
    have f4 := Lib.hid (fin.out J w3 hJ hq (Below.after B2.out hb))
    clear hb hJ hq cJ fin
    go_wp2
    exact f4.out
/-- what package wbjoin answers -/
theorem wbj_says (hN : NodeSays Nd) (hV : WbSays Nd) : WbjSays Nd where
  join := fun w L R k v hL hR eL eR h1 h2 => join19_any hN hV w L R k v hL hR eL eR h1 h2
  most := fun w t u p q hl hr h1 h2 => most19_any hN hV w t u p q hl hr h1 h2
end Go.Proofs.Ytfbmpgffekhmhaa
/- Layer 14, as landed: what goes over a tree's nodes in the order of its beads, each at its first place, with a set of those that it has been at. -/
namespace Go.Proofs.Ytfbmpgffekhmhaa
open Go.RowKit Go.Shelf Go.Proofs.Treem
attribute [local go_sem] Oper.semAt_some
set_option maxRecDepth 100000
variable {Nd : NdP}

/-- what is handed over: a place, a tree, and where its root lies -/
abbrev It14 := Nat × Tr × Addr
def enc14 (x : It14) : Array Value := #[nI x.1, .pointer (some x.2.2)]
def mine14 (t : TypeId) : Bool := t == 25
abbrev none14 (_ : TypeId) : Bool := false
def load14 (us : List (Tr × Option Addr)) : Nat := (us.map fun u => 2 * u.1.size + 1).sum
def ptrs14 (us : List (Tr × Option Addr)) : List Value := us.map fun u => .pointer u.2
def trees14 (us : List (Tr × Option Addr)) : List Tr := us.map fun u => u.1
def size14 (us : List (Tr × Option Addr)) : Nat := (us.map fun u => u.1.size).sum
theorem load14_len : ∀ us : List (Tr × Option Addr), us.length ≤ load14 us
  | [] => Nat.le_refl _
  | u :: us => by have := load14_len us; simp only [load14, List.map_cons, List.sum_cons, List.length_cons] at this ⊢; omega
theorem load14_cons (u : Tr × Option Addr) (us : List (Tr × Option Addr)) : load14 (u :: us) = 2 * u.1.size + 1 + load14 us := rfl
theorem size14_cons (t : Tr) (q : Option Addr) (us : List (Tr × Option Addr)) : size14 ((t, q) :: us) = t.size + size14 us := rfl
theorem trees14_cons (t : Tr) (q : Option Addr) (us : List (Tr × Option Addr)) : trees14 ((t, q) :: us) = t :: trees14 us := rfl
/-- a pointer leads to one tree -/
theorem TreeAt.uniq (hN : NodeSays Nd) {W : World} {B B' : Nat} : ∀ {t u : Tr} {p : Option Addr}, TreeAt Nd W B t p → TreeAt Nd W B' u p → t = u
  | .e, .e, _, _, _ => rfl
  | .e, .n .., _, h, ⟨_, _, _, e, _⟩ => by rw [show _ = none from h] at e; cases e
  | .n .., .e, _, ⟨_, _, _, e, _⟩, h => by rw [show _ = none from h] at e; cases e
  | .n l k v g r, .n l' k' v' g' r', p, ⟨a, pl, pr, e, h2, h3, h4⟩, ⟨a', pl', pr', e', h2', h3', h4'⟩ => by
    subst e
    cases e'
    have := hN.uniq h2 h2'
    injection this with e1 e2 e3 e4 e5 e6 e7
    subst e1 e2 e3 e4 e5
    rw [h3.uniq hN h3', h4.uniq hN h4']
/-- where the closure stands, as it lies: those at us are still to be gone by, the last one first -/
structure At14 (Nd : NdP) (w0 : World) (r B' : Nat) (J : List It14 → World → Prop) (S : List (Option Addr)) (us : List (Tr × Option Addr)) (pre : List It14) (v : Value) (w : World) : Prop where
  base : Below w0.heap.size w0 w
  been : w.heap[r]? = some (setO S)
  none : Option.none ∈ S
  good : ∀ q ∈ S, GoodP w0 q
  ow : w.ownsRow B' 25 1 v us.length (ptrs14 us.reverse)
  ls : ∀ u ∈ us, TreeAt Nd w0 w0.heap.size u.1 u.2
  j : J pre w
  ld : load14 us ≤ 10001
  sz : B' ≤ w.heap.size
  low : w0.heap.size ≤ B'
  rb : B' ≤ r
/-- .. and what it knows: as far as all that it handed over is right -/
structure Go14 (Nd : NdP) (f : Tr → Nat) (t0 : Tr) (w0 : World) (S : List (Option Addr)) (us : List (Tr × Option Addr)) (pre : List It14) (pl : Nat) : Prop where
  size : pl + size14 us = t0.size
  go : (∀ y ∈ pre, f y.2.1 = 0) → errF f t0 = errL f (trees14 us) ∧ placeF f t0 = pl + placeL f (trees14 us) ∧ ∀ q ∈ S, ∀ t, TreeAt Nd w0 w0.heap.size t q → Past f (trees14 us) t
/-- what is told of a node that is handed over -/
def Told14 (Nd : NdP) (f : Tr → Nat) (t0 : Tr) (w0 : World) (pre : List It14) (x : It14) (W : World) : Prop :=
  TreeAt Nd w0 w0.heap.size x.2.1 (some x.2.2) ∧ Below w0.heap.size w0 W ∧ x.1 + x.2.1.size ≤ 5000 ∧ ((∀ y ∈ pre, f y.2.1 = 0) → f x.2.1 ≠ 0 → errF f t0 = f x.2.1 ∧ placeF f t0 = x.1)
section
variable {f : Tr → Nat} {t0 : Tr} {w0 : World} {r B' pl : Nat} {J : List It14 → World → Prop} {S : List (Option Addr)} {us : List (Tr × Option Addr)} {pre : List It14} {v : Value} {w w' : World}
theorem At14.below (h : At14 Nd w0 r B' J S us pre v w) (hJ : Abide mine14 B' J) (hb : Below w.heap.size w w') : At14 Nd w0 r B' J S us pre v w' :=
  ⟨h.base.trans (hb.mono h.base.size), (hb.block r (Array.getElem?_eq_some_iff.1 h.been).1).trans h.been, h.none, h.good, owned_next h.ow hb, h.ls, hJ _ _ _ h.j (.of_below hb), h.ld, Nat.le_trans h.sz hb.size, h.low, h.rb⟩
theorem At14.goods (h : At14 Nd w0 r B' J S us pre v w) : ∀ q ∈ S, GoodP w q := fun q hq => (h.good q hq).below h.base
/-- the last one is taken off -/
theorem At14.pop {u : Tr × Option Addr} {A : Option Addr} {m n c : Nat} (h : At14 Nd w0 r B' J S (u :: us) pre (.slice A n c) w) (hm : us.length = m) (hn : m + 1 = n) : At14 Nd w0 r B' J S us pre (.slice A m c) w := by
  subst hm hn
  have ho := h.ow
  rw [List.reverse_cons, ptrs14, List.map_append] at ho
  have ht := owned_take ho us.length (by simp)
  rw [show us.length * 1 = (us.reverse.map fun u => Value.pointer u.2).length by simp, List.take_left] at ht
  exact ⟨h.base, h.been, h.none, h.good, ht, fun x hx => h.ls x (List.mem_cons_of_mem _ hx), h.j, by have := h.ld; rw [load14_cons] at this; omega, h.sz, h.low, h.rb⟩
/-- the last one, as it lies -/
theorem At14.top {u : Tr × Option Addr} {A : Option Addr} {n m c : Nat} (h : At14 Nd w0 r B' J S (u :: us) pre (.slice A n c) w) (hm : us.length = m) : ∃ ad, A = some ad ∧ w.cell? (ad.add m) = some (.pointer u.2) := by
  obtain ⟨A', c', e1, -, -, -⟩ := own_slice h.ow
  cases e1
  have ho := h.ow
  rw [List.reverse_cons, ptrs14, List.map_append] at ho
  obtain ⟨ad, e, _, hc⟩ := (Row.of_own ho) m (.pointer u.2) (by rw [List.getElem?_append_right (by simp [hm])]; simp [hm])
  exact ⟨ad, e, hc⟩
/-- a node is put into the set -/
theorem At14.put {p : Option Addr} (h : At14 Nd w0 r B' J S us pre v w) (hJ : Abide mine14 B' J) (hp : GoodP w0 p) : At14 Nd w0 r B' J (S ++ [p]) us pre v (w.putObj r (setO (S ++ [p]))) := by
  have hk : Kf mine14 B' w (w.putObj r (setO (S ++ [p]))) := Kf.putObj w r _ _ h.rb h.been rfl
  refine ⟨h.base.trans (hk.below.mono h.low), World.putObj_heap_same (Array.getElem?_eq_some_iff.1 h.been).1, List.mem_append_left _ h.none, fun q hq => ?_, h.ow.kept (grownBy_putObj' w r _) ?_, h.ls, hJ _ _ _ h.j (.of_kf hk), h.ld, Nat.le_trans h.sz hk.size, h.low, h.rb⟩
  · rcases List.mem_append.1 hq with hq | hq
    · exact h.good q hq
    · rw [List.mem_singleton.1 hq]; exact hp
  · by_cases hv : v.ownBlock = some r
    · exfalso
      rcases h.ow.2 with ⟨rfl, _⟩ | ⟨g, cap, cur, rfl, _, hg, _⟩
      · simp [Value.ownBlock] at hv
      · obtain rfl : g = r := by simpa [Value.ownBlock] using hv
        rw [h.been] at hg
        cases hg
    · exact .inr hv
/-- a node has been told -/
theorem At14.yielded {y : It14} (h : At14 Nd w0 r B' J S us pre v w) (hj : J (pre ++ [y]) w') (hk : Kf none14 w0.heap.size w w') (hf : KeepsFrom B' w w') : At14 Nd w0 r B' J S us (pre ++ [y]) v w' :=
  ⟨h.base.trans hk.below, hf.same r _ h.rb h.been rfl, h.none, h.good, hk.owned h.ow rfl, h.ls, hj, h.ld, Nat.le_trans h.sz hk.size, h.low, h.rb⟩
/-- both sides of a node are put on the row -/
theorem At14.push {tl tr : Tr} {pl pr : Option Addr} {tmp : Obj} {v1 : Value} {w1 : World} (h : At14 Nd w0 r B' J S us pre v w) (hJ : Abide mine14 B' J) (hl : TreeAt Nd w0 w0.heap.size tl pl) (hr : TreeAt Nd w0 w0.heap.size tr pr) (hd : load14 us + (2 * tl.size + 1) + (2 * tr.size + 1) ≤ 10001)
    (ho : w1.ownsRow B' 25 1 v1 (us.length + 2) (ptrs14 us.reverse ++ [.pointer pr, .pointer pl])) (hg : (w.alloc tmp).grownBy w1 v.ownBlock) : At14 Nd w0 r B' J S ((tl, pl) :: (tr, pr) :: us) pre v1 w1 := by
  have h1 := h.below hJ ((Below.refl w.heap.size w).alloc (Nat.le_refl _) tmp)
  have hk : Kf mine14 B' (w.alloc tmp) w1 := Kf.grown hg h1.ow rfl (Nat.le_refl _) h1.sz
  refine ⟨h1.base.trans (hk.below.mono h.low), ?_, h.none, h.good, ?_, ?_, hJ _ _ _ h1.j (.of_kf hk), by rw [load14_cons, load14_cons]; show 2 * tl.size + 1 + (2 * tr.size + 1 + load14 us) ≤ _; omega, Nat.le_trans h1.sz hk.size, h.low, h.rb⟩
  · refine (hg.block r (Array.getElem?_eq_some_iff.1 h1.been).1 (fun e => ?_)).trans h1.been
    rcases h.ow.2 with ⟨rfl, _⟩ | ⟨g, cap, cur, rfl, _, hg', _⟩
    · simp [Value.ownBlock] at e
    · obtain rfl : r = g := by simpa [Value.ownBlock] using e
      rw [h.been] at hg'
      cases hg'
  · simp only [List.reverse_cons, ptrs14, List.map_append, List.length_cons, List.append_assoc, List.map_cons, List.map_nil] at ho ⊢
    exact ho
  · intro u hu
    rcases List.mem_cons.1 hu with rfl | hu
    · exact hl
    · rcases List.mem_cons.1 hu with rfl | hu
      · exact hr
      · exact h.ls u hu
/-- the start -/
theorem Go14.start (f : Tr → Nat) (t0 : Tr) (w0 : World) (p : Option Addr) : Go14 Nd f t0 w0 [none] [(t0, p)] [] 0 := by
  refine ⟨by simp [size14], fun _ => ⟨(errL_one t0).symm, by rw [show trees14 [(t0, p)] = [t0] from rfl, placeL_one, Nat.zero_add], fun q hq t ht => ?_⟩⟩
  rw [List.mem_singleton.1 hq] at ht
  cases t with
  | e => exact ⟨[], [t0], rfl, fun _ => rfl, fun u hu => by cases hu⟩
  | n l k v g r => obtain ⟨_, _, _, e, _⟩ := ht; cases e
/-- a node where one has been -/
theorem Go14.again {t : Tr} {q : Option Addr} (h : Go14 Nd f t0 w0 S ((t, q) :: us) pre pl) (ht : TreeAt Nd w0 w0.heap.size t q) (hq : q ∈ S) : Go14 Nd f t0 w0 S us pre (pl + t.size) := by
  have hs := h.size
  rw [size14_cons] at hs
  refine ⟨by omega, fun hp => ?_⟩
  obtain ⟨h1, h2, h3⟩ := h.go hp
  rw [trees14_cons] at h1 h2 h3
  have hok := (h3 q hq t ht).again
  exact ⟨by rw [h1, errL_ok _ hok], by rw [h2, placeL_ok _ hok]; omega, fun q' hq' t' ht' => (h3 q' hq' t' ht').ok hok⟩
/-- a node that is right -/
theorem Go14.step (hN : NodeSays Nd) {l r : Tr} {k x g : BitVec 64} {a : Addr} {p1 p2 : Option Addr} (h : Go14 Nd f t0 w0 S ((.n l k x g r, some a) :: us) pre pl) (ht : TreeAt Nd w0 w0.heap.size (.n l k x g r) (some a)) :
    Go14 Nd f t0 w0 (S ++ [some a]) ((l, p1) :: (r, p2) :: us) (pre ++ [(pl, .n l k x g r, a)]) (pl + 1) := by
  have hs := h.size
  rw [size14_cons, Tr.size] at hs
  refine ⟨by rw [size14_cons, size14_cons]; omega, fun hp => ?_⟩
  have hf : f (.n l k x g r) = 0 := hp (pl, .n l k x g r, a) (List.mem_append_right _ (List.mem_singleton.2 rfl))
  obtain ⟨h1, h2, h3⟩ := h.go fun y hy => hp y (List.mem_append_left _ hy)
  rw [trees14_cons] at h1 h2 h3
  rw [trees14_cons, trees14_cons]
  refine ⟨by rw [h1, errL_yes _ hf], by rw [h2, placeL_yes _ hf]; omega, fun q' hq' t' ht' => ?_⟩
  rcases List.mem_append.1 hq' with hq' | hq'
  · exact (h3 q' hq' t' ht').down hf
  · rw [List.mem_singleton.1 hq'] at ht'
    rw [ht'.uniq hN ht]
    exact Past.first hf
theorem Go14.told {l r : Tr} {k x g : BitVec 64} {q : Option Addr} (h : Go14 Nd f t0 w0 S ((.n l k x g r, q) :: us) pre pl) (hp : ∀ y ∈ pre, f y.2.1 = 0) (hf : f (.n l k x g r) ≠ 0) : errF f t0 = f (.n l k x g r) ∧ placeF f t0 = pl := by
  obtain ⟨h1, h2, -⟩ := h.go hp
  rw [trees14_cons] at h1 h2
  exact ⟨by rw [h1, errL_no _ hf], by rw [h2, placeL_no _ hf]; rfl⟩
theorem Go14.done (h : Go14 Nd f t0 w0 S [] pre pl) (hp : ∀ y ∈ pre, f y.2.1 = 0) : errF f t0 = 0 := (h.go hp).1
end
theorem good_tree14 (hN : NodeSays Nd) {w : World} {t : Tr} {p : Option Addr} (h : TreeAt Nd w w.heap.size t p) : GoodP w p := fun a e => by
  subst e
  cases t with
  | e => cases h
  | n l k v g r =>
    obtain ⟨a', pl, pr, ha, hnd, -, -⟩ := h
    cases ha
    exact hN.lies hnd
theorem info_ptr14 : (Try.prog.info? 25).map (fun i => (i.zero, i.size, i.bytes)) = some (some (.pointer none), 1, 8) := by kernel_rfl
theorem size_ptr14 (W : World) : (sizeOf 25).run Try.prog W = .ok 1 W := by kernel_rfl
theorem zero_bool14 (W : World) : (zeroValue 4).run Try.prog W = .ok (.bool false) W := by kernel_rfl
theorem look14 (W : World) (r : Nat) (S : List (Option Addr)) (hr : W.heap[r]? = some (setO S)) (hg : ∀ q ∈ S, GoodP W q) (p : Option Addr) (h : GoodP W p) (B : Bool) (hB : decide (p ∈ S) = B) :
    (Instr.lookup 87 (.map (some r)) (.pointer p) false).run Try.prog W = .ok (.bool B) W := by
  obtain ⟨j, hj, hs⟩ := node_info
  exact look_ptr W Try.underlying87 Try.underlying25 hj hs (zero_bool14 W) r S hr hg p h B hB
theorem put14 (W : World) (r : Nat) (S : List (Option Addr)) (hr : W.heap[r]? = some (setO S)) (hg : ∀ q ∈ S, GoodP W q) (p : Option Addr) (h : GoodP W p) (hx : p ∉ S) :
    (Instr.mapUpdate 87 (.map (some r)) (.pointer p) (.bool true)).run Try.prog W = .ok () (W.putObj r (setO (S ++ [p]))) := by
  obtain ⟨j, hj, hs⟩ := node_info
  exact put_ptr W Try.underlying87 Try.underlying25 hj hs r S hr hg p h hx
/-- how big a tree is, by Size -/
theorem size_any14 (hN : NodeSays Nd) {W : World} {B : Nat} {t : Tr} {p : Option Addr} (h : TreeAt Nd W B t p) (h5 : t.size ≤ 5000) : Calls Try.prog 20 #[.pointer p] W fun e w' => e = .returned (nI t.size) ∧ Below W.heap.size W w' := by
  have := h.look.size hN
  rw [show K (BitVec.ofNat 64 t.size) = nI t.size from by show Value.int .i64 _ = _; rw [size_bits (Nat.le_trans h5 (by decide))]] at this
  exact this
end Go.Proofs.Ytfbmpgffekhmhaa
/- Package beads, as landed (what avl, rb, wb share): the walk over a tree's nodes, and what starts it. -/
namespace Go.Proofs.Ytfbmpgffekhmhaa
open Go.RowKit Go.Shelf Go.Proofs.Treem
attribute [local go_sem] Oper.semAt_some
set_option maxRecDepth 100000
variable {Nd : NdP}

set_option maxHeartbeats 8000000 in
theorem once_turns (hN : NodeSays Nd) (w0 : World) (f : Tr → Nat) (t : Tr) (p : Option Addr) (ht : TreeAt Nd w0 w0.heap.size t p) (h5 : t.size ≤ 5000) (gT : Nat) (w : World) (hb0 : Below w0.heap.size w0 w) (hP : Boxed w gT 25 (.pointer p)) (n : Nat) :
    SeqTurns mine14 Fence.wide n Try.prog 67 #[.pointer (some ⟨gT, 0, none⟩)] (fun x : It14 => #[nI x.1, .pointer (some x.2.2)]) (Kf none14 w0.heap.size) (Told14 Nd f t w0) (fun xs => (∀ y ∈ xs, f y.2.1 = 0) → errF f t = 0) w := fun l J Jx W hbW hJ hJx hY hJ0 => by
  obtain ⟨i0, hin, hz0, hz1, hz2⟩ := info_parts info_ptr14
  obtain ⟨B', hB'⟩ : ∃ b, W.heap.size = b := ⟨_, rfl⟩
  obtain ⟨r, hr⟩ : ∃ b, W.heap.size = b := ⟨_, rfl⟩
  have bw : Below w0.heap.size w0 W := hb0.trans (hbW.mono hb0.size)
  have xP : W.cell? ⟨gT, 0, none⟩ = some (.pointer p) := keep_cell hbW hP.cell
  have hgT : gT < W.heap.size := Nat.lt_of_lt_of_le hP.lt hbW.size
  have gnone : ∀ V, GoodP V none := fun V a e => by cases e
  obtain ⟨W1, hW1⟩ : ∃ W1, (W.alloc (.map #[] 0)).putObj r (setO [none]) = W1 := ⟨_, rfl⟩
  have hm0 : (W.alloc (.map #[] 0)).heap[r]? = some (setO []) := hr ▸ World.alloc_heap_new W _
  have hput : (Instr.mapUpdate 87 (.map (some W.heap.size)) (.pointer none) (.bool true)).run Try.prog (W.alloc (.map #[] 0)) = .ok () W1 := by
    rw [hr, ← hW1]
    exact put14 _ r [] hm0 (fun q hq => by cases hq) none (gnone _) (by simp)
  have hmm := @run_makeMap Try.prog
  have ha : Below W.heap.size W (W.alloc (.map #[] 0)) := (Below.refl _ W).alloc (Nat.le_refl _) _
  have b1 : Below W.heap.size W W1 := by
    have hk : Kf (fun _ => false) r (W.alloc (.map #[] 0)) ((W.alloc (.map #[] 0)).putObj r (setO [none])) := Kf.putObj _ r _ _ (Nat.le_refl _) hm0 rfl
    rw [hW1] at hk
    exact ha.trans (hr ▸ hk.below)
  have been1 : W1.heap[r]? = some (setO [none]) := hW1 ▸ World.putObj_heap_same (Array.getElem?_eq_some_iff.1 hm0).1
  have xP1 : W1.cell? ⟨gT, 0, none⟩ = some (.pointer p) := keep_cell b1 xP
  obtain ⟨W2, hW2⟩ : ∃ W2, W1.alloc (.cells #[.pointer p] 25) = W2 := ⟨_, rfl⟩
  obtain ⟨gO, hgO⟩ : ∃ g, W1.heap.size = g := ⟨_, rfl⟩
  have b2 : Below W1.heap.size W1 W2 := hW2 ▸ (Below.refl _ W1).alloc (Nat.le_refl _) _
  have ow2 : W2.ownsRow B' 25 1 (.slice (some ⟨gO, 0, none⟩) 1 1) 1 [.pointer p] := hgO ▸ hW2 ▸ World.ownsRow_lit W1 #[.pointer p] 1 (hB' ▸ b1.size) (by decide) rfl
  rw [hB'] at hJ hJx hY
  have h1 : At14 Nd w0 r B' J [none] [(t, p)] [] (.slice (some ⟨gO, 0, none⟩) 1 1) W2 :=
    ⟨bw.trans ((Below.after b1 b2).mono bw.size), (b2.block r (Array.getElem?_eq_some_iff.1 been1).1).trans been1, List.mem_singleton.2 rfl, (fun q hq => by rw [List.mem_singleton.1 hq]; exact gnone _), ow2, (fun u hu => by rw [List.mem_singleton.1 hu]; exact ht), hJ _ _ _ hJ0 (.of_below (Below.after b1 b2)), by show 2 * t.size + 1 + 0 ≤ _; omega, hB' ▸ (Below.after b1 b2).size, hB' ▸ bw.size, by omega⟩
  have H1 := Lib.hid h1
  have G1 : Hid (Go14 Nd f t w0 [none] [(t, p)] [] 0) := Go14.start f t w0 p
  have H5000 := Lib.hid h5
  obtain ⟨mu, hmu⟩ := least_of (α := Value × Value × World) (fun m q => ∃ (S : List (Option Addr)) (us : List (Tr × Option Addr)) (pre : List It14) (pl : Nat), m = load14 us ∧ q.1 = nI pl ∧ At14 Nd w0 r B' J S us pre q.2.1 q.2.2 ∧ Go14 Nd f t w0 S us pre pl)
  have hmu' := Lib.hid hmu
  have HW1 := Lib.hid hW1
  have HW2 := Lib.hid hW2
  have HR := Lib.hid hr
  have HO := Lib.hid hgO
  have hN' := Lib.hid hN
  have hJ' := Lib.hid hJ
  have hY' := Lib.hid hY
  clear hmu hW1 hW2 hr hgO hN hJ hJx hY h1 bw b1 b2 ow2 been1 ha hm0 hJ0 hB' ht h5 hb0 hP hbW gnone hgT
  refine callsIn_of_wp Try.func67 rfl trivial ?_ rfl
  simp only [Try.ntmps67, List.size_toArray, List.length_cons, List.length_nil, Nat.reduceAdd, Nat.reduceSub, Array.replicate_succ, Array.replicate_zero, List.push_toArray, List.append_toArray, List.nil_append, List.cons_append]
  refine wpIn_wide.2 ?_
  go_upto_region 2 with (fail)
  clear hput hmm xP
  rw [HR.out]
  go_wp2_with fail
  rw [HW2.out, HO.out]
  clear xP1
  go_loopw [3, 5] (fun x v wr => ∃ (m : Nat) (S : List (Option Addr)) (us : List (Tr × Option Addr)) (pre : List It14) (pl : Nat), m = load14 us ∧ x = nI pl ∧ At14 Nd w0 r B' J S us pre v wr ∧ Go14 Nd f t w0 S us pre pl) (fun x v wr => mu (x, v, wr))
  case atStart => exact ⟨_, _, _, _, 0, rfl, rfl, H1.out, G1.out⟩
  case round =>
    clear H1 G1
    obtain ⟨m, hm⟩ := hrel
    obtain ⟨⟨S, us, pre, pl, em, ex, h3, G3⟩, -⟩ := hmu'.out (_, _, wr) m hm
    simp only at h3 ex
    subst ex
    have G3 := Lib.hid G3
    obtain ⟨A, c, rfl, hcn, -, -⟩ := own_slice h3.ow
    cases us with
    | nil =>
      have H3 := Lib.hid h3
      clear h3 hm em hcn
      go_wp2_with fail
      go_end0
      exact ⟨⟨_, rfl⟩, .inl ⟨pre, G3.out.done, H3.out.j⟩⟩
    | cons u us =>
      obtain ⟨tn, q⟩ := u
      obtain ⟨mm, hmm⟩ : ∃ n, us.length = n := ⟨_, rfl⟩
      obtain ⟨nn, hnn⟩ : ∃ n, mm + 1 = n := ⟨_, rfl⟩
      have hld := h3.ld
      have hfew := load14_len us
      rw [hmm] at hfew
      rw [load14_cons] at hld em
      simp only at hld em
      have d5 : mm ≤ 10001 := by omega
      obtain ⟨ad, rfl, g0⟩ := h3.top hmm
      have htn : TreeAt Nd w0 w0.heap.size tn q := h3.ls _ (List.mem_cons_self ..)
      have gq0 : GoodP w0 q := good_tree14 hN'.out htn
      have gq : GoodP wr q := gq0.below h3.base
      rw [List.length_cons, hmm, hnn] at h3 hcn em ⊢
      have e1 : wrap64 ((nn : Int) - 1) = (mm : Int) := by unfold wrap64; omega
      have d1 : decide ((0 : Int) < (nn : Int)) = true := decide_eq_true (by omega)
      have d2 : 0 < nn := by omega
      have hix : mm < nn := by omega
      have ct : ∀ W, (Instr.slice 59 (.slice (some ad) nn c) none (some (.int .i64 (mm : Int))) none).run Try.prog W = .ok (.slice (some ad) mm c) W := cut_to Try.underlying59 size_ptr14 (some ad) nn c mm _ rfl (by omega)
      have hnS : none ∈ S := h3.none
      obtain ⟨B, hB⟩ : ∃ b, decide (q ∈ S) = b := ⟨_, rfl⟩
      have lk := look14 wr r S h3.been h3.goods q gq B hB
      have H4 := Lib.hid (h3.pop hmm hnn)
      have hnn' := Lib.hid hnn
      have hmm' := Lib.hid hmm
      have em' := Lib.hid em
      have htn' := Lib.hid htn
      have hld' := Lib.hid hld
      have hB' := Lib.hid hB
      have gq' := Lib.hid gq
      have gq0' := Lib.hid gq0
      have hnS' := Lib.hid hnS
      clear h3 hm em hcn hnn hmm htn hld hfew hB gq gq0 hnS
      cases B with
      | true =>
        have hq : q ∈ S := of_decide_eq_true hB'.out
        have G5 := Lib.hid (G3.out.again htn'.out hq)
        have hs5 := G5.out.size
        have h50 := H5000.out
        have e5 : wrap64 ((pl : Int) + (tn.size : Int)) = ((pl + tn.size : Nat) : Int) := by unfold wrap64; omega
        have cZ : Hid (Calls Try.prog 20 #[.pointer q] wr fun e w' => e = .returned (nI tn.size) ∧ Below wr.heap.size wr w') := size_any14 hN'.out (htn'.out.next hN'.out H4.out.base) (by omega)
        obtain ⟨sz, hsz⟩ : ∃ s, tn.size = s := ⟨_, rfl⟩
        have hsz' := Lib.hid hsz
        rw [hsz] at e5 cZ
        clear hs5 h50 hq hsz
        go_wp2_with fail
        refine cZ.out.mono ?_
        rintro e w5 ⟨rfl, hb5⟩
        have H5 := Lib.hid (H4.out.below hJ'.out hb5)
        clear hb5 cZ
        have hm := Lib.hid (hmu'.out (nI (pl + tn.size), .slice (some ad) mm c, w5) _ ⟨_, _, _, pl + tn.size, rfl, rfl, H5.out, G5.out⟩)
        rw [hsz'.out] at hm
        go_wp2_with fail
        go_roundw
        case rel => rw [e5]; exact ⟨_, (hm.out).1⟩
        case measure =>
          rw [e5]
          have h1 : mu (.int .i64 ((pl + sz : Nat) : Int), .slice (some ad) mm c, w5) ≤ _ := hm.out.2
          have h2 := em'.out
          omega
      | false =>
        have hq : q ∉ S := of_decide_eq_false hB'.out
        have hp := put14 wr r S H4.out.been H4.out.goods q gq'.out hq
        have H5 := Lib.hid (H4.out.put (p := q) hJ'.out gq0'.out)
        obtain ⟨wb, hwb⟩ : ∃ wb, wr.putObj r (setO (S ++ [q])) = wb := ⟨_, rfl⟩
        rw [hwb] at hp H5
        clear hwb H4
        cases tn with
        | e =>
          obtain rfl : q = none := htn'.out
          exact absurd hnS'.out hq
        | n tl k x g tr =>
          obtain ⟨a, pL, pr, rfl, hnd, hl, hr⟩ := htn'.out
          have G6 := Lib.hid (Go14.step (p1 := pL) (p2 := pr) hN'.out G3.out htn'.out)
          have hs5 := G3.out.size
          rw [size14_cons, Tr.size] at hs5
          have h50 := H5000.out
          have hTold : Told14 Nd f t w0 pre (pl, .n tl k x g tr, a) wb := ⟨htn'.out, H5.out.base, by show pl + (1 + tl.size + tr.size) ≤ 5000; omega, G3.out.told⟩
          have e5 : wrap64 ((pl : Int) + 1) = ((pl + 1 : Nat) : Int) := by unfold wrap64; omega
          clear hs5 h50
          obtain ⟨fnY, tmY, asY, bdY, hyv, hR⟩ := round_any (m' := 0) (show YieldAt _ _ _ _ #[.int .i64 (pl : Int), .pointer (some a)] wb _ from hY'.out pre (pl, .n tl k x g tr, a) wb H5.out.j hTold)
          have hR' := Lib.hid hR
          have hnd' := Lib.hid hnd
          have hl' := Lib.hid hl
          have hr' := Lib.hid hr
          have hsz : Hid (Tr.size (.n tl k x g tr) = 1 + tl.size + tr.size) := rfl
          rw [hsz.out] at em' hld'
          clear hR hTold hnd hl hr hsz hq
          go_upto_region 10 with (fail)
          refine (wpIn_wide (n := 0)).1 ?_
          gi_wp2
          refine ⟨rfl, ?_⟩
          refine hR'.out.mono ?_
          clear hR' hyv hp lk g0
          rintro e wy ⟨⟨rfl, hj, hk⟩ | ⟨rfl, hx⟩, hf⟩
          · have HY := Lib.hid (H5.out.yielded hj hk hf)
            have bY := HY.out.base
            have cR : Hid (Calls Try.prog 45 #[.pointer (some a)] wy fun e w' => e = .returned (.pointer pr) ∧ wy = w') := hN'.out.right wy w0.heap.size a _ (hN'.out.next hnd'.out bY)
            have cL : Hid (Calls Try.prog 44 #[.pointer (some a)] wy fun e w' => e = .returned (.pointer pL) ∧ wy = w') := hN'.out.left wy w0.heap.size a _ (hN'.out.next hnd'.out bY)
            have hsl : wy.ownsRow B' 25 1 (.slice (some ad) mm c) mm (ptrs14 us.reverse) := hmm'.out ▸ HY.out.ow
            have hby : B' ≤ wy.heap.size := HY.out.sz
            clear hj hk hf bY
            gi_wp2
            go_wp2_with fail
            refine cR.out.mono ?_
            rintro e w' ⟨rfl, rfl⟩
            go_wp2_with fail
            refine cL.out.mono ?_
            rintro e w' ⟨rfl, rfl⟩
            go_wp2_with (
              (at_builtin
               refine wpList_append_own _ rfl _ _ 59 rfl B' 25 i0 (.pointer none) 1 8 Try.underlying59 hin hz0 hz1 hz2 rfl (by decide) (.slice (some ad) mm c) mm (ptrs14 us.reverse) rfl (hsl.alloc _) ⟨wy.heap.size, 0, none⟩ 2 2 [.pointer pr, .pointer pL] rfl rfl (fun j u hu => ((Has.new wy 25 #[.pointer pr, .pointer pL]).row.at_ hu).2) (by simp [Value.oneCell']) (by unfold maxLen; omega) (by omega) (by simp; omega) ?_
               intro v2 w4 hown' hgrow _
               obtain ⟨g', cap', rfl⟩ := ownsRow_succ hown'
               have H9 := Lib.hid (HY.out.push (tl := tl) (tr := tr) (pl := pL) (pr := pr) hJ'.out hl'.out hr'.out (by have := hld'.out; omega) (by rw [hmm'.out]; exact hown') hgrow)
               have hm := Lib.hid (hmu'.out (nI (pl + 1), _, w4) _ ⟨_, _, _, pl + 1, rfl, rfl, H9.out, G6.out⟩)))
            go_roundw
            case rel => exact ⟨_, (hm.out).1⟩
            case measure =>
              have h1 := hm.out.2
              have h2 := em'.out
              rw [load14_cons, load14_cons, show nI (pl + 1) = Value.int .i64 ((pl : Int) + 1) from rfl] at h1
              simp only at h1
              omega
          · have hx' := Lib.hid hx
            clear hx
            gi_wp2
            go_wp2_with fail
            exact bodyPost_ret (results_none rfl _ _ _) rfl ⟨⟨_, rfl⟩, .inr ⟨_, hx'.out⟩⟩
set_option maxHeartbeats 1000000 in
theorem once_any (p : Option Addr) (w : World) : Calls Try.prog 58 #[.pointer p] w fun e w' =>
    e = .returned (.func (.func 67) #[] #[.pointer (some ⟨w.heap.size, 0, none⟩)]) ∧ w.alloc (.cells #[.pointer p] 25) = w' := by
  go_enter Try.func58, Try.ntmps58
  go_wp2
  go_ret
  exact ⟨rfl, rfl⟩
end Go.Proofs.Ytfbmpgffekhmhaa
/- Package wb, as landed: together, Weight, Like, Make, Rank. Made by wip/gen/layer18wb.py. -/
namespace Go.Proofs.Ytfbmpgffekhmhaa
open Go.RowKit Go.Proofs.Treem
set_option maxRecDepth 100000
variable {Nd : NdP}

set_option maxHeartbeats 4000000 in
/-- what two numbers come to -/
theorem togetherI_any (w : World) (g : Nat) (x y z : Int) (h : Has w g 3 #[.int .i64 x, .int .i64 y]) (x0 : 0 ≤ x) (x1 : x ≤ 1099511627776) (y0 : 0 ≤ y) (y1 : y ≤ 1099511627776) (hz : x + y = z) : Calls Try.prog 46 #[.slice (some ⟨g, 0, none⟩) 2 2] w fun e w' => e = .returned (.int .i64 z) ∧ w = w' := by
  have c0 := h.cell 0
  have c1 := h.cell 1
  simp only [List.getElem?_toArray, List.getElem?_cons_zero, List.getElem?_cons_succ] at c0 c1
  have e1 : IntKind.i64.wrap (0 + x) = x := by rw [Int.zero_add]; exact IntWalk.i64_in _ (by omega)
  have e2 : IntKind.i64.wrap (x + y) = z := by rw [hz]; exact IntWalk.i64_in _ (by omega)
  have e4 : Hid (wrap64 x = x) := by
    show wrap64 x = x; unfold wrap64; omega
  clear h x0 x1 y0 y1 hz
  go_enter Try.func46, Try.ntmps46
  go_wp2
  go_loop [3, 8] (fun s i => (s = .int .i64 0 ∧ i = .int .i64 0) ∨ (s = .int .i64 x ∧ i = .int .i64 1) ∨ (s = .int .i64 z ∧ i = .int .i64 2)) (fun _ i => 2 - (intOf i).toNat)
  case atStart => exact .inl ⟨rfl, rfl⟩
  case round =>
    rcases hrel with ⟨rfl, rfl⟩ | ⟨rfl, rfl⟩ | ⟨rfl, rfl⟩
    · clear c1 e2
      go_wp2
      go_round
      case rel => exact .inr (.inl ⟨by simp; exact e4.out, rfl⟩)
      case measure => simp [intOf]
    · clear c0 e1
      go_wp2
      go_round
      case rel => exact .inr (.inr ⟨by simp, rfl⟩)
      case measure => simp [intOf]
    · clear c0 c1 e1 e2
      go_wp2
      go_ret
      exact ⟨rfl, rfl⟩
set_option maxHeartbeats 4000000 in
/-- what two numbers come to -/
theorem togetherU_any (w : World) (g : Nat) (x y z : Int) (h : Has w g 45 #[.int .u64 x, .int .u64 y]) (x0 : 0 ≤ x) (x1 : x ≤ 1099511627776) (y0 : 0 ≤ y) (y1 : y ≤ 1099511627776) (hz : x + y = z) : Calls Try.prog 54 #[.slice (some ⟨g, 0, none⟩) 2 2] w fun e w' => e = .returned (.int .u64 z) ∧ w = w' := by
  have c0 := h.cell 0
  have c1 := h.cell 1
  simp only [List.getElem?_toArray, List.getElem?_cons_zero, List.getElem?_cons_succ] at c0 c1
  have e1 : IntKind.u64.wrap (0 + x) = x := by rw [Int.zero_add]; exact IntWalk.u64_in _ (by omega)
  have e2 : IntKind.u64.wrap (x + y) = z := by rw [hz]; exact IntWalk.u64_in _ (by omega)
  have e4 : Hid (IntKind.u64.wrap x = x) := by
    exact IntWalk.u64_in _ (by omega)
  clear h x0 x1 y0 y1 hz
  go_enter Try.func54, Try.ntmps54
  go_wp2
  go_loop [3, 8] (fun s i => (s = .int .u64 0 ∧ i = .int .i64 0) ∨ (s = .int .u64 x ∧ i = .int .i64 1) ∨ (s = .int .u64 z ∧ i = .int .i64 2)) (fun _ i => 2 - (intOf i).toNat)
  case atStart => exact .inl ⟨rfl, rfl⟩
  case round =>
    rcases hrel with ⟨rfl, rfl⟩ | ⟨rfl, rfl⟩ | ⟨rfl, rfl⟩
    · clear c1 e2
      go_wp2
      go_round
      case rel => exact .inr (.inl ⟨by simp; exact e4.out, rfl⟩)
      case measure => simp [intOf]
    · clear c0 e1
      go_wp2
      go_round
      case rel => exact .inr (.inr ⟨by simp, rfl⟩)
      case measure => simp [intOf]
    · clear c0 c1 e1 e2
      go_wp2
      go_ret
      exact ⟨rfl, rfl⟩
set_option maxHeartbeats 8000000 in
theorem wbLike_any (w : World) (a b : Int) (a0 : -9223372036854775808 ≤ a) (a1 : a ≤ 9223372036854775807) (b0 : -9223372036854775808 ≤ b) (b1 : b ≤ 9223372036854775807) : Calls Try.prog 59 #[.int .i64 a, .int .i64 b] w fun e w' => e = .returned (.bool (likeI a b)) ∧ Below w.heap.size w w' := by
  rcases Int.lt_trichotomy a b with hab | rfl | hab
  · by_cases hl : 1 ≤ a
    · have d1 : decide (1 ≤ a) = true := decide_eq_true hl
      by_cases hh : b ≤ 1099511627776
      · have d2 : decide (b ≤ 1099511627776) = true := decide_eq_true hh
        obtain ⟨s, hs⟩ : ∃ s, a + b = s := ⟨_, rfl⟩
        obtain ⟨c, hc⟩ : ∃ c, decide (29 * s ≤ 100 * a) = c := ⟨_, rfl⟩
        have e1 : IntKind.i64.wrap (29 * s) = 29 * s := IntWalk.i64_in _ (by omega)
        have e2 : IntKind.i64.wrap (100 * a) = 100 * a := IntWalk.i64_in _ (by omega)
        have hv : likeI a b = c := by
          rw [← hc]
          exact decide_eq_decide.2 (by omega)
        rw [hv]
        obtain ⟨gS, hgS⟩ : ∃ g, w.heap.size = g := ⟨_, rfl⟩
        obtain ⟨W, hW⟩ : ∃ W, w.alloc (.cells #[.int .i64 a, .int .i64 b] 3) = W := ⟨_, rfl⟩
        have bW : Hid (Below w.heap.size w W) := hW ▸ (Below.refl _ w).alloc (Nat.le_refl _) _
        have cT : Hid (Calls Try.prog 46 #[.slice (some ⟨gS, 0, none⟩) 2 2] W fun e w' => e = .returned (.int .i64 s) ∧ W = w') := togetherI_any W gS a b s (hgS ▸ hW ▸ Has.new w _ _) (by omega) (by omega) (by omega) (by omega) hs
        have HS := Lib.hid hgS
        have HW := Lib.hid hW
        have HC := Lib.hid hc
        clear hs hv hgS hW hl hh hc a0 a1 b0 b1
        go_enter Try.func59, Try.ntmps59
        go_wp2_with fail
        all_goals first
          | (exfalso; omega)
          | (rw [HS.out, HW.out]
             refine cT.out.mono ?_
             rintro e w1 ⟨rfl, rfl⟩
             have d3 := HC.out
             go_wp2
             go_ret
             exact ⟨rfl, bW.out⟩)
      · have d2 : decide (b ≤ 1099511627776) = false := decide_eq_false hh
        have hv : likeI a b = false := by
          rw [Bool.eq_false_iff]; intro h; rw [like_iff] at h; omega
        rw [hv]
        clear hv
        go_enter Try.func59, Try.ntmps59
        go_wp2
        all_goals first
          | (exfalso; omega)
          | (go_ret; exact ⟨rfl, Below.refl _ _⟩)
    · have d1 : decide (1 ≤ a) = false := decide_eq_false hl
      have hv : likeI a b = false := by
        rw [Bool.eq_false_iff]; intro h; rw [like_iff] at h; omega
      rw [hv]
      clear hv
      go_enter Try.func59, Try.ntmps59
      go_wp2
      all_goals first
        | (exfalso; omega)
        | (go_ret; exact ⟨rfl, Below.refl _ _⟩)
  · by_cases hl : 1 ≤ a
    · have d1 : decide (1 ≤ a) = true := decide_eq_true hl
      by_cases hh : a ≤ 1099511627776
      · have d2 : decide (a ≤ 1099511627776) = true := decide_eq_true hh
        obtain ⟨s, hs⟩ : ∃ s, a + a = s := ⟨_, rfl⟩
        obtain ⟨c, hc⟩ : ∃ c, decide (29 * s ≤ 100 * a) = c := ⟨_, rfl⟩
        have e1 : IntKind.i64.wrap (29 * s) = 29 * s := IntWalk.i64_in _ (by omega)
        have e2 : IntKind.i64.wrap (100 * a) = 100 * a := IntWalk.i64_in _ (by omega)
        have hv : likeI a a = c := by
          rw [← hc]
          exact decide_eq_decide.2 (by omega)
        rw [hv]
        obtain ⟨gS, hgS⟩ : ∃ g, w.heap.size = g := ⟨_, rfl⟩
        obtain ⟨W, hW⟩ : ∃ W, w.alloc (.cells #[.int .i64 a, .int .i64 a] 3) = W := ⟨_, rfl⟩
        have bW : Hid (Below w.heap.size w W) := hW ▸ (Below.refl _ w).alloc (Nat.le_refl _) _
        have cT : Hid (Calls Try.prog 46 #[.slice (some ⟨gS, 0, none⟩) 2 2] W fun e w' => e = .returned (.int .i64 s) ∧ W = w') := togetherI_any W gS a a s (hgS ▸ hW ▸ Has.new w _ _) (by omega) (by omega) (by omega) (by omega) hs
        have HS := Lib.hid hgS
        have HW := Lib.hid hW
        have HC := Lib.hid hc
        clear hs hv hgS hW hl hh hc a0 a1
        go_enter Try.func59, Try.ntmps59
        go_wp2_with fail
        all_goals first
          | (exfalso; omega)
          | (rw [HS.out, HW.out]
             refine cT.out.mono ?_
             rintro e w1 ⟨rfl, rfl⟩
             have d3 := HC.out
             go_wp2
             go_ret
             exact ⟨rfl, bW.out⟩)
      · have d2 : decide (a ≤ 1099511627776) = false := decide_eq_false hh
        have hv : likeI a a = false := by
          rw [Bool.eq_false_iff]; intro h; rw [like_iff] at h; omega
        rw [hv]
        clear hv
        go_enter Try.func59, Try.ntmps59
        go_wp2
        all_goals first
          | (exfalso; omega)
          | (go_ret; exact ⟨rfl, Below.refl _ _⟩)
    · have d1 : decide (1 ≤ a) = false := decide_eq_false hl
      have hv : likeI a a = false := by
        rw [Bool.eq_false_iff]; intro h; rw [like_iff] at h; omega
      rw [hv]
      clear hv
      go_enter Try.func59, Try.ntmps59
      go_wp2
      all_goals first
        | (exfalso; omega)
        | (go_ret; exact ⟨rfl, Below.refl _ _⟩)
  · by_cases hl : 1 ≤ b
    · have d1 : decide (1 ≤ b) = true := decide_eq_true hl
      by_cases hh : a ≤ 1099511627776
      · have d2 : decide (a ≤ 1099511627776) = true := decide_eq_true hh
        obtain ⟨s, hs⟩ : ∃ s, b + a = s := ⟨_, rfl⟩
        obtain ⟨c, hc⟩ : ∃ c, decide (29 * s ≤ 100 * b) = c := ⟨_, rfl⟩
        have e1 : IntKind.i64.wrap (29 * s) = 29 * s := IntWalk.i64_in _ (by omega)
        have e2 : IntKind.i64.wrap (100 * b) = 100 * b := IntWalk.i64_in _ (by omega)
        have hv : likeI a b = c := by
          rw [← hc]
          exact decide_eq_decide.2 (by omega)
        rw [hv]
        obtain ⟨gS, hgS⟩ : ∃ g, w.heap.size = g := ⟨_, rfl⟩
        obtain ⟨W, hW⟩ : ∃ W, w.alloc (.cells #[.int .i64 b, .int .i64 a] 3) = W := ⟨_, rfl⟩
        have bW : Hid (Below w.heap.size w W) := hW ▸ (Below.refl _ w).alloc (Nat.le_refl _) _
        have cT : Hid (Calls Try.prog 46 #[.slice (some ⟨gS, 0, none⟩) 2 2] W fun e w' => e = .returned (.int .i64 s) ∧ W = w') := togetherI_any W gS b a s (hgS ▸ hW ▸ Has.new w _ _) (by omega) (by omega) (by omega) (by omega) hs
        have HS := Lib.hid hgS
        have HW := Lib.hid hW
        have HC := Lib.hid hc
        clear hs hv hgS hW hl hh hc a0 a1 b0 b1
        go_enter Try.func59, Try.ntmps59
        go_wp2_with fail
        all_goals first
          | (exfalso; omega)
          | (rw [HS.out, HW.out]
             refine cT.out.mono ?_
             rintro e w1 ⟨rfl, rfl⟩
             have d3 := HC.out
             go_wp2
             go_ret
             exact ⟨rfl, bW.out⟩)
      · have d2 : decide (a ≤ 1099511627776) = false := decide_eq_false hh
        have hv : likeI a b = false := by
          rw [Bool.eq_false_iff]; intro h; rw [like_iff] at h; omega
        rw [hv]
        clear hv
        go_enter Try.func59, Try.ntmps59
        go_wp2
        all_goals first
          | (exfalso; omega)
          | (go_ret; exact ⟨rfl, Below.refl _ _⟩)
    · have d1 : decide (1 ≤ b) = false := decide_eq_false hl
      have hv : likeI a b = false := by
        rw [Bool.eq_false_iff]; intro h; rw [like_iff] at h; omega
      rw [hv]
      clear hv
      go_enter Try.func59, Try.ntmps59
      go_wp2
      all_goals first
        | (exfalso; omega)
        | (go_ret; exact ⟨rfl, Below.refl _ _⟩)
set_option maxHeartbeats 4000000 in
theorem wbWeight_any (hN : NodeSays Nd) (w : World) (t : Tr) (p : Option Addr) (ht : TreeAt Nd w w.heap.size t p) (h5 : t.size ≤ 5000) : Calls Try.prog 28 #[.pointer p] w fun e w' => e = .returned (nI (t.size + 1)) ∧ Below w.heap.size w w' := by
  have cZ := Lib.hid (size_any14 hN ht h5)
  obtain ⟨sz, hsz⟩ : ∃ s, t.size = s := ⟨_, rfl⟩
  obtain ⟨z, hz⟩ : ∃ z : Int, ((sz : Nat) : Int) + 1 = z := ⟨_, rfl⟩
  rw [hsz] at cZ h5 ⊢
  rw [show nI (sz + 1) = .int .i64 z from by rw [← hz]; rfl]
  have cT := Lib.hid (fun (W : World) (g : Nat) (h : Has W g 3 #[.int .i64 (sz : Int), .int .i64 1]) => togetherI_any W g (sz : Int) 1 z h (by omega) (by omega) (by omega) (by omega) hz)
  clear ht h5 hsz hz hN
  go_enter Try.func28, Try.ntmps28
  go_wp2_with fail
  refine cZ.out.mono ?_
  rintro e w1 ⟨rfl, hb⟩
  have b1 := Lib.hid hb
  clear hb cZ
  go_wp2_with fail
  refine (cT.out _ _ (Has.new w1 _ _)).mono ?_
  rintro e w2 ⟨rfl, rfl⟩
  go_wp2
  go_ret
  exact ⟨rfl, b1.out.alloc b1.out.size _⟩
set_option maxHeartbeats 4000000 in
theorem wbMake_any (hN : NodeSays Nd) (w : World) (L R : AT) (k v : BitVec 64) (hl : Stand Nd w L) (hr : Stand Nd w R) : Calls Try.prog 65 #[.pointer L.ptr, K k, K v, .pointer R.ptr] w (Made13 Nd L R k v 0#64 w) := by
  have cN : Hid (Calls Try.prog 25 #[.pointer L.ptr, K k, K v, .int .u64 0, .pointer R.ptr] w (Made13 Nd L R k v 0#64 w)) := new13 hN w L R k v 0#64 hl hr
  obtain ⟨pl, hpl⟩ : ∃ p, L.ptr = p := ⟨_, rfl⟩
  obtain ⟨pr, hpr⟩ : ∃ p, R.ptr = p := ⟨_, rfl⟩
  rw [hpl, hpr] at cN
  rw [hpl, hpr]
  clear hl hr hN hpl hpr
  go_enter Try.func65, Try.ntmps65
  go_wp2_with fail
  refine cN.out.mono ?_
  rintro e w3 ⟨a, x, rfl, hx, hs, ha, hb⟩
  have B3 := Lib.hid hb
  have HX := Lib.hid hx
  have HS := Lib.hid hs
  have HA := Lib.hid ha
  clear hb hx hs ha cN
  go_wp2
  go_ret
  exact ⟨a, x, rfl, HX.out, HS.out, HA.out, B3.out⟩
set_option maxHeartbeats 4000000 in
theorem wbRank_any (hN : NodeSays Nd) (w : World) (t : Tr) (p : Option Addr) (ht : TreeAt Nd w w.heap.size t p) (h5 : t.size ≤ 5000) : Calls Try.prog 33 #[.pointer p] w fun e w' => e = .returned (nI (rankN t.size)) ∧ Below w.heap.size w w' := by
  have cZ := Lib.hid (size_any14 hN ht h5)
  obtain ⟨sz, hsz⟩ : ∃ s, t.size = s := ⟨_, rfl⟩
  rw [hsz] at cZ h5 ⊢
  obtain ⟨m, hm⟩ : ∃ m, sz + 1 = m := ⟨_, rfl⟩
  obtain ⟨R, hR⟩ : ∃ R, rankN sz = R := ⟨_, rfl⟩
  have lo : 2 ^ R ≤ m := by rw [← hR, ← hm, rankN]; exact Nat.log2_self_le (by omega)
  have hi : m < 2 ^ (R + 1) := by rw [← hR, ← hm, rankN]; exact Nat.lt_log2_self
  have R13 : R < 13 := by
    rcases Nat.lt_or_ge R 13 with h | h
    · exact h
    · have := Nat.pow_le_pow_right (n := 2) (by omega) h
      have : (2 : Nat) ^ 13 = 8192 := by decide
      omega
  have hdiv : Hid (∀ q, q ≤ R → m / 2 ^ q ≠ 0) := fun q hq h => by
    have h1 := Nat.pow_le_pow_right (n := 2) (by omega) hq
    have h2 : 0 < 2 ^ q := Nat.pow_pos (by omega)
    have h3 := Nat.div_pos (Nat.le_trans h1 lo) h2
    omega
  have hend : Hid (m / 2 ^ (R + 1) = 0) := Nat.div_eq_of_lt hi
  rw [hR]
  have cT := Lib.hid (fun (W : World) (g : Nat) (h : Has W g 45 #[.int .u64 (sz : Int), .int .u64 1]) => togetherU_any W g (sz : Int) 1 (m : Int) h (by omega) (by omega) (by omega) (by omega) (by omega))
  have e1 : IntKind.u64.wrap (sz : Int) = (sz : Int) := IntWalk.u64_in _ (by omega)
  have s0 : Hid (∀ q, q ≤ 14 → ((m : Int) / 2 ^ q = ((m / 2 ^ q : Nat) : Int))) := fun q _ => by simp
  have hm5 : m ≤ 5001 := by omega
  clear ht h5 hsz hN lo hi hR hm
  go_enter Try.func33, Try.ntmps33
  go_wp2_with fail
  refine cZ.out.mono ?_
  rintro e w1 ⟨rfl, hb⟩
  have b1 := Lib.hid hb
  clear hb cZ
  go_wp2_with fail
  refine (cT.out _ _ (Has.new w1 _ _)).mono ?_
  rintro e w2 ⟨rfl, rfl⟩
  have b2 : Hid (Below w.heap.size w (w1.alloc (.cells #[.int .u64 (sz : Int), .int .u64 1] 45))) := b1.out.alloc b1.out.size _
  obtain ⟨W2, hW2⟩ : ∃ W, w1.alloc (.cells #[.int .u64 (sz : Int), .int .u64 1] 45) = W := ⟨_, rfl⟩
  rw [hW2] at b2 ⊢
  clear hW2 cT e1 b1
  go_wp2
  go_loop [3, 11] (fun k i => ∃ q : Nat, q ≤ R + 1 ∧ k = nI (q - 1) ∧ i = nI q) (fun _ i => 20 - (intOf i).toNat)
  case atStart => exact ⟨0, by omega, rfl, rfl⟩
  case round =>
    obtain ⟨q, hq, rfl, rfl⟩ := hrel
    have hq14 : q ≤ 14 := by omega
    obtain ⟨d, hd⟩ : ∃ d, m / 2 ^ q = d := ⟨_, rfl⟩
    have s1 := s0.out q hq14
    rw [hd] at s1
    by_cases hlt : q ≤ R
    · have hne := hdiv.out q hlt
      rw [hd] at hne
      have d1 : ((d : Int) == 0) = false := by rw [beq_eq_false_iff_ne]; omega
      clear hd
      go_wp2
      go_round
      case rel => exact ⟨q + 1, by omega, by simp [nI], by simp [nI]⟩
      case measure => simp [intOf]; omega
    · obtain rfl : q = R + 1 := by omega
      obtain rfl : d = 0 := by rw [← hd]; exact hend.out
      clear hd
      go_wp2
      go_ret
      exact ⟨by simp, b2.out⟩
end Go.Proofs.Ytfbmpgffekhmhaa
/- Package wb, as landed: isTooHeavy. Made by wip/gen/layer18check.py. -/
namespace Go.Proofs.Ytfbmpgffekhmhaa
open Go.RowKit Go.Shelf Go.Proofs.Treem
attribute [local go_sem] Oper.semAt_some
set_option maxRecDepth 100000
variable {Nd : NdP}

theorem Ret.one {P : Program} {fn : Func} {p : Tmp} {t : TypeId} (h : fn.results = #[.cell p t]) (tmps : Array Value) (w : World) (g : Nat) (x : Value)
    (hp : tmps.getD p undef = .pointer (some ⟨g, 0, none⟩)) (lp : (loadVar t ⟨g, 0, none⟩).run P w = .ok x w) : (results fn tmps).run P w = .ok x w := by
  have hp' : tmps[p]?.getD undef = .pointer (some ⟨g, 0, none⟩) := by simpa using hp
  simp [results, h, hp', asAddr, lp]
theorem Ret.load_bool (w : World) (a : Addr) (x : Value) (h : w.cell? a = some x) : (loadVar 4 a).run Try.prog w = .ok x w := by
  simp [loadVar, h]
abbrev none18 (_ : Tr) : Nat := 0
set_option maxHeartbeats 8000000 in
/-- a tree of so few nodes is not too heavy -/
theorem wbHeavy_any (hN : NodeSays Nd) (w : World) (t : Tr) (p : Option Addr) (ht : TreeAt Nd w w.heap.size t p) (h5 : t.size ≤ 5000) : Calls Try.prog 60 #[.pointer p] w fun e w' => e = .returned (.bool false) ∧ Below w.heap.size w w' := by
  obtain ⟨gB, hgB⟩ : ∃ g, w.heap.size = g := ⟨_, rfl⟩
  obtain ⟨Wa, hWa⟩ : ∃ W, w.alloc (.cells #[.bool false] 4) = W := ⟨_, rfl⟩
  have bB : Boxed Wa gB 4 (.bool false) := hgB ▸ hWa ▸ Boxed.new w _ _
  have ba : Below w.heap.size w Wa := hWa ▸ (Below.refl _ w).alloc (Nat.le_refl _) _
  have cS : Hid (∀ (gT : Nat) (W : World), Below w.heap.size w W → Boxed W gT 25 (.pointer p) → ∀ n, SeqTurns mine14 Fence.wide n Try.prog 67 #[.pointer (some ⟨gT, 0, none⟩)] (fun x : It14 => #[nI x.1, .pointer (some x.2.2)]) (Kf none14 w.heap.size) (Told14 Nd none18 t w) (fun xs => (∀ y ∈ xs, none18 y.2.1 = 0) → errF none18 t = 0) W) :=
    fun gT W hb h2 n => once_turns hN w none18 t p ht h5 gT W hb h2 n
  have cW : Hid (∀ (W : World) (u : Tr) (q : Option Addr), TreeAt Nd W W.heap.size u q → u.size ≤ 5000 → Calls Try.prog 28 #[.pointer q] W fun e w' => e = .returned (nI (u.size + 1)) ∧ Below W.heap.size W w') := fun W u q h1 h2 => wbWeight_any hN W u q h1 h2
  have HWa := Lib.hid hWa
  have HB := Lib.hid hgB
  have ba' := Lib.hid ba
  have bB' := Lib.hid bB
  have hN' := Lib.hid hN
  clear hWa hgB ba bB hN ht h5
  refine (callsIn_wide (n := 9)).1 ?_
  refine callsIn_of_wp_marks Try.func60 rfl trivial ?_ rfl
  simp only [Try.ntmps60, List.size_toArray, List.length_cons, List.length_nil, Nat.reduceAdd, Nat.reduceSub, Array.replicate_succ, Array.replicate_zero, List.push_toArray, List.append_toArray, List.nil_append, List.cons_append]
  refine wpIn_wide.2 ?_
  go_upto_region 1 with (fail)
  rw [HWa.out, HB.out]
  go_wp2_with fail
  refine (once_any p Wa).mono ?_
  rintro e W5 ⟨rfl, hW5⟩
  obtain ⟨gT, hgT⟩ : ∃ g, Wa.heap.size = g := ⟨_, rfl⟩
  rw [hgT]
  have bN : Below Wa.heap.size Wa W5 := hW5 ▸ (Below.refl _ Wa).alloc (Nat.le_refl _) _
  have bT : Boxed W5 gT 25 (.pointer p) := hgT ▸ hW5 ▸ Boxed.new Wa _ _
  have i5 : Boxed W5 gB 4 (.bool false) := Has.next (show Has _ _ _ _ from bB'.out) bN
  have hB5 : Below w.heap.size w W5 := Below.after ba'.out bN
  have hseq := cS.out gT W5 hB5 bT
  clear hW5 hgT bN bT bB' cS HWa ba'
  go_wp2_with fail
  refine (wpIn_wide (n := 9)).1 ?_
  refine wpIn_rangeFunc_turns (α := It14) rfl (by omega) (gf := 67) (lb := #[.pointer (some ⟨gT, 0, none⟩)]) rfl trivial (enters_of Try.func67 (by kernel_rfl) rfl)
    (hseq _) Kf.trans (Kf.put hB5.size) (Below.refl _ _) (fun _ => rfl)
    (fun _ W => Boxed W gB 4 (.bool false) ∧ Below w.heap.size w W)
    (fun _ _ _ => False)
    (Abide.and (Abide.boxed _ _ _ (.inl rfl)) (Abide.below hB5.size (Nat.le_refl _)))
    (fun c s X Y hs ht => hs)
    ⟨i5, hB5⟩
    (fun pre y a' W => TreeAt Nd w w.heap.size y.2.1 (some y.2.2) ∧ y.2.1.size ≤ 5000 ∧ a' = { tmps := #[.pointer p, undef, .pointer (some ⟨gB, 0, none⟩), undef, .pointer (some y.2.2), undef, .pointer p, .func (.func 67) #[] #[.pointer (some ⟨gT, 0, none⟩)], nI y.1, .pointer (some y.2.2), undef, undef, undef, undef, undef, undef, undef, undef], defers := [] })
    (fun pre y a' _ X Y row hs hg hr => hs)
    ?assign ?body ?done ?stop
  case assign =>
    rintro L pre ⟨pl, tn, a⟩ U KK hI ⟨h1, h2, h3, h4⟩ hK
    have hK2 := Lib.hid (hK { tmps := #[.pointer p, undef, .pointer (some ⟨gB, 0, none⟩), undef, .pointer (some a), undef, .pointer p, .func (.func 67) #[] #[.pointer (some ⟨gT, 0, none⟩)], nI pl, .pointer (some a), undef, undef, undef, undef, undef, undef, undef, undef], defers := [] } U ((KeepsOthers.refl _).from _) (Kf.refl _ _ U) hI ⟨h1, Nat.le_trans (Nat.le_add_left _ _) h3, rfl⟩)
    clear hK hI h1 h2 h3 h4
    gi_wp2
    exact hK2.out
  case body =>
    rintro L pre ⟨pl, tn, a⟩ a' U hL _ ⟨bI, hb⟩ ⟨h1, h3, rfl⟩
    have q1 := Lib.hid (cW.out U tn (some a) (h1.after hN'.out hb) h3)
    obtain ⟨s, hs⟩ : ∃ s, tn.size = s := ⟨_, rfl⟩
    simp only at h3
    rw [hs] at q1 h3
    have bI' := Lib.hid bI
    have hb' := Lib.hid hb
    clear bI hb h1 hs
    have d1 : decide ((s : Int) + 1 < 1) = false := decide_eq_false (by omega)
    have d2 : decide ((2199023255552 : Int) < (s : Int) + 1) = false := decide_eq_false (by omega)
    have d3 : decide (((s + 1 : Nat) : Int) < 1) = false := decide_eq_false (by omega)
    have d4 : decide ((2199023255552 : Int) < ((s + 1 : Nat) : Int)) = false := decide_eq_false (by omega)
    gi_wp2
    refine ⟨trivial, ?_⟩
    refine CallsIn.inRound L (callsIn_wide.2 (q1.out.mono ?_))
    rintro e U1 ⟨rfl, hb1⟩
    have i7 : Boxed U1 gB 4 (.bool false) := Has.next (show Has _ _ _ _ from bI'.out) hb1
    have B7 := Lib.hid (Below.after hb'.out hb1)
    have K7 := Lib.hid hb1
    have I7 := Lib.hid i7
    clear hb1 q1 bI' i7
    gi_wp2
    exact ⟨(Ret.keeps_below K7.out).from _, Kf.of_below K7.out hb'.out.size, I7.out, B7.out⟩
  case done =>
    rintro D xs U hD hxs ⟨bI, hb⟩ hK
    have hDI : D ≠ gB := fun e => by rw [e, show U.heap[gB]? = _ from bI] at hK; cases hK
    have sI := Ret.set_same bI
    have xI := bI.cell
    have fI := bI.frozen
    have hz2 : Has (U.putObj D (.deferred none)) gB 4 #[.bool false] := has_turned (B := 0) (show Has _ _ _ _ from bI) (grownBy_putObj' U D _) (fun r e => by cases e; exact ⟨Nat.zero_le _, _, hK, rfl⟩)
    have HZ := Lib.hid hz2
    have HB7 := Lib.hid hb
    have HK := Lib.hid hK
    clear hxs bI hb hK hz2 hDI
    go_wp2_with fail
    refine ⟨by simp, .inl ⟨_, _, rfl, run_takeDeferred HK.out, ?_⟩⟩
    exact ⟨_, Ret.one rfl _ _ gB _ rfl (Ret.load_bool _ _ _ (HZ.out.cell 0)), rfl, HB7.out.trans (belowK_b (w := w) (Nat.le_refl _) U D _ _ (by have := hB5.size; omega) HK.out rfl rfl)⟩
  case stop =>
    rintro D c pre U hD h hK
    exact h.elim
end Go.Proofs.Ytfbmpgffekhmhaa
/- Package wb, as landed: Check. Made by wip/gen/layer18check.py. -/
namespace Go.Proofs.Ytfbmpgffekhmhaa
open Go.RowKit Go.Shelf Go.Proofs.Treem
attribute [local go_sem] Oper.semAt_some
set_option maxRecDepth 100000
variable {Nd : NdP}

set_option maxHeartbeats 8000000 in
theorem wbCheck_any (hN : NodeSays Nd) (w : World) (t : Tr) (p : Option Addr) (ht : TreeAt Nd w w.heap.size t p) (h5 : t.size ≤ 5000) : Calls Try.prog 38 #[.pointer p] w fun e w' => e = .returned (.tuple #[nI (placeF rootW t), nI (errF rootW t)]) ∧ Below w.heap.size w w' := by
  obtain ⟨gI, hgI⟩ : ∃ g, w.heap.size = g := ⟨_, rfl⟩
  obtain ⟨gE, hgE⟩ : ∃ g, w.heap.size + 1 = g := ⟨_, rfl⟩
  obtain ⟨Wa, hWa⟩ : ∃ W, (w.alloc (.cells #[.int .i64 0] 3)).alloc (.cells #[.int .i64 0] 70) = W := ⟨_, rfl⟩
  have bI : Boxed Wa gI 3 (.int .i64 0) := hgI ▸ hWa ▸ (Boxed.new w _ _).alloc _
  have bE : Boxed Wa gE 70 (.int .i64 0) := by
    have := Boxed.new (w.alloc (.cells #[.int .i64 0] 3)) 70 (.int .i64 0)
    rw [World.size_alloc, hgE, hWa] at this
    exact this
  have ba : Below w.heap.size w Wa := hWa ▸ ((Below.refl _ w).alloc (Nat.le_refl _) _).alloc (by simp) _
  have cZ : Hid (Calls Try.prog 20 #[.pointer p] Wa fun e w' => e = .returned (nI t.size) ∧ Below Wa.heap.size Wa w') := size_any14 hN (ht.after hN ba) h5
  have cS : Hid (∀ (gT : Nat) (W : World), Below w.heap.size w W → Boxed W gT 25 (.pointer p) → ∀ n, SeqTurns mine14 Fence.wide n Try.prog 67 #[.pointer (some ⟨gT, 0, none⟩)] (fun x : It14 => #[nI x.1, .pointer (some x.2.2)]) (Kf none14 w.heap.size) (Told14 Nd rootW t w) (fun xs => (∀ y ∈ xs, rootW y.2.1 = 0) → errF rootW t = 0) W) :=
    fun gT W hb h2 n => once_turns hN w rootW t p ht h5 gT W hb h2 n
  have cT : Hid (∀ W, Below w.heap.size w W → Calls Try.prog 43 #[.pointer p] W fun e w' => e = .returned (.int .u64 (t.tag.toNat : Int)) ∧ Below W.heap.size W w') := fun W h => TreeAt.tag hN (ht.after hN h)
  have cH : Hid (∀ W, Below w.heap.size w W → Calls Try.prog 60 #[.pointer p] W fun e w' => e = .returned (.bool false) ∧ Below W.heap.size W w') := fun W h => wbHeavy_any hN W t p (ht.after hN h) h5
  have cW : Hid (∀ (W : World) (u : Tr) (q : Option Addr), TreeAt Nd W W.heap.size u q → u.size ≤ 5000 → Calls Try.prog 28 #[.pointer q] W fun e w' => e = .returned (nI (u.size + 1)) ∧ Below W.heap.size W w') := fun W u q h1 h2 => wbWeight_any hN W u q h1 h2
  obtain ⟨g, hg⟩ : ∃ g, t.tag.toNat = g := ⟨_, rfl⟩
  rw [hg] at cT
  obtain ⟨sz, hsz⟩ : ∃ s, t.size = s := ⟨_, rfl⟩
  have hall : Hid (errF rootW t = 0 → placeF rootW t = sz) := fun h => hsz ▸ placeF_all t h
  rw [hsz] at cZ
  have HWa := Lib.hid hWa
  have HI := Lib.hid hgI
  have HE := Lib.hid hgE
  have ba' := Lib.hid ba
  have bI' := Lib.hid bI
  have bE' := Lib.hid bE
  have hN' := Lib.hid hN
  clear hWa hgI hgE ba bI bE hN ht h5 hg hsz
  refine (callsIn_wide (n := 9)).1 ?_
  refine callsIn_of_wp_marks Try.func38 rfl trivial ?_ rfl
  simp only [Try.ntmps38, List.size_toArray, List.length_cons, List.length_nil, Nat.reduceAdd, Nat.reduceSub, Array.replicate_succ, Array.replicate_zero, List.push_toArray, List.append_toArray, List.nil_append, List.cons_append]
  refine wpIn_wide.2 ?_
  go_upto_region 1 with (fail)
  rw [HWa.out, HE.out, HI.out]
  go_step3
  go_wp2_with fail
  refine cZ.out.mono ?_
  rintro e W1 ⟨rfl, hb⟩
  have b1 := Lib.hid (Below.after ba'.out hb)
  have i1 : Boxed W1 gI 3 (.int .i64 0) := Has.next (show Has _ _ _ _ from bI'.out) hb
  have e1 : Boxed W1 gE 70 (.int .i64 0) := Has.next (show Has _ _ _ _ from bE'.out) hb
  have gIE : gI ≠ gE := by have := HI.out; have := HE.out; omega
  have xI := i1.cell
  have fI := i1.frozen
  obtain ⟨W2, hW2⟩ : ∃ W, W1.setCell ⟨gI, 0, none⟩ (nI sz) = W := ⟨_, rfl⟩
  have i2 : Boxed W2 gI 3 (nI sz) := hW2 ▸ i1.set _
  have e2 : Boxed W2 gE 70 (.int .i64 0) := hW2 ▸ Has.far (show Has _ _ _ _ from e1) (p := ⟨gI, 0, none⟩) (Ne.symm gIE) _
  have b2 : Below w.heap.size w W2 := hW2 ▸ b1.out.setCell (p := ⟨gI, 0, none⟩) (by have := HI.out; show w.heap.size ≤ gI; omega) _
  have I2 := Lib.hid i2
  have E2 := Lib.hid e2
  have B2 := Lib.hid b2
  have HW2 := Lib.hid hW2
  have GIE := Lib.hid gIE
  clear hb i1 e1 bI' bE' cZ b1 i2 e2 b2 hW2 gIE
  go_upto_region 2 with (fail)
  rw [HW2.out]
  clear xI fI
  go_wp2_with fail
  go_step3
  go_wp2_with fail
  refine (once_any p W2).mono ?_
  rintro e W5 ⟨rfl, hW5⟩
  obtain ⟨gT, hgT⟩ : ∃ g, W2.heap.size = g := ⟨_, rfl⟩
  rw [hgT]
  have bN : Below W2.heap.size W2 W5 := hW5 ▸ (Below.refl _ W2).alloc (Nat.le_refl _) _
  have bT : Boxed W5 gT 25 (.pointer p) := hgT ▸ hW5 ▸ Boxed.new W2 _ _
  have i5 : Boxed W5 gI 3 (nI sz) := Has.next (show Has _ _ _ _ from I2.out) bN
  have e5 : Boxed W5 gE 70 (.int .i64 0) := Has.next (show Has _ _ _ _ from E2.out) bN
  have hB5 : Below w.heap.size w W5 := Below.after B2.out bN
  have hseq := cS.out gT W5 hB5 bT
  clear hW5 hgT bN bT I2 E2 B2 cS HW2
  go_wp2_with fail
  refine (wpIn_wide (n := 9)).1 ?_
  refine wpIn_rangeFunc_turns (α := It14) rfl (by omega) (gf := 67) (lb := #[.pointer (some ⟨gT, 0, none⟩)]) rfl trivial (enters_of Try.func67 (by kernel_rfl) rfl)
    (hseq _) Kf.trans (Kf.put hB5.size) (Below.refl _ _) (fun _ => rfl)
    (fun pre W => (Boxed W gI 3 (nI sz) ∧ Boxed W gE 70 (.int .i64 0)) ∧ (∀ y ∈ pre, rootW y.2.1 = 0) ∧ Below w.heap.size w W)
    (fun c _ W => (c = .exit 0 ∧ errF rootW t ≠ 0 ∧ Boxed W gI 3 (nI (placeF rootW t)) ∧ Boxed W gE 70 (nI (errF rootW t))) ∧ Below w.heap.size w W)
    (Abide.and (Abide.and (Abide.boxed _ _ _ (.inl rfl)) (Abide.boxed _ _ _ (.inl rfl))) (Abide.and (fun _ _ _ h _ => h) (Abide.below hB5.size (Nat.le_refl _))))
    (fun c => Abide.and (fun s X Y hs ht => by obtain ⟨h1, h2, h5, h6⟩ := hs; exact ⟨h1, h2, ht.boxed h5 (.inl rfl), ht.boxed h6 (.inl rfl)⟩) (Abide.below hB5.size (Nat.le_refl _)))
    ⟨⟨i5, e5⟩, (fun y hy => by cases hy), hB5⟩
    (fun pre y a' W => TreeAt Nd w w.heap.size y.2.1 (some y.2.2) ∧ y.1 + y.2.1.size ≤ 5000 ∧ ((∀ y ∈ pre, rootW y.2.1 = 0) → rootW y.2.1 ≠ 0 → errF rootW t = rootW y.2.1 ∧ placeF rootW t = y.1) ∧ a' = { tmps := #[.pointer p, undef, .pointer (some ⟨gI, 0, none⟩), .pointer (some ⟨gE, 0, none⟩), nI y.1, .pointer (some y.2.2), .pointer p, nI sz, .pointer p, .func (.func 67) #[] #[.pointer (some ⟨gT, 0, none⟩)], nI y.1, .pointer (some y.2.2), undef, undef, undef, undef, undef, undef, undef, undef, undef, undef, undef, undef, undef, undef, undef, undef, undef, undef, undef, undef, undef, undef, undef, undef, undef, undef, undef, undef], defers := [] })
    (fun pre y a' _ X Y row hs hg hr => hs)
    ?assign ?body ?done ?stop
  case assign =>
    rintro L pre ⟨pl, tn, a⟩ U KK hI ⟨h1, h2, h3, h4⟩ hK
    have hK2 := Lib.hid (hK { tmps := #[.pointer p, undef, .pointer (some ⟨gI, 0, none⟩), .pointer (some ⟨gE, 0, none⟩), nI pl, .pointer (some a), .pointer p, nI sz, .pointer p, .func (.func 67) #[] #[.pointer (some ⟨gT, 0, none⟩)], nI pl, .pointer (some a), undef, undef, undef, undef, undef, undef, undef, undef, undef, undef, undef, undef, undef, undef, undef, undef, undef, undef, undef, undef, undef, undef, undef, undef, undef, undef, undef, undef], defers := [] } U ((KeepsOthers.refl _).from _) (Kf.refl _ _ U) hI ⟨h1, h3, h4, rfl⟩)
    clear hK hI h1 h2 h3 h4
    gi_wp2
    exact hK2.out
  case body =>
    rintro L pre ⟨pl, tn, a⟩ a' U hL _ ⟨⟨bI, bE⟩, hp, hb⟩ ⟨h1, h2, h3, rfl⟩
    simp only at h1 h2 h3
    have t0 := h1.after hN'.out hb
    obtain ⟨l, k, v, gg, r, rfl⟩ : ∃ l k v g r, tn = .n l k v g r := by
      cases tn with
      | e => cases h1
      | n l k v g r => exact ⟨l, k, v, g, r, rfl⟩
    rw [Tr.size] at h2
    have q1 : Hid (Calls Try.prog 43 #[.pointer (some a)] U fun e w' => e = .returned (.int .u64 (gg.toNat : Int)) ∧ Below U.heap.size U w') := TreeAt.tag hN'.out t0
    have q2 := Lib.hid (fun W (h : Below U.heap.size U W) => TreeAt.leftT hN'.out (t0.after hN'.out h))
    have q3 := Lib.hid (fun W (h : Below U.heap.size U W) => TreeAt.rightT hN'.out (t0.after hN'.out h))
    have wl : Hid (∀ W q, TreeAt Nd W W.heap.size l q → Calls Try.prog 28 #[.pointer q] W fun e w' => e = .returned (nI (l.size + 1)) ∧ Below W.heap.size W w') := fun W q h => cW.out W l q h (by omega)
    have wr : Hid (∀ W q, TreeAt Nd W W.heap.size r q → Calls Try.prog 28 #[.pointer q] W fun e w' => e = .returned (nI (r.size + 1)) ∧ Below W.heap.size W w') := fun W q h => cW.out W r q h (by omega)
    have lk : Hid (∀ W, Calls Try.prog 59 #[nI (l.size + 1), nI (r.size + 1)] W fun e w' => e = .returned (.bool (likeT l r)) ∧ Below W.heap.size W w') := fun W => wbLike_any W _ _ (by omega) (by omega) (by omega) (by omega)
    have hft := h3 hp
    have hrt : Hid (rootW (.n l k v gg r) = if gg.toNat ≠ 0 then 140 else if likeT l r = true then 0 else 8) := rfl
    obtain ⟨x, hx⟩ : ∃ x, rootW (.n l k v gg r) = x := ⟨_, rfl⟩
    obtain ⟨b, hlb⟩ : ∃ b, likeT l r = b := ⟨_, rfl⟩
    obtain ⟨m, hm⟩ : ∃ m, gg.toNat = m := ⟨_, rfl⟩
    rw [hm] at q1
    rw [hlb] at lk
    rw [hx, hm, hlb] at hrt
    rw [hx] at hft
    have HX := Lib.hid hx
    have HT := Lib.hid hft
    have HP := Lib.hid hp
    have bI' := Lib.hid bI
    have bE' := Lib.hid bE
    have hb' := Lib.hid hb
    have gW0 : Hid (w.heap.size ≤ gI ∧ w.heap.size ≤ gE) := ⟨by have := HI.out; omega, by have := HE.out; omega⟩
    clear t0 hft hp bI bE hb h1 h2 h3 hx hm hlb
    gi_wp2
    refine ⟨trivial, ?_⟩
    refine CallsIn.inRound L (callsIn_wide.2 (q1.out.mono ?_))
    rintro e U1 ⟨rfl, hb1⟩
    have K1 := Lib.hid hb1
    clear hb1 q1
    by_cases h0 : m = 0
    · subst h0
      gi_wp2
      refine ⟨trivial, ?_⟩
      refine CallsIn.inRound L (callsIn_wide.2 ((q2.out U1 K1.out).mono ?_))
      rintro e U2 ⟨ql, rfl, hl2, hb2⟩
      have K2 := Lib.hid (Below.after K1.out hb2)
      have L2 := Lib.hid hl2
      clear hb2 hl2 q2 K1
      gi_wp2
      refine ⟨trivial, ?_⟩
      refine CallsIn.inRound L (callsIn_wide.2 ((wl.out U2 ql L2.out).mono ?_))
      rintro e U3 ⟨rfl, hb3⟩
      have K3 := Lib.hid (Below.after K2.out hb3)
      clear hb3 L2 wl K2
      gi_wp2
      refine ⟨trivial, ?_⟩
      refine CallsIn.inRound L (callsIn_wide.2 ((q3.out U3 K3.out).mono ?_))
      rintro e U4 ⟨qr, rfl, hr4, hb4⟩
      have K4 := Lib.hid (Below.after K3.out hb4)
      have R4 := Lib.hid hr4
      clear hb4 hr4 q3 K3
      gi_wp2
      refine ⟨trivial, ?_⟩
      refine CallsIn.inRound L (callsIn_wide.2 ((wr.out U4 qr R4.out).mono ?_))
      rintro e U5 ⟨rfl, hb5⟩
      have K5 := Lib.hid (Below.after K4.out hb5)
      clear hb5 R4 wr K4
      gi_wp2
      refine ⟨trivial, ?_⟩
      refine CallsIn.inRound L (callsIn_wide.2 ((lk.out U5).mono ?_))
      rintro e U6 ⟨rfl, hb6⟩
      have k6 := Below.after K5.out hb6
      have i7 : Boxed U6 gI 3 (nI sz) := Has.next (show Has _ _ _ _ from bI'.out) k6
      have e7 : Boxed U6 gE 70 (.int .i64 0) := Has.next (show Has _ _ _ _ from bE'.out) k6
      have K7 := Lib.hid k6
      have B7 := Lib.hid (Below.after hb'.out k6)
      clear hb6 lk K5 k6
      cases b with
      | true =>
        have I7 := Lib.hid i7
        have E7 := Lib.hid e7
        clear i7 e7
        gi_wp2
        refine ⟨(Ret.keeps_below K7.out).from _, Kf.of_below K7.out hb'.out.size, ⟨I7.out, E7.out⟩, ?_, B7.out⟩
        intro y hy
        rcases List.mem_append.1 hy with hy | hy
        · exact HP.out y hy
        · rw [List.mem_singleton.1 hy]; exact HX.out.trans hrt.out
      | false =>
        have hxe : x = 8 := by have h := hrt.out; simpa using h
        have hq := Lib.hid (HT.out (by rw [hxe]; decide))
        have xI := i7.cell
        have fI := i7.frozen
        have xE := e7.cell
        have fE := e7.frozen
        have a5 := GIE.out
        have a6 : gE ≠ gI := a5.symm
        have I7 := Lib.hid i7
        have E7 := Lib.hid e7
        clear i7 e7
        gi_wp2
        refine ⟨((Ret.keeps_below K7.out).trans ((KeepsOthers.setCell _ _ _).trans (KeepsOthers.setCell _ _ _))).from _, ⟨rfl, ?_, ?_, ?_⟩, (B7.out.setCell (p := ⟨gI, 0, none⟩) gW0.out.1 _).setCell (p := ⟨gE, 0, none⟩) gW0.out.2 _⟩
        · rw [hq.out.1, hxe]; decide
        · rw [hq.out.2]
          exact Has.far (show Has _ _ _ _ from I7.out.set (nI pl)) (p := ⟨gE, 0, none⟩) GIE.out _
        · rw [hq.out.1, hxe]
          have hy : Boxed (U6.setCell ⟨gI, 0, none⟩ (nI pl)) gE 70 (.int .i64 0) := Has.far (show Has _ _ _ _ from E7.out) (p := ⟨gI, 0, none⟩) (Ne.symm GIE.out) _
          exact hy.set _
    · have d1 : ((m : Int) != 0) = true := by rw [bne_iff_ne]; omega
      have i7 : Boxed U1 gI 3 (nI sz) := Has.next (show Has _ _ _ _ from bI'.out) K1.out
      have e7 : Boxed U1 gE 70 (.int .i64 0) := Has.next (show Has _ _ _ _ from bE'.out) K1.out
      have K7 := K1
      have B7 := Lib.hid (Below.after hb'.out K1.out)
      clear K1 q2 q3 wl wr lk
      have hxe : x = 140 := by have h := hrt.out; rw [if_pos h0] at h; exact h
      have hq := Lib.hid (HT.out (by rw [hxe]; decide))
      have xI := i7.cell
      have fI := i7.frozen
      have xE := e7.cell
      have fE := e7.frozen
      have a5 := GIE.out
      have a6 : gE ≠ gI := a5.symm
      have I7 := Lib.hid i7
      have E7 := Lib.hid e7
      clear i7 e7
      gi_wp2
      refine ⟨((Ret.keeps_below K7.out).trans ((KeepsOthers.setCell _ _ _).trans (KeepsOthers.setCell _ _ _))).from _, ⟨rfl, ?_, ?_, ?_⟩, (B7.out.setCell (p := ⟨gI, 0, none⟩) gW0.out.1 _).setCell (p := ⟨gE, 0, none⟩) gW0.out.2 _⟩
      · rw [hq.out.1, hxe]; decide
      · rw [hq.out.2]
        exact Has.far (show Has _ _ _ _ from I7.out.set (nI pl)) (p := ⟨gE, 0, none⟩) GIE.out _
      · rw [hq.out.1, hxe]
        have hy : Boxed (U1.setCell ⟨gI, 0, none⟩ (nI pl)) gE 70 (.int .i64 0) := Has.far (show Has _ _ _ _ from E7.out) (p := ⟨gI, 0, none⟩) (Ne.symm GIE.out) _
        exact hy.set _
  case done =>
    rintro D xs U hD hxs ⟨⟨bI, bE⟩, hp, hb⟩ hK
    have k1 := Lib.hid (hxs hp)
    have k2 := Lib.hid (hall.out k1.out)
    have xI := bI.cell
    have fI := bI.frozen
    have xE := bE.cell
    have fE := bE.frozen
    have sI := Ret.set_same bI
    have sE := Ret.set_same bE
    have hz2 : Has (U.drew.putObj D (.deferred none)) gI 3 #[nI sz] := has_turned (B := 0) (show Has U.drew gI _ _ from bI) (grownBy_putObj' U.drew D _) (fun r e => by cases e; exact ⟨Nat.zero_le _, _, hK, rfl⟩)
    have hy2 : Has (U.drew.putObj D (.deferred none)) gE 70 #[.int .i64 0] := has_turned (B := 0) (show Has U.drew gE _ _ from bE) (grownBy_putObj' U.drew D _) (fun r e => by cases e; exact ⟨Nat.zero_le _, _, hK, rfl⟩)
    have HZ := Lib.hid hz2
    have HY := Lib.hid hy2
    have HB := Lib.hid hb
    have HK := Lib.hid hK
    clear hxs hp hz2 hy2 hb hK bI bE cT cH cW
    go_wp2_with fail
    go_region
    go_wp2_with fail
    dsimp only [Exit.noGoto]
    refine ⟨by simp, .inl ⟨_, _, rfl, run_takeDeferred (w := U.drew) HK.out, ?_⟩⟩
    exact ⟨_, Ret.two rfl _ _ gI gE _ _ rfl rfl (Ret.load_int _ _ _ (HZ.out.cell 0)) (Ret.load_errno _ _ _ (HY.out.cell 0)), by rw [k1.out, k2.out]; rfl, HB.out.drew.trans (belowK_b (w := w) (Nat.le_refl _) U.drew D _ _ (by have := hB5.size; omega) HK.out rfl rfl)⟩
  case stop =>
    rintro D c pre U hD ⟨⟨rfl, hne, bI, bE⟩, hb⟩ hK
    obtain ⟨q1, hq1⟩ : ∃ x, placeF rootW t = x := ⟨_, rfl⟩
    obtain ⟨q2, hq2⟩ : ∃ x, errF rootW t = x := ⟨_, rfl⟩
    rw [hq1] at bI
    rw [hq2] at bE hne
    have HQ1 := Lib.hid hq1
    have HQ2 := Lib.hid hq2
    have d1 : ((q2 : Int) != 0) = true := by rw [bne_iff_ne]; omega
    have xE := bE.cell
    have BI := Lib.hid bI
    have BE := Lib.hid bE
    have HB := Lib.hid hb
    have HK := Lib.hid hK
    clear bI bE hb hK hall hq1 hq2 hne
    gi_wp2
    go_wp2_with fail
    refine (cT.out U HB.out).mono ?_
    rintro e U1 ⟨rfl, hb1⟩
    have B1 := Lib.hid (Below.after HB.out hb1)
    have K1 := Lib.hid hb1
    clear hb1 cT xE
    by_cases h0 : g = 0
    · subst h0
      go_wp2_with fail
      refine (cH.out U1 B1.out).mono ?_
      rintro e U2 ⟨rfl, hb2⟩
      have B2 := Lib.hid (Below.after B1.out hb2)
      have K2 := Lib.hid (Below.after K1.out hb2)
      clear hb2 cH B1 K1
      have bI : Boxed U2 gI 3 (nI q1) := Has.next (show Has _ _ _ _ from BI.out) K2.out
      have bE : Boxed U2 gE 70 (nI q2) := Has.next (show Has _ _ _ _ from BE.out) K2.out
      have hK : U2.heap[D]? = some (.deferred (some [])) := (K2.out.block D (Array.getElem?_eq_some_iff.1 HK.out).1).trans HK.out
      have xI := bI.cell
      have fI := bI.frozen
      have xE := bE.cell
      have fE := bE.frozen
      have sI := Ret.set_same bI
      have sE := Ret.set_same bE
      have hz2 : Has (U2.drew.putObj D (.deferred none)) gI 3 #[nI q1] := has_turned (B := 0) (show Has U2.drew gI _ _ from bI) (grownBy_putObj' U2.drew D _) (fun r e => by cases e; exact ⟨Nat.zero_le _, _, hK, rfl⟩)
      have hy2 : Has (U2.drew.putObj D (.deferred none)) gE 70 #[nI q2] := has_turned (B := 0) (show Has U2.drew gE _ _ from bE) (grownBy_putObj' U2.drew D _) (fun r e => by cases e; exact ⟨Nat.zero_le _, _, hK, rfl⟩)
      have HZ := Lib.hid hz2
      have HY := Lib.hid hy2
      have HK2 := Lib.hid hK
      clear hz2 hy2 hK bI bE
      go_wp2_with fail
      go_region
      go_wp2_with fail
      dsimp only [Exit.noGoto]
      refine ⟨by simp, .inl ⟨_, _, rfl, run_takeDeferred (w := U2.drew) HK2.out, ?_⟩⟩
      exact ⟨_, Ret.two rfl _ _ gI gE _ _ rfl rfl (Ret.load_int _ _ _ (HZ.out.cell 0)) (Ret.load_errno _ _ _ (HY.out.cell 0)), by rw [HQ1.out, HQ2.out]; rfl, B2.out.drew.trans (belowK_b (w := w) (Nat.le_refl _) U2.drew D _ _ (by have := hB5.size; omega) HK2.out rfl rfl)⟩
    · have d2 : ((g : Int) == 0) = false := by rw [beq_eq_false_iff_ne]; omega
      clear cH
      have bI : Boxed U1 gI 3 (nI q1) := Has.next (show Has _ _ _ _ from BI.out) K1.out
      have bE : Boxed U1 gE 70 (nI q2) := Has.next (show Has _ _ _ _ from BE.out) K1.out
      have hK : U1.heap[D]? = some (.deferred (some [])) := (K1.out.block D (Array.getElem?_eq_some_iff.1 HK.out).1).trans HK.out
      have xI := bI.cell
      have fI := bI.frozen
      have xE := bE.cell
      have fE := bE.frozen
      have sI := Ret.set_same bI
      have sE := Ret.set_same bE
      have hz2 : Has (U1.drew.putObj D (.deferred none)) gI 3 #[nI q1] := has_turned (B := 0) (show Has U1.drew gI _ _ from bI) (grownBy_putObj' U1.drew D _) (fun r e => by cases e; exact ⟨Nat.zero_le _, _, hK, rfl⟩)
      have hy2 : Has (U1.drew.putObj D (.deferred none)) gE 70 #[nI q2] := has_turned (B := 0) (show Has U1.drew gE _ _ from bE) (grownBy_putObj' U1.drew D _) (fun r e => by cases e; exact ⟨Nat.zero_le _, _, hK, rfl⟩)
      have HZ := Lib.hid hz2
      have HY := Lib.hid hy2
      have HK2 := Lib.hid hK
      clear hz2 hy2 hK bI bE
      go_wp2_with fail
      go_region
      go_wp2_with fail
      dsimp only [Exit.noGoto]
      refine ⟨by simp, .inl ⟨_, _, rfl, run_takeDeferred (w := U1.drew) HK2.out, ?_⟩⟩
      exact ⟨_, Ret.two rfl _ _ gI gE _ _ rfl rfl (Ret.load_int _ _ _ (HZ.out.cell 0)) (Ret.load_errno _ _ _ (HY.out.cell 0)), by rw [HQ1.out, HQ2.out]; rfl, B1.out.drew.trans (belowK_b (w := w) (Nat.le_refl _) U1.drew D _ _ (by have := hB5.size; omega) HK2.out rfl rfl)⟩
end Go.Proofs.Ytfbmpgffekhmhaa
namespace Go.Proofs.Ytfbmpgffekhmhaa
open Go.RowKit Go.Proofs.Treem
set_option maxRecDepth 100000
variable {Nd : NdP}

theorem nat_eq18 (x : Nat) : ((x : Int) == 0) = (x == 0) := by
  by_cases h : x = 0
  · rw [h]; rfl
  · rw [beq_eq_false_iff_ne.2 h, beq_eq_false_iff_ne]; omega
theorem wbMay_any (hN : NodeSays Nd) (w : World) (t : Tr) (p : Option Addr) (ht : TreeAt Nd w w.heap.size t p) (h5 : t.size ≤ 5000) : Calls Try.prog 19 #[.pointer p] w fun e w' => e = .returned (.bool (mayW t)) ∧ Below w.heap.size w w' := by
  rw [mayW, ← nat_eq18]
  have c1 := Lib.hid (wbCheck_any hN w t p ht h5)
  obtain ⟨f, hf⟩ : ∃ x, errF rootW t = x := ⟨_, rfl⟩
  obtain ⟨x, hx⟩ : ∃ x, placeF rootW t = x := ⟨_, rfl⟩
  rw [hf, hx] at c1
  rw [hf]
  clear hf hx ht hN h5
  go_enter Try.func19, Try.ntmps19
  go_wp2_with fail
  refine c1.out.mono ?_
  rintro e w1 ⟨rfl, hb⟩
  have b1 := Lib.hid hb
  clear hb c1
  go_wp2
  go_ret
  exact ⟨rfl, b1.out⟩
theorem wb_says (hN : NodeSays Nd) : WbSays Nd where
  make := fun w L R k v hl hr => wbMake_any hN w L R k v hl hr
  like := fun w a b a0 a1 b0 b1 => wbLike_any w a b a0 a1 b0 b1
  weight := fun w t p ht h5 => wbWeight_any hN w t p ht h5
  check := fun w t p ht h5 => wbCheck_any hN w t p ht h5
  may := fun w t p ht h5 => wbMay_any hN w t p ht h5
  rank := fun w t p ht h5 => wbRank_any hN w t p ht h5
end Go.Proofs.Ytfbmpgffekhmhaa
