/- Package avl, as landed: Check, by what its two closures say of a node. -/
import Derived.Test.YtifhnaelkjfmdaaSOnce
import Derived.Test.YtifhnaelkjfmdaaS14Leaf
import Derived.BigRegionIn
import Derived.LoopNIn
import Derived.LoopIn
import Derived.Laws.EntriesVeiled
namespace Go.Proofs.Ytifhnaelkjfmdaa
open Go.RowKit Go.Shelf Go.Proofs.Treem
attribute [local go_sem] Oper.semAt_some
set_option maxRecDepth 100000
variable {Nd : NdP}

theorem results14 {P : Program} {fn : Func} {p q : Tmp} {t u : TypeId} (h : fn.results = #[.cell p t, .cell q u]) (tmps : Array Value) (w : World) (gp gq : Nat) (x y : Value)
    (hp : tmps.getD p undef = .pointer (some ⟨gp, 0, none⟩)) (hq : tmps.getD q undef = .pointer (some ⟨gq, 0, none⟩)) (lp : (loadVar t ⟨gp, 0, none⟩).run P w = .ok x w) (lq : (loadVar u ⟨gq, 0, none⟩).run P w = .ok y w) :
    (results fn tmps).run P w = .ok (.tuple #[x, y]) w := by
  have hp' : tmps[p]?.getD undef = .pointer (some ⟨gp, 0, none⟩) := by simpa using hp
  have hq' : tmps[q]?.getD undef = .pointer (some ⟨gq, 0, none⟩) := by simpa using hq
  simp [results, h, hp', hq', asAddr, Sem.run_bind, Result.andThen, lp, lq]
/-- a store of what lies there changes nothing -/
theorem set_same14 {W : World} {g : Nat} {t : TypeId} {v : Value} (h : Boxed W g t v) : W.setCell ⟨g, 0, none⟩ v = W := by
  have h0 : W.heap[g]? = some (.cells #[v] t (0, 0)) := h
  obtain ⟨hlt, hg⟩ := Array.getElem?_eq_some_iff.1 h0
  have : (W.setCell ⟨g, 0, none⟩ v).heap = W.heap := by
    apply Array.ext_getElem?
    intro i
    simp only [World.setCell, Array.getElem?_modify]
    by_cases e : g = i
    · subst e
      rw [if_pos rfl, h0]
      simp
    · rw [if_neg e]
  cases W
  simp only [World.setCell] at this ⊢
  rw [this]
theorem load_int14 (w : World) (a : Addr) (x : Value) (h : w.cell? a = some x) : (loadVar 3 a).run Try.prog w = .ok x w := by
  simp [loadVar, h]
theorem load_errno14 (w : World) (a : Addr) (x : Value) (h : w.cell? a = some x) : (loadVar 27 a).run Try.prog w = .ok x w := by
  simp [loadVar, h]
theorem keeps_below14 {W W' : World} (h : Below W.heap.size W W') : KeepsOthers W W' := ⟨h.size, fun k _ hk _ => (h.block k (Array.getElem?_eq_some_iff.1 hk).1).trans hk⟩
theorem keeps_drew14 (W : World) : KeepsOthers W W.drew := ⟨Nat.le_refl _, fun _ _ h _ => h⟩
/-- what is asked of a node, in order -/
abbrev wants14 : List Value := [.func (.func 103) #[] #[], .int .i64 140, .func (.func 105) #[] #[], .int .i64 8]
theorem wants_any (w : World) : Calls Try.prog 81 #[] w fun e w' => e = .returned (.slice (some ⟨w.heap.size, 0, none⟩) 2 2) ∧ w.alloc (.cells #[.func (.func 103) #[] #[], .int .i64 140, .func (.func 105) #[] #[], .int .i64 8] 81) = w' := by
  go_enter Try.func81, Try.ntmps81
  go_wp2
  go_ret
  exact ⟨rfl, rfl⟩

set_option maxHeartbeats 8000000 in
theorem check14_any (hN : NodeSays Nd) (f : Tr → Nat) (m1 m2 : Tr → Bool)
    (c1 : ∀ (W : World) (t : Tr) (p : Option Addr), TreeAt Nd W W.heap.size t p → Calls Try.prog 103 #[.pointer p] W fun e w' => e = .returned (.bool (m1 t)) ∧ Below W.heap.size W w')
    (c2 : ∀ (W : World) (t : Tr) (p : Option Addr), TreeAt Nd W W.heap.size t p → Calls Try.prog 105 #[.pointer p] W fun e w' => e = .returned (.bool (m2 t)) ∧ Below W.heap.size W w')
    (hf : ∀ l k v g r, f (.n l k v g r) = if m1 (.n l k v g r) = true then 140 else if m2 (.n l k v g r) = true then 8 else 0)
    (w : World) (t : Tr) (p : Option Addr) (ht : TreeAt Nd w w.heap.size t p) (h5 : t.size ≤ 5000) : Calls Try.prog 35 #[.pointer p] w fun e w' => e = .returned (.tuple #[nI (placeF f t), nI (errF f t)]) ∧ Below w.heap.size w w' := by
  obtain ⟨gI, hgI⟩ : ∃ g, w.heap.size = g := ⟨_, rfl⟩
  obtain ⟨gE, hgE⟩ : ∃ g, w.heap.size + 1 = g := ⟨_, rfl⟩
  obtain ⟨Wa, hWa⟩ : ∃ W, (w.alloc (.cells #[.int .i64 0] 3)).alloc (.cells #[.int .i64 0] 27) = W := ⟨_, rfl⟩
  have bI : Boxed Wa gI 3 (.int .i64 0) := hgI ▸ hWa ▸ (Boxed.new w _ _).alloc _
  have bE : Boxed Wa gE 27 (.int .i64 0) := by
    have := Boxed.new (w.alloc (.cells #[.int .i64 0] 3)) 27 (.int .i64 0)
    rw [World.size_alloc, hgE, hWa] at this
    exact this
  have ba : Below w.heap.size w Wa := hWa ▸ ((Below.refl _ w).alloc (Nat.le_refl _) _).alloc (by simp) _
  have cZ : Hid (Calls Try.prog 46 #[.pointer p] Wa fun e w' => e = .returned (nI t.size) ∧ Below Wa.heap.size Wa w') := size_any14 hN (ht.after hN ba) h5
  have cS : Hid (∀ (gT : Nat) (W : World), Below w.heap.size w W → Boxed W gT 25 (.pointer p) → ∀ n, SeqTurns mine14 Fence.wide n Try.prog 102 #[.pointer (some ⟨gT, 0, none⟩)] (fun x : It14 => #[nI x.1, .pointer (some x.2.2)]) (Kf none14 w.heap.size) (Told14 Nd f t w) (fun xs => (∀ y ∈ xs, f y.2.1 = 0) → errF f t = 0) W) :=
    fun gT W hb h2 n => once_turns hN w f t p ht h5 gT W hb h2 n
  obtain ⟨sz, hsz⟩ : ∃ s, t.size = s := ⟨_, rfl⟩
  have hall : Hid (errF f t = 0 → placeF f t = sz) := fun h => hsz ▸ placeF_all t h
  rw [hsz] at cZ
  have C1 := Lib.hid c1
  have C2 := Lib.hid c2
  have HF := Lib.hid hf
  have HWa := Lib.hid hWa
  have HI := Lib.hid hgI
  have HE := Lib.hid hgE
  have ba' := Lib.hid ba
  have bI' := Lib.hid bI
  have bE' := Lib.hid bE
  have hN' := Lib.hid hN
  clear hWa hgI hgE ba bI bE hN ht h5 c1 c2 hf hsz
  refine (callsIn_wide (n := 9)).1 ?_
  refine callsIn_of_wp_marks Try.func35 rfl trivial ?_ rfl
  simp only [Try.ntmps35, List.size_toArray, List.length_cons, List.length_nil, Nat.reduceAdd, Nat.reduceSub, Array.replicate_succ, Array.replicate_zero, List.push_toArray, List.append_toArray, List.nil_append, List.cons_append]
  refine wpIn_wide.2 ?_
  go_upto_region 1 with (fail)
  rw [HWa.out, HE.out, HI.out]
  go_step3
  go_wp2_with fail
  refine cZ.out.mono ?_
  rintro e W1 ⟨rfl, hb⟩
  have b1 := Lib.hid (Below.after ba'.out hb)
  have i1 : Boxed W1 gI 3 (.int .i64 0) := Has.next (show Has _ _ _ _ from bI'.out) hb
  have e1 : Boxed W1 gE 27 (.int .i64 0) := Has.next (show Has _ _ _ _ from bE'.out) hb
  have gIE : gI ≠ gE := by have := HI.out; have := HE.out; omega
  have xI := i1.cell
  have fI := i1.frozen
  obtain ⟨W2, hW2⟩ : ∃ W, W1.setCell ⟨gI, 0, none⟩ (nI sz) = W := ⟨_, rfl⟩
  have i2 : Boxed W2 gI 3 (nI sz) := hW2 ▸ i1.set _
  have e2 : Boxed W2 gE 27 (.int .i64 0) := hW2 ▸ Has.far (show Has _ _ _ _ from e1) (p := ⟨gI, 0, none⟩) (Ne.symm gIE) _
  have b2 : Below w.heap.size w W2 := hW2 ▸ b1.out.setCell (p := ⟨gI, 0, none⟩) (by have := HI.out; show w.heap.size ≤ gI; omega) _
  have I2 := Lib.hid i2
  have E2 := Lib.hid e2
  have B2 := Lib.hid b2
  have HW2 := Lib.hid hW2
  have GIE := Lib.hid gIE
  clear hb i1 e1 bI' bE' cZ b1 i2 e2 b2 hW2 gIE
  go_upto_region 2 with (fail)
  rw [HW2.out]
  clear xI fI
  go_wp2_with fail
  refine (wants_any W2).mono ?_
  rintro e W3 ⟨rfl, hW3⟩
  obtain ⟨gW, hgW⟩ : ∃ g, W2.heap.size = g := ⟨_, rfl⟩
  rw [hgW]
  have w3 : Has W3 gW 81 #[.func (.func 103) #[] #[], .int .i64 140, .func (.func 105) #[] #[], .int .i64 8] := hgW ▸ hW3 ▸ Has.new W2 _ _
  have b23 : Below W2.heap.size W2 W3 := hW3 ▸ (Below.refl _ W2).alloc (Nat.le_refl _) _
  obtain ⟨gA, hgA⟩ : ∃ g, W3.heap.size = g := ⟨_, rfl⟩
  obtain ⟨W4, hW4⟩ : ∃ W, W3.alloc (.cells #[.slice (some ⟨gW, 0, none⟩) 2 2] 78) = W := ⟨_, rfl⟩
  have b34 : Below W3.heap.size W3 W4 := hW4 ▸ (Below.refl _ W3).alloc (Nat.le_refl _) _
  have b24 := Below.after b23 b34
  have a4 : Boxed W4 gA 78 (.slice (some ⟨gW, 0, none⟩) 2 2) := hgA ▸ hW4 ▸ Boxed.new W3 _ _
  have I4 : Hid (Boxed W4 gI 3 (nI sz)) := Has.next (show Has _ _ _ _ from I2.out) b24
  have E4 : Hid (Boxed W4 gE 27 (.int .i64 0)) := Has.next (show Has _ _ _ _ from E2.out) b24
  have A4 := Lib.hid a4
  have V4 := Lib.hid (Has.next w3 b34)
  have B4 := Lib.hid (Below.after B2.out b24)
  have HW4 := Lib.hid hW4
  have HA := Lib.hid hgA
  clear hW3 hgW hgA hW4 b23 b34 b24 w3 a4 I2 E2 B2 HW2
  go_upto_region 3 with (fail)
  rw [HW4.out, HA.out]
  go_wp2_with fail
  go_step3
  go_wp2_with fail
  refine (once_any p W4).mono ?_
  rintro e W5 ⟨rfl, hW5⟩
  obtain ⟨gT, hgT⟩ : ∃ g, W4.heap.size = g := ⟨_, rfl⟩
  rw [hgT]
  have bN : Below W4.heap.size W4 W5 := hW5 ▸ (Below.refl _ W4).alloc (Nat.le_refl _) _
  have bT : Boxed W5 gT 25 (.pointer p) := hgT ▸ hW5 ▸ Boxed.new W4 _ _
  have i5 : Boxed W5 gI 3 (nI sz) := Has.next (show Has _ _ _ _ from I4.out) bN
  have e5 : Boxed W5 gE 27 (.int .i64 0) := Has.next (show Has _ _ _ _ from E4.out) bN
  have a5 : Boxed W5 gA 78 (.slice (some ⟨gW, 0, none⟩) 2 2) := Has.next (show Has _ _ _ _ from A4.out) bN
  have v5 := Has.next V4.out bN
  have hB5 : Below w.heap.size w W5 := Below.after B4.out bN
  have hseq := cS.out gT W5 hB5 bT
  clear hW5 hgT bN bT I4 E4 A4 V4 B4 cS HW4 HA
  go_wp2_with fail
  refine (wpIn_wide (n := 9)).1 ?_
  refine wpIn_rangeFunc_turns (α := It14) rfl (by omega) (gf := 102) (lb := #[.pointer (some ⟨gT, 0, none⟩)]) rfl trivial (enters_of Try.func102 (by kernel_rfl) rfl)
    (hseq _) Kf.trans (Kf.put hB5.size) (Below.refl _ _) (fun _ => rfl)
    (fun pre W => ((Boxed W gI 3 (nI sz) ∧ Boxed W gE 27 (.int .i64 0)) ∧ (Boxed W gA 78 (.slice (some ⟨gW, 0, none⟩) 2 2) ∧ Has W gW 81 wants14.toArray)) ∧ (∀ y ∈ pre, f y.2.1 = 0) ∧ Below w.heap.size w W)
    (fun c _ W => (c = .exit 0 ∧ Boxed W gI 3 (nI (placeF f t)) ∧ Boxed W gE 27 (nI (errF f t))) ∧ Below w.heap.size w W)
    (Abide.and (Abide.and (Abide.and (Abide.boxed _ _ _ (.inl rfl)) (Abide.boxed _ _ _ (.inl rfl))) (Abide.and (Abide.boxed _ _ _ (.inl rfl)) (fun s X Y hs ht => ht.keep _ _ hs (.inr ⟨_, _, _, rfl, rfl⟩)))) (Abide.and (fun _ _ _ h _ => h) (Abide.below hB5.size (Nat.le_refl _))))
    (fun c => Abide.and (fun s X Y hs ht => by obtain ⟨h1, h5, h6⟩ := hs; exact ⟨h1, ht.boxed h5 (.inl rfl), ht.boxed h6 (.inl rfl)⟩) (Abide.below hB5.size (Nat.le_refl _)))
    ⟨⟨⟨i5, e5⟩, a5, v5⟩, (fun y hy => by cases hy), hB5⟩
    (fun pre y a' W => TreeAt Nd w w.heap.size y.2.1 (some y.2.2) ∧ y.1 ≤ 5000 ∧ ((∀ y ∈ pre, f y.2.1 = 0) → f y.2.1 ≠ 0 → errF f t = f y.2.1 ∧ placeF f t = y.1) ∧ a' = { tmps := #[.pointer p, undef, .pointer (some ⟨gI, 0, none⟩), .pointer (some ⟨gE, 0, none⟩), .pointer (some ⟨gA, 0, none⟩), nI y.1, .pointer (some y.2.2), undef, undef, .pointer p, nI sz, .slice (some ⟨gW, 0, none⟩) 2 2, .pointer p, .func (.func 102) #[] #[.pointer (some ⟨gT, 0, none⟩)], nI y.1, .pointer (some y.2.2), undef, undef, undef, undef, undef, undef, undef, undef, undef, undef, undef, undef, undef, undef, undef, undef], defers := [] })
    (fun pre y a' _ X Y row hs hg hr => hs)
    ?assign ?body ?done ?stop
  case assign =>
    rintro L pre ⟨pl, tn, a⟩ U KK hI ⟨h1, h2, h3, h4⟩ hK
    have hK2 := Lib.hid (hK { tmps := #[.pointer p, undef, .pointer (some ⟨gI, 0, none⟩), .pointer (some ⟨gE, 0, none⟩), .pointer (some ⟨gA, 0, none⟩), nI pl, .pointer (some a), undef, undef, .pointer p, nI sz, .slice (some ⟨gW, 0, none⟩) 2 2, .pointer p, .func (.func 102) #[] #[.pointer (some ⟨gT, 0, none⟩)], nI pl, .pointer (some a), undef, undef, undef, undef, undef, undef, undef, undef, undef, undef, undef, undef, undef, undef, undef, undef], defers := [] } U ((KeepsOthers.refl _).from _) (Kf.refl _ _ U) hI ⟨h1, Nat.le_trans (Nat.le_add_right _ _) h3, h4, rfl⟩)
    clear hK hI h1 h2 h3 h4
    gi_wp2
    exact hK2.out
  case body =>
    rintro L pre ⟨pl, tn, a⟩ a' U hL _ ⟨⟨⟨bI, bE⟩, bA, bV⟩, hp, hb⟩ ⟨h1, h2, h3, rfl⟩
    have t0 := h1.after hN'.out hb
    have q1 := Lib.hid (fun V (h : Below U.heap.size U V) => C1.out V tn (some a) (t0.after hN'.out h))
    have q2 := Lib.hid (fun V (h : Below U.heap.size U V) => C2.out V tn (some a) (t0.after hN'.out h))
    have hfr : f tn = if m1 tn = true then 140 else if m2 tn = true then 8 else 0 := by
      cases tn with
      | e => cases h1
      | n l k v g r => exact HF.out l k v g r
    have hft := h3 hp
    obtain ⟨x1, hx1⟩ : ∃ b, m1 tn = b := ⟨_, rfl⟩
    obtain ⟨x2, hx2⟩ : ∃ b, m2 tn = b := ⟨_, rfl⟩
    rw [hx1] at q1
    rw [hx2] at q2
    rw [hx1, hx2] at hfr
    have HR := Lib.hid hfr
    have HT := Lib.hid hft
    have HP := Lib.hid hp
    have xA := bA.cell
    have bI' := Lib.hid bI
    have bE' := Lib.hid bE
    have bA' := Lib.hid bA
    have bV' := Lib.hid bV
    have hb' := Lib.hid hb
    have h2' := Lib.hid h2
    have gW0 : Hid (w.heap.size ≤ gI ∧ w.heap.size ≤ gE) := ⟨by have := HI.out; omega, by have := HE.out; omega⟩
    clear t0 hfr hft hp bI bE bA bV hb h1 h2 h3 hx1 hx2
    gi_wp2
    gi_loopw [18] (fun i wr => ((i = .int .i64 0) ∨ (i = .int .i64 1 ∧ x1 = false) ∨ (i = .int .i64 2 ∧ x1 = false ∧ x2 = false)) ∧ Below U.heap.size U wr) (fun i _ => 2 - (intOf i).toNat)
    case atStart => exact ⟨.inl rfl, Below.refl _ _⟩
    case round =>
      obtain ⟨hc, hbr⟩ := hrel
      have b0 := Lib.hid hbr
      have v0 := bV'.out.next hbr
      have y0 := v0.cell 0
      have y1 := v0.cell 1
      have y2 := v0.cell 2
      have y3 := v0.cell 3
      simp only [List.getElem?_toArray, List.getElem?_cons_zero, List.getElem?_cons_succ] at y0 y1 y2 y3
      clear hbr v0 xA
      rcases hc with rfl | ⟨rfl, rfl⟩ | ⟨rfl, rfl, rfl⟩
      · gi_wp2
        obtain ⟨gw, hgw⟩ : ∃ g, wr.heap.size = g := ⟨_, rfl⟩
        obtain ⟨W6, hW6⟩ : ∃ W, wr.alloc (.cells #[.func (.func 103) #[] #[], .int .i64 140] 81) = W := ⟨_, rfl⟩
        have n6 : Has W6 gw 81 #[.func (.func 103) #[] #[], .int .i64 140] := hgw ▸ hW6 ▸ Has.new wr _ _
        have b6 : Below U.heap.size U W6 := Below.after b0.out (hW6 ▸ (Below.refl _ wr).alloc (Nat.le_refl _) _)
        rw [hW6, hgw]
        have N6 := Lib.hid n6
        have B6 := Lib.hid b6
        clear hW6 n6 b6 y0 y1 y2 y3 hgw b0
        refine ⟨trivial, ?_⟩
        refine CallsIn.inRound L (callsIn_wide.2 ((q1.out W6 B6.out).mono ?_))
        rintro e U1 ⟨rfl, hb1⟩
        have n7 := N6.out.next hb1
        have b7 := Below.after B6.out hb1
        have B7 := Lib.hid b7
        clear B6 N6 hb1
        cases x1 with
        | true =>
          have i7 : Boxed U1 gI 3 (nI sz) := Has.next (show Has _ _ _ _ from bI'.out) b7
          have e7 : Boxed U1 gE 27 (.int .i64 0) := Has.next (show Has _ _ _ _ from bE'.out) b7
          have z0 := n7.cell 0
          have z1 := n7.cell 1
          simp only [List.getElem?_toArray, List.getElem?_cons_zero, List.getElem?_cons_succ] at z0 z1
          have xI := i7.cell
          have fI := i7.frozen
          have xE := e7.cell
          have fE := e7.frozen
          have a1 : gw ≠ gI := has_apart n7 (show Has _ _ _ _ from i7) (by decide)
          have a2 : gw ≠ gE := has_apart n7 (show Has _ _ _ _ from e7) (by decide)
          have a3 : gI ≠ gw := a1.symm
          have a4 : gE ≠ gw := a2.symm
          have a5 := GIE.out
          have a6 : gE ≠ gI := a5.symm
          have I7 := Lib.hid i7
          have E7 := Lib.hid e7
          clear i7 e7 b7 n7
          gi_wp2
          gi_region
          all_goals (
            gi_wp2
            have hfe : f tn = 140 := by have := HR.out; simpa using this
            have hq := HT.out (by rw [hfe]; decide)
            refine ⟨(((keeps_below14 B7.out).trans (KeepsOthers.setCell _ _ _)).trans ((KeepsOthers.setCell _ _ _).trans (keeps_drew14 _))).from _, ⟨rfl, ?_, ?_⟩, (((Below.after hb'.out B7.out).setCell (p := ⟨gI, 0, none⟩) gW0.out.1 _).setCell (p := ⟨gE, 0, none⟩) gW0.out.2 _).drew⟩
            · rw [hq.2]
              exact Has.far (show Has _ _ _ _ from I7.out.set (nI pl)) (p := ⟨gE, 0, none⟩) GIE.out _
            · rw [hq.1, hfe]
              have hy : Boxed (U1.setCell ⟨gI, 0, none⟩ (nI pl)) gE 27 (.int .i64 0) := Has.far (show Has _ _ _ _ from E7.out) (p := ⟨gI, 0, none⟩) (Ne.symm GIE.out) _
              exact hy.set _)
        | false =>
          clear b7 n7
          gi_wp2
          go_roundw
          case rel => exact ⟨.inr (.inl ⟨rfl, by simp⟩), B7.out⟩
          case measure => simp [intOf]
      · gi_wp2
        obtain ⟨gw, hgw⟩ : ∃ g, wr.heap.size = g := ⟨_, rfl⟩
        obtain ⟨W6, hW6⟩ : ∃ W, wr.alloc (.cells #[.func (.func 105) #[] #[], .int .i64 8] 81) = W := ⟨_, rfl⟩
        have n6 : Has W6 gw 81 #[.func (.func 105) #[] #[], .int .i64 8] := hgw ▸ hW6 ▸ Has.new wr _ _
        have b6 : Below U.heap.size U W6 := Below.after b0.out (hW6 ▸ (Below.refl _ wr).alloc (Nat.le_refl _) _)
        rw [hW6, hgw]
        have N6 := Lib.hid n6
        have B6 := Lib.hid b6
        clear hW6 n6 b6 y0 y1 y2 y3 hgw b0
        refine ⟨trivial, ?_⟩
        refine CallsIn.inRound L (callsIn_wide.2 ((q2.out W6 B6.out).mono ?_))
        rintro e U1 ⟨rfl, hb1⟩
        have n7 := N6.out.next hb1
        have b7 := Below.after B6.out hb1
        have B7 := Lib.hid b7
        clear B6 N6 hb1
        cases x2 with
        | true =>
          have i7 : Boxed U1 gI 3 (nI sz) := Has.next (show Has _ _ _ _ from bI'.out) b7
          have e7 : Boxed U1 gE 27 (.int .i64 0) := Has.next (show Has _ _ _ _ from bE'.out) b7
          have z0 := n7.cell 0
          have z1 := n7.cell 1
          simp only [List.getElem?_toArray, List.getElem?_cons_zero, List.getElem?_cons_succ] at z0 z1
          have xI := i7.cell
          have fI := i7.frozen
          have xE := e7.cell
          have fE := e7.frozen
          have a1 : gw ≠ gI := has_apart n7 (show Has _ _ _ _ from i7) (by decide)
          have a2 : gw ≠ gE := has_apart n7 (show Has _ _ _ _ from e7) (by decide)
          have a3 : gI ≠ gw := a1.symm
          have a4 : gE ≠ gw := a2.symm
          have a5 := GIE.out
          have a6 : gE ≠ gI := a5.symm
          have I7 := Lib.hid i7
          have E7 := Lib.hid e7
          clear i7 e7 b7 n7
          gi_wp2
          gi_region
          all_goals (
            gi_wp2
            have hfe : f tn = 8 := by have := HR.out; simpa using this
            have hq := HT.out (by rw [hfe]; decide)
            refine ⟨(((keeps_below14 B7.out).trans (KeepsOthers.setCell _ _ _)).trans ((KeepsOthers.setCell _ _ _).trans (keeps_drew14 _))).from _, ⟨rfl, ?_, ?_⟩, (((Below.after hb'.out B7.out).setCell (p := ⟨gI, 0, none⟩) gW0.out.1 _).setCell (p := ⟨gE, 0, none⟩) gW0.out.2 _).drew⟩
            · rw [hq.2]
              exact Has.far (show Has _ _ _ _ from I7.out.set (nI pl)) (p := ⟨gE, 0, none⟩) GIE.out _
            · rw [hq.1, hfe]
              have hy : Boxed (U1.setCell ⟨gI, 0, none⟩ (nI pl)) gE 27 (.int .i64 0) := Has.far (show Has _ _ _ _ from E7.out) (p := ⟨gI, 0, none⟩) (Ne.symm GIE.out) _
              exact hy.set _)
        | false =>
          clear b7 n7
          gi_wp2
          go_roundw
          case rel => exact ⟨.inr (.inr ⟨rfl, by simp, by simp⟩), B7.out⟩
          case measure => simp [intOf]
      · clear y0 y1 y2 y3
        gi_wp2
        have hfe : f tn = 0 := by have := HR.out; simpa using this
        refine ⟨(keeps_below14 b0.out).from _, Kf.of_below b0.out hb'.out.size, ⟨⟨Has.next (show Has _ _ _ _ from bI'.out) b0.out, Has.next (show Has _ _ _ _ from bE'.out) b0.out⟩, Has.next (show Has _ _ _ _ from bA'.out) b0.out, bV'.out.next b0.out⟩, ?_, Below.after hb'.out b0.out⟩
        intro y hy
        rcases List.mem_append.1 hy with hy | hy
        · exact HP.out y hy
        · rw [List.mem_singleton.1 hy]; exact hfe
  case done =>
    rintro D xs U hD hxs ⟨⟨⟨bI, bE⟩, -⟩, hp, hb⟩ hK
    have k1 := hxs hp
    have k2 := hall.out k1
    have xI := bI.cell
    have fI := bI.frozen
    have xE := bE.cell
    have fE := bE.frozen
    have sI := set_same14 bI
    have sE := set_same14 bE
    go_wp2_with fail
    go_region
    go_wp2_with fail
    dsimp only [Exit.noGoto]
    have hz : Has U gI 3 #[nI sz] := bI
    have hy : Has U gE 27 #[.int .i64 0] := bE
    have hz2 : Has (U.drew.putObj D (.deferred none)) gI 3 #[nI sz] := has_turned (B := 0) (show Has U.drew gI _ _ from hz) (grownBy_putObj' U.drew D _) (fun r e => by cases e; exact ⟨Nat.zero_le _, _, hK, rfl⟩)
    have hy2 : Has (U.drew.putObj D (.deferred none)) gE 27 #[.int .i64 0] := has_turned (B := 0) (show Has U.drew gE _ _ from hy) (grownBy_putObj' U.drew D _) (fun r e => by cases e; exact ⟨Nat.zero_le _, _, hK, rfl⟩)
    refine ⟨by simp, .inl ⟨_, _, rfl, run_takeDeferred (w := U.drew) hK, ?_⟩⟩
    exact ⟨_, results14 rfl _ _ gI gE _ _ rfl rfl (load_int14 _ _ _ (hz2.cell 0)) (load_errno14 _ _ _ (hy2.cell 0)), by rw [k1, k2]; rfl, hb.drew.trans (belowK_b (w := w) (Nat.le_refl _) U.drew D _ _ (by have := hB5.size; omega) hK rfl rfl)⟩
  case stop =>
    rintro D c pre U hD ⟨⟨rfl, bI, bE⟩, hb⟩ hK
    obtain ⟨q1, hq1⟩ : ∃ x, placeF f t = x := ⟨_, rfl⟩
    obtain ⟨q2, hq2⟩ : ∃ x, errF f t = x := ⟨_, rfl⟩
    rw [hq1] at bI
    rw [hq2] at bE
    have xI := bI.cell
    have fI := bI.frozen
    have xE := bE.cell
    have fE := bE.frozen
    have sI := set_same14 bI
    have sE := set_same14 bE
    gi_wp2
    go_wp2_with fail
    go_region
    go_wp2_with fail
    dsimp only [Exit.noGoto]
    have hz : Has U gI 3 #[nI q1] := bI
    have hy : Has U gE 27 #[nI q2] := bE
    have hz2 : Has (U.drew.putObj D (.deferred none)) gI 3 #[nI q1] := has_turned (B := 0) (show Has U.drew gI _ _ from hz) (grownBy_putObj' U.drew D _) (fun r e => by cases e; exact ⟨Nat.zero_le _, _, hK, rfl⟩)
    have hy2 : Has (U.drew.putObj D (.deferred none)) gE 27 #[nI q2] := has_turned (B := 0) (show Has U.drew gE _ _ from hy) (grownBy_putObj' U.drew D _) (fun r e => by cases e; exact ⟨Nat.zero_le _, _, hK, rfl⟩)
    refine ⟨by simp, .inl ⟨_, _, rfl, run_takeDeferred (w := U.drew) hK, ?_⟩⟩
    exact ⟨_, results14 rfl _ _ gI gE _ _ rfl rfl (load_int14 _ _ _ (hz2.cell 0)) (load_errno14 _ _ _ (hy2.cell 0)), by rw [hq1, hq2]; rfl, hb.drew.trans (belowK_b (w := w) (Nat.le_refl _) U.drew D _ _ (by have := hB5.size; omega) hK rfl rfl)⟩
end Go.Proofs.Ytifhnaelkjfmdaa
