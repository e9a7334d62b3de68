/- Layer 10, package look as it landed: Height, Deep, Has. -/
import Derived.Test.YtadncdcblckpjaaN10All
import Derived.WalkMore
import Derived.Deep.QuietTactic
import Derived.BigQuiet
namespace Go.Proofs.Ytadncdcblckpjaa
open Go.RowKit Go.Shelf Go.Proofs.Treem Go.Proofs.Rowm
attribute [local go_sem] Oper.semAt_some
set_option maxRecDepth 100000
variable {Nd : NdP}

theorem has_turned {gs : Nat} {t : TypeId} {cs : Array Value} {B : Nat} {X Y : World} {row : Option Nat} (h : Has X gs t cs) (hg : X.grownBy Y row) (hr : ∀ r, row = some r → B ≤ r ∧ ∃ o : Obj, X.heap[r]? = some o ∧ o.isCells = false) : Has Y gs t cs :=
  (hg.block gs h.lt (fun e => by obtain ⟨_, o, ho, hc⟩ := hr gs e.symm; rw [show X.heap[gs]? = _ from h] at ho; cases ho; cases hc)).trans h
set_option maxHeartbeats 4000000 in
theorem heightN (hN : NodeSays Nd) (w : World) (t : Tr) (p : Option Addr) (hT : TreeAt Nd w w.heap.size t p) (hl : t.size ≤ 1000) :
    Calls Try.prog 21 #[.pointer p] w fun e w' => e = .returned (nI t.high) ∧ Below w.heap.size w w' := by
  obtain ⟨T, rfl, hlies, rfl⟩ := AT.of_tree t p hT
  rw [AT.size_tr] at hl
  have hb0 : Below w.heap.size w (w.alloc (.cells #[nI 0] 3)) := (Below.refl _ _).alloc (Nat.le_refl _) _
  have c0 := Lib.hid (rightward_any (w.alloc (.cells #[nI 0] 3)))
  have c1 := Lib.hid (fun W (hb : Below w.heap.size w W) => spots_goes hN true _ _ (sides_right hN) T hl W w.heap.size hb.size (hlies.next hN hb))
  have bO0 := Boxed.new w 3 (nI 0)
  have hans : Hid (deepest (AT.spots true 1 T) = T.tr.high) := by
    have h := AT.spots_deepest T 0
    show _ = _
    rw [Nat.zero_add] at h
    rw [h]
    split
    · next e => exact e.symm
    · exact Nat.zero_add _
  have hdl : Hid (∀ x ∈ AT.spots true 1 T, x.deep ≤ 1001) := fun x hx => by have := deep_le true T 1 x hx; omega
  have hdl2 : Hid (∀ pre : List Sp, pre <+: AT.spots true 1 T → deepest pre ≤ 1001) := fun pre hp => by
    have h : ∀ (l : List Sp), (∀ x ∈ l, x.deep ≤ 1001) → deepest l ≤ 1001 := fun l => by
      induction l with
      | nil => intro _; decide
      | cons s l ih =>
        intro h
        have h1 := ih (fun x hx => h x (List.mem_cons_of_mem _ hx))
        have h2 := h s (List.mem_cons_self ..)
        rw [show s :: l = [s] ++ l from rfl, deepest_append, show deepest [s] = max 0 s.deep from rfl]
        omega
    exact h pre (fun x hx => by have := deep_le true T 1 x (hp.subset hx); omega)
  clear hT hN hlies hl
  refine (callsIn_wide (n := 9)).1 ?_
  refine callsIn_of_wp_marks Try.func21 rfl trivial ?_ rfl
  simp only [Try.ntmps21, List.size_toArray, List.length_cons, List.length_nil, Nat.reduceAdd, Nat.reduceSub, Array.replicate_succ, Array.replicate_zero, List.push_toArray, List.append_toArray, List.nil_append, List.cons_append]
  refine wpIn_wide.2 ?_
  go_wp2_with fail
  refine c0.out.mono ?_
  rintro e W1 ⟨rfl, hb⟩
  have b1 := Lib.hid (Below.after hb0 hb)
  have bO1 := boxed_below bO0 hb
  clear hb bO0 c0
  go_wp2_with fail
  refine (c1.out W1 b1.out).mono ?_
  rintro e W0 ⟨v, rfl, ⟨hB0, g, lb, rfl, hent, hseq⟩, hb⟩
  have hB1 : Below w.heap.size w W0 := Below.after b1.out hb
  have bO := boxed_below bO1 hb
  clear hb bO1 c1
  go_wp2_with fail
  refine (wpIn_wide (n := 9)).1 ?_
  refine wpIn_rangeFunc_runs rfl (by omega) (gf := g) (lb := lb) rfl trivial hent
    (hseq W0 (Below.refl _ _) _) Kt.trans (Kt.put (by omega)) (Below.refl _ _) (fun _ => rfl)
    (fun pre W => Boxed W w.heap.size 3 (nI (deepest pre)) ∧ Below w.heap.size w W)
    (fun _ _ _ => False)
    (Abide.and (Abide.boxed _ _ _ (.inl rfl)) (Abide.below hB0 (Nat.le_refl _)))
    (fun _ _ _ _ hs _ => hs)
    ⟨bO, hB1⟩
    (fun x a' V => ∃ gs, a' = { tmps := #[.pointer T.ptr, undef, .int .i64 0, .pointer (some ⟨w.heap.size, 0, none⟩), .pointer (some ⟨gs, 0, none⟩), wayV 38 39, .pointer T.ptr, .func (.func g) #[] lb, spotV (some x.a) x.deep, undef, undef, undef, undef, undef], defers := [] } ∧ Has V gs 67 #[.pointer (some x.a), nI x.deep])
    (fun x a' _ X Y row hs hg hr => let ⟨gs, h1, h2⟩ := hs; ⟨gs, h1, has_turned h2 hg hr⟩)
    ?assign ?body ?done ?stop
  case assign =>
    rintro L pre x V K ⟨hbx, hb⟩ hpx hK
    have hbn : Below V.heap.size V (V.alloc (.cells #[.pointer (some x.a), nI x.deep] 67)) := (Below.refl _ _).alloc (Nat.le_refl _) _
    have hK2 := Lib.hid (hK { tmps := #[.pointer T.ptr, undef, .int .i64 0, .pointer (some ⟨w.heap.size, 0, none⟩), .pointer (some ⟨V.heap.size, 0, none⟩), wayV 38 39, .pointer T.ptr, .func (.func g) #[] lb, spotV (some x.a) x.deep, undef, undef, undef, undef, undef], defers := [] } _ ((keeps_below hbn).from _) (Kt.of_below hbn hb.size) ⟨boxed_below hbx hbn, Below.after hb hbn⟩ ⟨_, rfl, Has.new V _ _⟩)
    clear hK hbx hb hbn
    gi_wp2
    exact hK2.out
  case body =>
    rintro L pre x a' V hL _ ⟨bx, hb⟩ ⟨gs, rfl, hsx⟩ hpx
    have cO := bx.cell
    have fO := bx.frozen
    have s1 := hsx.cell 1
    have h1 : x.deep ≤ 1001 := hdl.out x (by obtain ⟨r, hr⟩ := hpx; rw [← hr]; simp)
    have h2 : deepest pre ≤ 1001 := hdl2.out pre ((List.prefix_append pre [x]).trans hpx)
    have hsn := Lib.hid (deepest_snoc pre x)
    obtain ⟨m, hm⟩ : ∃ m, deepest pre = m := ⟨_, rfl⟩
    obtain ⟨y, hy⟩ : ∃ y, x.deep = y := ⟨_, rfl⟩
    rw [hm] at cO bx h2 hsn
    rw [hy] at s1 h1 hsn
    have hy' := Lib.hid hy
    clear hm hy hsx hpx
    have fin : ∀ z, deepest (pre ++ [x]) = z → ownPostG W0.heap.size (Kt w.heap.size) (fun pre W => Boxed W w.heap.size 3 (nI (deepest pre)) ∧ Below w.heap.size w W) (fun _ _ _ => False) (pre ++ [x]) V .normal { tmps := #[], defers := [] } (V.setCell ⟨w.heap.size, 0, none⟩ (nI z)) := fun z hz =>
      ⟨(KeepsOthers.setCell _ _ _).from _, Kt.store bx _ rfl (Nat.le_refl _), by rw [hz]; exact bx.set _, hb.setCell (p := ⟨w.heap.size, 0, none⟩) (Nat.le_refl _) _⟩
    have fin' := Lib.hid fin
    by_cases hxy : m < y
    · have e9 : Hid (deepest (pre ++ [x]) = y) := by show _ = _; rw [hsn.out]; omega
      clear fin hsn hb bx
      gi_wp2
      all_goals first
        | (exfalso; omega)
        | exact fin'.out _ e9.out
    · have e9 : Hid (deepest (pre ++ [x]) = m) := by show _ = _; rw [hsn.out]; omega
      clear fin hsn hb bx
      gi_wp2
      all_goals first
        | (exfalso; omega)
        | exact fin'.out _ e9.out
  case done =>
    rintro D W hD ⟨bO1, hB2⟩ hK
    rw [hans.out] at bO1
    have cO := bO1.cell
    go_wp2
    refine ⟨by simp, .inl ⟨_, _, rfl, run_takeDeferred hK, ?_⟩⟩
    exact ⟨_, results_tmp rfl _ _ _, rfl, hB2.trans (belowK_b (w := w) (Nat.le_refl _) W D _ _ (by have := hB1.size; omega) hK rfl rfl)⟩
  case stop =>
    rintro D c pre W _ _ h _
    exact h.elim
theorem find_here {l : List Sp} {q : List Sp} {s : Sp} {k : BitVec 64} (hp : q ++ [s] <+: l) (hq : ∀ x ∈ q, x.x.k ≠ k) (hs : s.x.k = k) : l.find? (fun s => decide (s.x.k = k)) = some s := by
  obtain ⟨r, rfl⟩ := hp
  rw [List.append_assoc, List.find?_append, List.find?_eq_none.2 (fun x hx => by simpa using hq x hx)]
  simp [hs]
theorem two_results {fn : Func} {u v : Tmp} (h : fn.results = #[.tmp u, .tmp v]) (tmps : Array Value) (P : Program) (w : World) : (results fn tmps).run P w = .ok (.tuple #[tmps.getD u undef, tmps.getD v undef]) w := by simp [results, h]
set_option maxHeartbeats 4000000 in
theorem deepN (hN : NodeSays Nd) (w : World) (t : Tr) (p : Option Addr) (key : BitVec 64) (hT : TreeAt Nd w w.heap.size t p) (hl : t.size ≤ 1000) :
    Calls Try.prog 10 #[.pointer p, K key] w fun e w' => e = .returned (.tuple #[nI (t.deep key), .bool (t.has key)]) ∧ Below w.heap.size w w' := by
  obtain ⟨T, rfl, hlies, rfl⟩ := AT.of_tree t p hT
  rw [AT.size_tr] at hl
  obtain ⟨sz, hsz⟩ : ∃ n, w.heap.size = n := ⟨_, rfl⟩
  obtain ⟨Wa, hWa⟩ : ∃ W, (w.alloc (.cells #[K key] 2)).alloc (.cells #[nI 0] 3) = W := ⟨_, rfl⟩
  have hb0 : Below w.heap.size w Wa := hWa ▸ ((Below.refl _ w).alloc (Nat.le_refl _) _).alloc (by simp) _
  have kb0 : Boxed Wa sz 2 (K key) := hWa ▸ hsz ▸ (Boxed.new w _ _).alloc _
  have bO0 : Boxed Wa (sz + 1) 3 (nI 0) := by
    have := Boxed.new (w.alloc (.cells #[K key] 2)) 3 (nI 0)
    rw [World.size_alloc, hsz] at this
    rw [← hWa]; exact this
  have c0 := Lib.hid (rightward_any Wa)
  have c1 := Lib.hid (fun W (hb : Below w.heap.size w W) => spots_goes hN true _ _ (sides_right hN) T hl W w.heap.size hb.size (hlies.next hN hb))
  have hN' := Lib.hid hN
  have hlies' := Lib.hid hlies
  have hyes : Hid (∀ q s, q ++ [s] <+: AT.spots true 1 T → (∀ x ∈ q, x.x.k ≠ key) → s.x.k = key → s.deep = T.tr.deep key ∧ T.tr.has key = true) := fun q s hp hq hs => by
    have h1 := find_here hp hq hs
    cases hh : T.tr.has key with
    | false => rw [AT.first_no T 1 key hh] at h1; cases h1
    | true =>
      obtain ⟨s', e1, e2⟩ := AT.first_yes T 0 key hh
      rw [h1] at e1
      cases e1
      exact ⟨by rw [e2]; omega, rfl⟩
  have hno : Hid ((∀ x ∈ AT.spots true 1 T, x.x.k ≠ key) → T.tr.has key = false) := fun h => by
    cases hh : T.tr.has key with
    | false => rfl
    | true =>
      obtain ⟨s', e1, e2⟩ := AT.first_yes T 0 key hh
      have h2 := List.mem_of_find?_eq_some e1
      have h3 := List.find?_some e1
      exact absurd (by simpa using h3) (h s' h2)
  have hdl : Hid (∀ x ∈ AT.spots true 1 T, 1 ≤ x.deep ∧ x.deep ≤ 1001) := fun x hx => ⟨deep_one true T 1 x hx, by have := deep_le true T 1 x hx; omega⟩
  have hd1 : Hid (T.tr.has key = true → 1 ≤ T.tr.deep key) := fun h => (deep_yes key T.tr h).1
  have hd0 : Hid (T.tr.has key = false → T.tr.deep key = 0) := fun h => deep_no key T.tr h
  have hsz' := Lib.hid hsz
  clear hT hN hlies hl
  refine (callsIn_wide (n := 9)).1 ?_
  refine callsIn_of_wp_marks Try.func10 rfl trivial ?_ rfl
  simp only [Try.ntmps10, List.size_toArray, List.length_cons, List.length_nil, Nat.reduceAdd, Nat.reduceSub, Array.replicate_succ, Array.replicate_zero, List.push_toArray, List.append_toArray, List.nil_append, List.cons_append]
  refine wpIn_wide.2 ?_
  go_wp2_with fail
  go_step3
  go_wp2_with fail
  go_step3
  go_wp2_with fail
  rw [show (w.alloc (.cells #[K key] 2)).alloc (.cells #[.int .i64 0] 3) = Wa from hWa]
  clear hWa
  refine c0.out.mono ?_
  rintro e W1 ⟨rfl, hb⟩
  have b1 := Lib.hid (Below.after hb0 hb)
  have bO1 := boxed_below bO0 hb
  have kb1 := boxed_below kb0 hb
  clear hb bO0 kb0 c0
  go_wp2_with fail
  refine (c1.out W1 b1.out).mono ?_
  rintro e W0 ⟨v, rfl, ⟨hB0, g, lb, rfl, hent, hseq⟩, hb⟩
  have hB1 : Below w.heap.size w W0 := Below.after b1.out hb
  have bO := boxed_below bO1 hb
  have kb := boxed_below kb1 hb
  clear hb bO1 kb1 c1
  go_wp2_with fail
  refine (wpIn_wide (n := 9)).1 ?_
  refine wpIn_rangeFunc_runs rfl (by omega) (gf := g) (lb := lb) rfl trivial hent
    (hseq W0 (Below.refl _ _) _) Kt.trans (Kt.put (by omega)) (Below.refl _ _) (fun _ => rfl)
    (fun pre W => (Boxed W (sz + 1) 3 (nI 0) ∧ Boxed W sz 2 (K key)) ∧ (∀ x ∈ pre, x.x.k ≠ key) ∧ Below w.heap.size w W)
    (fun c pre W => (c = .exit 0 ∧ ∃ q s, pre = q ++ [s] ∧ (∀ x ∈ q, x.x.k ≠ key) ∧ s.x.k = key ∧ Boxed W (sz + 1) 3 (nI s.deep)) ∧ Below w.heap.size w W)
    (Abide.and (Abide.and (Abide.boxed _ _ _ (.inl rfl)) (Abide.boxed _ _ _ (.inl rfl))) (Abide.and (fun _ _ _ h _ => h) (Abide.below hB0 (Nat.le_refl _))))
    (fun c => Abide.and (fun s X Y hs ht => by obtain ⟨h1, q, s, h2, h3, h4, h5⟩ := hs; exact ⟨h1, q, s, h2, h3, h4, ht.boxed h5 (.inl rfl)⟩) (Abide.below hB0 (Nat.le_refl _)))
    ⟨⟨bO, kb⟩, (fun _ h => by cases h), hB1⟩
    (fun x a' V => ∃ gs, a' = { tmps := #[.pointer T.ptr, K key, undef, .pointer (some ⟨sz, 0, none⟩), .int .i64 0, .bool false, .pointer (some ⟨sz + 1, 0, none⟩), .pointer (some ⟨gs, 0, none⟩), wayV 38 39, .pointer T.ptr, .func (.func g) #[] lb, spotV (some x.a) x.deep, undef, undef, undef, undef, undef, undef, undef, undef, undef, undef], defers := [] } ∧ Has V gs 67 #[.pointer (some x.a), nI x.deep])
    (fun x a' _ X Y row hs hg hr => let ⟨gs, h1, h2⟩ := hs; ⟨gs, h1, has_turned h2 hg hr⟩)
    ?assign ?body ?done ?stop
  case assign =>
    rintro L pre x V KK ⟨⟨hbx, hkx⟩, hp, hb⟩ hpx hK
    have hbn : Below V.heap.size V (V.alloc (.cells #[.pointer (some x.a), nI x.deep] 67)) := (Below.refl _ _).alloc (Nat.le_refl _) _
    have hK2 := Lib.hid (hK { tmps := #[.pointer T.ptr, K key, undef, .pointer (some ⟨sz, 0, none⟩), .int .i64 0, .bool false, .pointer (some ⟨sz + 1, 0, none⟩), .pointer (some ⟨V.heap.size, 0, none⟩), wayV 38 39, .pointer T.ptr, .func (.func g) #[] lb, spotV (some x.a) x.deep, undef, undef, undef, undef, undef, undef, undef, undef, undef, undef], defers := [] } _ ((keeps_below hbn).from _) (Kt.of_below hbn hb.size) ⟨⟨boxed_below hbx hbn, boxed_below hkx hbn⟩, hp, Below.after hb hbn⟩ ⟨_, rfl, Has.new V _ _⟩)
    clear hK hbx hkx hb hbn hp
    gi_wp2
    exact hK2.out
  case body =>
    rintro L pre x a' V hL _ ⟨⟨bx, kx⟩, hp, hb⟩ ⟨gs, rfl, hsx⟩ hpx
    have hmem : x ∈ AT.spots true 1 T := by obtain ⟨r, hr⟩ := hpx; rw [← hr]; simp
    have bd : Below V.heap.size V V.drew := (Below.refl _ _).drew
    have hnd := hN'.out.next ((hlies'.out.next hN'.out hb).spot true 1 x hmem) (bd.mono hb.size)
    have cK := Lib.hid (hN'.out.key V.drew _ x.a x.x hnd)
    have s0 := hsx.cell 0
    have s1 := hsx.cell 1
    have k0 := kx.cell
    have o0 := bx.cell
    have o1 := bx.frozen
    have hmx : Try.prog.follows .mixedOrders = true := by kernel_rfl
    obtain ⟨b, hbe⟩ : ∃ b, ((x.x.k).toInt == key.toInt) = b := ⟨_, rfl⟩
    have hbe' := Lib.hid hbe
    have hp' := Lib.hid hp
    have bx' := Lib.hid bx
    have kx' := Lib.hid kx
    have hb' := Lib.hid hb
    clear hsx kx bx hpx hmem hnd hp hb
    gi_wp2
    refine wpIn_round_held (S := fun u => u.cell? ⟨gs, 0, none⟩ = some (.pointer (some x.a)) ∧ u.cell? ⟨sz, 0, none⟩ = some (K key)) hmx (by kernel_rfl) ⟨s0, k0⟩ (fun hS => ?_)
    refine wpAnyH_take (i := 0) (oi := ?dqd0) (v := ?dvd0) ?hid0 (by kernel_rfl) (by kernel_rfl) (by kernel_rfl) ?hQd0 (Or.inl ⟨?hwd0, ?hyd0⟩) hS ?hrd0
    case hid0 => simp only [List.getElem?_toArray, List.getElem?_cons_zero]; rfl
    case hQd0 => exact only_panic
    case hwd0 => rfl
    case hyd0 => (intro w hSw; (try dsimp only at hSw); go_simp; (try with_reducible rfl))
    simp only [Act.put, List.setIfInBounds_toArray, List.set_cons_zero, List.set_cons_succ]
    refine wpAnyH_take (i := 1) (oi := ?dqd1) (v := ?dvd1) ?hid1 (by kernel_rfl) (by kernel_rfl) (by kernel_rfl) ?hQd1 (Or.inl ⟨?hwd1, ?hyd1⟩) hS ?hrd1
    case hid1 => simp only [List.getElem?_toArray, List.getElem?_cons_succ, List.getElem?_cons_zero]; rfl
    case hQd1 => exact only_panic
    case hwd1 => rfl
    case hyd1 => (intro w hSw; (try dsimp only at hSw); go_simp; (try with_reducible rfl))
    simp only [Act.put, List.setIfInBounds_toArray, List.set_cons_zero, List.set_cons_succ]
    refine wpAnyH_take (i := 3) (oi := ?dqd3) (v := ?dvd3) ?hid3 (by kernel_rfl) (by kernel_rfl) (by kernel_rfl) ?hQd3 (Or.inl ⟨?hwd3, ?hyd3⟩) hS ?hrd3
    case hid3 => simp only [List.getElem?_toArray, List.getElem?_cons_succ, List.getElem?_cons_zero]; rfl
    case hQd3 => exact only_panic
    case hwd3 => rfl
    case hyd3 => (intro w hSw; (try dsimp only at hSw); go_simp; (try with_reducible rfl))
    simp only [Act.put, List.setIfInBounds_toArray, List.set_cons_zero, List.set_cons_succ]
    refine wpAnyH_ready (rs := [2]) (by kernel_rfl) (by simp) (AllReadyH.cons (o := ?dqd2) ?hid2 (fun K hK => ?ccd2) AllReadyH.nil)
    case hid2 => simp only [List.getElem?_toArray, List.getElem?_cons_succ, List.getElem?_cons_zero]; rfl
    case ccd2 =>
      go_simp
      refine cK.out.mono ?_
      rintro e u2 ⟨rfl, rfl⟩
      refine hK.out _ _ hS (fun hS => ?_)
      clear hK K
      try simp only [Act.put, List.setIfInBounds_toArray, List.set_cons_zero, List.set_cons_succ]
      refine wpAnyH_take (i := 4) (oi := ?dqd4) (v := ?dvd4) ?hid4 (by kernel_rfl) (by kernel_rfl) (by kernel_rfl) ?hQd4 (Or.inl ⟨?hwd4, ?hyd4⟩) hS ?hrd4
      case hid4 => simp only [List.getElem?_toArray, List.getElem?_cons_succ, List.getElem?_cons_zero]; rfl
      case hQd4 => exact only_panic
      case hwd4 => rfl
      case hyd4 => (intro w hSw; (try dsimp only at hSw); go_simp; (try with_reducible rfl))
      simp only [Act.put, List.setIfInBounds_toArray, List.set_cons_zero, List.set_cons_succ]
      refine wpAnyH_done (by kernel_rfl) ?_ _
      dsimp only [OnlyNormal]
      clear hS cK bd
      have fd : KeepsOthers V V.drew := KeepsOthers.drew V
      have kd : Kt w.heap.size V V.drew := Kt.of_below (Below.refl _ _).drew hb'.out.size
      cases b with
      | true =>
        have hkk : Hid (x.x.k = key) := BitVec.eq_of_toInt_eq (by simpa using hbe'.out)
        gi_wp2
        exact ⟨(fd.trans (KeepsOthers.setCell _ _ _)).from _, ⟨rfl, pre, x, rfl, hp'.out, hkk.out, Boxed.set _ (boxed_below (W' := V.drew) bx'.out (Below.refl _ _).drew)⟩, (hb'.out.drew).setCell (p := ⟨sz + 1, 0, none⟩) (by show w.heap.size ≤ sz + 1; omega) _⟩
      | false =>
        have hkk : Hid (x.x.k ≠ key) := fun e => by have := hbe'.out; rw [e] at this; simp at this
        gi_wp2
        refine ⟨fd.from _, kd, ⟨boxed_below (W' := V.drew) bx'.out (Below.refl _ _).drew, boxed_below (W' := V.drew) kx'.out (Below.refl _ _).drew⟩, ?_, hb'.out.drew⟩
        intro y hy
        rcases List.mem_append.1 hy with h | h
        · exact hp'.out y h
        · rw [List.mem_singleton.1 h]; exact hkk.out
  case done =>
    rintro D W hD ⟨⟨bO1, _⟩, hp, hB2⟩ hK
    have hh := Lib.hid (hno.out hp)
    have hd := Lib.hid (hd0.out hh.out)
    have cO := bO1.cell
    go_wp2
    go_quiet (fail)
    go_wp2
    dsimp only [Exit.noGoto]
    refine ⟨by simp, .inl ⟨_, _, rfl, run_takeDeferred (w := W.drewN nq) hK, ?_⟩⟩
    refine ⟨_, results_tmp2 rfl _ _ _, ?_, (below_drewN hB2 nq).trans (belowK_b (w := w) (Nat.le_refl _) (W.drewN nq) D _ _ (by have := hB1.size; omega) hK rfl rfl)⟩
    rw [hh.out, hd.out]
    rfl
  case stop =>
    rintro D c pre W hD hp ⟨⟨rfl, q, s, rfl, hq, hs, bO1⟩, hB2⟩ hK
    have ee := Lib.hid (hyes.out q s hp hq hs)
    obtain ⟨z, hz⟩ : ∃ z, s.deep = z := ⟨_, rfl⟩
    have h1 := (hdl.out s (hp.subset (by simp))).1
    have cO := bO1.cell
    have hz' := Lib.hid hz
    rw [hz] at cO h1
    have hd1 : decide ((0 : Int) < (z : Int)) = true := decide_eq_true (by omega)
    clear hz
    gi_wp2
    go_wp2
    go_quiet (fail)
    go_wp2
    dsimp only [Exit.noGoto]
    refine ⟨by simp, .inl ⟨_, _, rfl, run_takeDeferred (w := W.drewN nq) hK, ?_⟩⟩
    refine ⟨_, results_tmp2 rfl _ _ _, ?_, (below_drewN hB2 nq).trans (belowK_b (w := w) (Nat.le_refl _) (W.drewN nq) D _ _ (by have := hB1.size; omega) hK rfl rfl)⟩
    have hz9 : decide (0 < z) = true := decide_eq_true (by omega)
    rw [← ee.out.1, ee.out.2, hz'.out]
    simp only [hz9]
    rfl
set_option maxHeartbeats 1000000 in
theorem hasN (hN : NodeSays Nd) (w : World) (t : Tr) (p : Option Addr) (key : BitVec 64) (hT : TreeAt Nd w w.heap.size t p) (hl : t.size ≤ 1000) :
    Calls Try.prog 24 #[.pointer p, K key] w fun e w' => e = .returned (.bool (t.has key)) ∧ Below w.heap.size w w' := by
  have c0 := Lib.hid (deepN hN w t p key hT hl)
  clear hT hN hl
  go_enter Try.func24, Try.ntmps24
  go_wp2_with fail
  refine c0.out.mono ?_
  rintro e w1 ⟨rfl, hb⟩
  have b1 := Lib.hid hb
  clear hb
  go_wp2
  go_ret
  exact ⟨rfl, b1.out⟩
end Go.Proofs.Ytadncdcblckpjaa
