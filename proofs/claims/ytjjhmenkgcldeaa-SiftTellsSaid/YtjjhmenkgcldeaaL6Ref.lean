/- The document's own answers of layer 6 (package joineryref06): May, Takes, Not. -/
import Derived.Test.YtjjhmenkgcldeaaL6Leaf
import Derived.Deep.RegionHeld3
namespace Go.Proofs.Ytjjhmenkgcldeaa
open Go.RowKit Go.Proofs.Rowm Go.Proofs.Siftm

set_option maxHeartbeats 1000000 in
theorem rest_any (x a : BitVec 64) (ha : 0 < a.toInt) (w : World) : Calls Try.prog 22 #[K x, K a] w fun e w' => e = .returned (.int .i64 (left x a)) ∧ w = w' := by
  have hz : (a.toInt == 0) = false := by simp; omega
  have hz' : ¬ a.toInt = 0 := by omega
  go_enter Try.func22, Try.ntmps22
  go_wp2
  · go_ret
    exact ⟨ret_int (left_wrap x a ha (by omega)), rfl⟩
  · go_ret
    exact ⟨ret_int (left_pos x a ha (by omega)), rfl⟩

theorem kind_cases (k : Nat) : k = 1 ∨ k = 2 ∨ k = 3 ∨ k = 4 ∨ k = 5 ∨ ((k : Int) == 1) = false ∧ ((k : Int) == 2) = false ∧ ((k : Int) == 3) = false ∧ ((k : Int) == 4) = false ∧ ((k : Int) == 5) = false ∧ ∀ a b, mayK k a b = false := by
  by_cases h : 1 ≤ k ∧ k ≤ 5
  · omega
  · refine .inr (.inr (.inr (.inr (.inr ⟨by simp; omega, by simp; omega, by simp; omega, by simp; omega, by simp; omega, fun a b => ?_⟩))))
    cases hm : mayK k a b with
    | false => rfl
    | true => exact absurd (may_range (p := ⟨k, a, b, false⟩) hm) h

theorem ubits_none (a b : BitVec 64) : (bits BinOp.andNot IntKind.u64 (IntKind.u64.wrap b.toInt) (IntKind.u64.wrap a.toInt) == 0) = decide (b &&& ~~~a = 0#64) := by
  rw [b_u, b_u, b_uandNot]
  exact b_ueq (b &&& ~~~a) 0#64
theorem ubits_same (x a b : BitVec 64) : (bits BinOp.and IntKind.u64 (IntKind.u64.wrap x.toInt) (IntKind.u64.wrap a.toInt) == IntKind.u64.wrap b.toInt) = decide (x &&& a = b) := by
  rw [b_u, b_u, b_u, b_uand]
  exact b_ueq (x &&& a) b

theorem may4 (a b : BitVec 64) (n : Bool) : may ⟨4, a, b, n⟩ = (decide (1 ≤ a.toInt) && (decide (0 ≤ b.toInt) && decide (b.toInt < a.toInt))) := by
  simp only [may, mayK]
  rw [Bool.eq_iff_iff]
  simp
  omega
set_option maxHeartbeats 1000000 in
theorem refMay_any (p : Pd) (w : World) : Calls Try.prog 11 #[pdV p] w fun e w' => e = .returned (.bool (may p)) ∧ Below w.heap.size w w' := by
  obtain ⟨k, a, b, n⟩ := p
  have b0 := Lib.hid ((Below.refl w.heap.size w).alloc (Nat.le_refl _) (.cells #[.int .u8 k, K a, K b, .bool n] 23))
  obtain ⟨t1, e1⟩ : ∃ t, (a.toInt == 0) = t := ⟨_, rfl⟩
  obtain ⟨t2, e2⟩ : ∃ t, decide (1 ≤ a.toInt) = t := ⟨_, rfl⟩
  obtain ⟨t3, e3⟩ : ∃ t, decide (0 ≤ b.toInt) = t := ⟨_, rfl⟩
  have e5 := ubits_none a b
  rcases kind_cases k with rfl | rfl | rfl | rfl | rfl | ⟨a1, a2, a3, a4, a5, hn⟩
  · go_enter Try.func11, Try.ntmps11
    cases t1
    all_goals
      go_wp2
      go_ret
      exact ⟨by simp only [may, mayK, e1]; rfl, b0.out⟩
  · go_enter Try.func11, Try.ntmps11
    go_wp2
    go_ret
    exact ⟨rfl, b0.out⟩
  · go_enter Try.func11, Try.ntmps11
    go_wp2
    go_ret
    exact ⟨rfl, b0.out⟩
  · go_enter Try.func11, Try.ntmps11
    cases t2 <;> cases t3
    all_goals
      go_wp2
      go_ret
      exact ⟨by rw [may4, e2, e3]; rfl, b0.out⟩
  · go_enter Try.func11, Try.ntmps11
    go_wp2
    go_ret
    exact ⟨rfl, b0.out⟩
  · go_enter Try.func11, Try.ntmps11
    go_wp2
    go_ret
    exact ⟨by rw [may, hn]; rfl, b0.out⟩

set_option maxHeartbeats 1000000 in
theorem reftakes_any (p : Pd) (hm : may p = true) (x : Pr) (w : World) : Calls Try.prog 19 #[pdV p, pV x] w fun e w' => e = .returned (.bool (sel p.k p.a p.b x)) ∧ Below w.heap.size w w' := by
  obtain ⟨k, a, b, n⟩ := p
  have b0 := (((Below.refl w.heap.size w).alloc (Nat.le_refl _) (.cells #[.int .u8 k, K a, K b, .bool n] 23)).alloc (by simp) (.cells #[K x.1, K x.2] 25))
  have hp := (Has.new w 23 #[.int .u8 k, K a, K b, .bool n]).alloc (.cells #[K x.1, K x.2] 25)
  have hx := Has.new (w.alloc (.cells #[.int .u8 k, K a, K b, .bool n] 23)) 25 #[K x.1, K x.2]
  rw [World.size_alloc] at hx
  have b0' := Lib.hid b0
  obtain ⟨t1, e1⟩ : ∃ t, decide (a.toInt ≤ x.1.toInt) = t := ⟨_, rfl⟩
  obtain ⟨t2, e2⟩ : ∃ t, decide (a.toInt ≤ x.2.toInt) = t := ⟨_, rfl⟩
  have e5 := ubits_same x.1 a b
  rcases kind_cases k with rfl | rfl | rfl | rfl | rfl | ⟨a1, a2, a3, a4, a5, hn⟩
  · clear b0 hp hx
    go_enter Try.func19, Try.ntmps19
    go_wp2
    go_ret
    exact ⟨rfl, b0'.out⟩
  · clear b0 hp hx
    go_enter Try.func19, Try.ntmps19
    cases t1
    all_goals
      go_wp2
      go_ret
      exact ⟨by simp only [sel, e1]; rfl, b0'.out⟩
  · clear b0 hp hx
    go_enter Try.func19, Try.ntmps19
    cases t2
    all_goals
      go_wp2
      go_ret
      exact ⟨by simp only [sel, e2]; rfl, b0'.out⟩
  · have ha := may_pos hm
    have c1 := hp.cell 1
    have c2 := hp.cell 2
    have d0 := hx.c0
    simp only [List.getElem?_toArray, List.getElem?_cons_zero, List.getElem?_cons_succ] at c1 c2
    clear b0 hp hx
    go_enter Try.func19, Try.ntmps19
    go_wp2_with fail
    obtain ⟨W, hW⟩ : ∃ W, (w.alloc (.cells #[.int .u8 ((4 : Nat) : Int), K a, K b, .bool n] 23)).alloc (.cells #[K x.1, K x.2] 25) = W := ⟨_, rfl⟩
    have hW2 : (w.alloc (.cells #[.int .u8 4, K a, K b, .bool n] 23)).alloc (.cells #[K x.1, K x.2] 25) = W := hW
    rw [hW] at c1 c2 d0 b0'
    first | rw [hW] | rw [hW2]
    clear hW hW2
    go_quiet ((go_at_call 22; exact quiet_same (rest_any x.1 a ha _)))
    go_wp2
    go_ret
    exact ⟨rfl, below_drewN b0'.out _⟩
  · clear b0 hp hx
    go_enter Try.func19, Try.ntmps19
    go_wp2
    go_ret
    exact ⟨rfl, b0'.out⟩
  · exact absurd hm (by unfold may; rw [hn]; simp)

theorem s6_next {w x y : World} {a b c d e f : Addr} {u1 u2 u3 u4 u5 u6 : Value} (h : x.cell? a = some u1 ∧ x.cell? b = some u2 ∧ x.cell? c = some u3 ∧ x.cell? d = some u4 ∧ x.cell? e = some u5 ∧ x.cell? f = some u6 ∧ Below w.heap.size w x) (hb : Below x.heap.size x y) :
    y.cell? a = some u1 ∧ y.cell? b = some u2 ∧ y.cell? c = some u3 ∧ y.cell? d = some u4 ∧ y.cell? e = some u5 ∧ y.cell? f = some u6 ∧ Below w.heap.size w y :=
  ⟨keep_cell hb h.1, keep_cell hb h.2.1, keep_cell hb h.2.2.1, keep_cell hb h.2.2.2.1, keep_cell hb h.2.2.2.2.1, keep_cell hb h.2.2.2.2.2.1, Below.after h.2.2.2.2.2.2 hb⟩

set_option maxHeartbeats 2000000 in
theorem refTakes_any (p : Pd) (x : Pr) (w : World) : Calls Try.prog 13 #[pdV p, pV x] w fun e w' => e = .returned (.bool (takes p x)) ∧ Below w.heap.size w w' := by
  have b0 := (((Below.refl w.heap.size w).alloc (Nat.le_refl _) (.cells (pdC p) 23)).alloc (by simp) (.cells #[K x.1, K x.2] 25))
  have hp := (Has.new w 23 (pdC p)).alloc (.cells #[K x.1, K x.2] 25)
  have hx := Has.new (w.alloc (.cells (pdC p) 23)) 25 #[K x.1, K x.2]
  rw [World.size_alloc] at hx
  obtain ⟨c0, c1, c2, c3⟩ := pd_cells p _ _ hp
  have d0 := hx.c0
  have d1 := hx.c1
  have b0' := Lib.hid b0
  have hM := Lib.hid (fun W => refMay_any p W)
  clear b0 hp hx
  obtain ⟨tk, htk⟩ : ∃ tk, takes p x = tk := ⟨_, rfl⟩
  rw [htk]
  have htk' := Lib.hid htk
  clear htk
  go_enter Try.func13, Try.ntmps13
  go_wp2_with fail
  obtain ⟨W, hW⟩ : ∃ W, (w.alloc (.cells (pdC p) 23)).alloc (.cells #[K x.1, K x.2] 25) = W := ⟨_, rfl⟩
  rw [hW] at c0 c1 c2 c3 d0 d1 b0' ⊢
  clear hW
  cases hm : may p with
  | false =>
    have hM' : Hid (∀ W, Calls Try.prog 11 #[pdV p] W fun e w' => e = .returned (.bool false) ∧ Below W.heap.size W w') := Lib.hid (fun W => hm ▸ hM.out W)
    have ht : Hid (false = tk) := by show false = tk; rw [← htk'.out]; exact (takes_not hm x).symm
    clear hM hm htk'
    refine wp_region_held_drew (S := fun w' => w'.cell? ⟨w.heap.size, 0, none⟩ = some (.int .u8 p.k) ∧ w'.cell? ⟨w.heap.size, 1, none⟩ = some (K p.a) ∧ w'.cell? ⟨w.heap.size, 2, none⟩ = some (K p.b) ∧ w'.cell? ⟨w.heap.size, 3, none⟩ = some (.bool p.n) ∧ w'.cell? ⟨w.heap.size + 1, 0, none⟩ = some (K x.1) ∧ w'.cell? ⟨w.heap.size + 1, 1, none⟩ = some (K x.2) ∧ Below w.heap.size w w') (by kernel_rfl) ⟨c0, c1, c2, c3, d0, d1, b0'.out.drew⟩ (fun hS => ?_)
    refine wpAnyH_take (i := 0) (oi := ?dq0) (v := ?dv0) ?hi0 (by kernel_rfl) (by kernel_rfl) (by kernel_rfl) ?hQ0 (Or.inl ⟨?hw0, ?hy0⟩) hS ?hr0
    case hi0 => simp only [List.getElem?_toArray, List.getElem?_cons_zero]; rfl
    case hQ0 => exact fun _ _ _ h => h
    case hw0 => rfl
    case hy0 => (intro w hSw; (try dsimp only at hSw); go_simp; (try with_reducible rfl))
    simp only [Act.put, List.setIfInBounds_toArray, List.set_cons_zero, List.set_cons_succ]
    refine wpAnyH_ready (rs := [1]) (by kernel_rfl) (by simp) ?_
    refine AllReadyH.cons (o := ?dq1) ?hi1 (fun K hK => ?_) AllReadyH.nil
    case hi1 => simp only [List.getElem?_toArray, List.getElem?_cons_succ, List.getElem?_cons_zero]; rfl
    go_simp
    go_at_call 11
    refine (hM'.out _).mono ?_
    rintro e w' ⟨rfl, hb⟩
    have hS2 := s6_next (w := w) hS hb
    clear hS
    refine hK.out _ _ hS2 (fun hS => ?_)
    clear hS2 hK K
    try simp only [Act.put, List.setIfInBounds_toArray, List.set_cons_zero, List.set_cons_succ]
    refine wpAnyH_take (i := 2) (oi := ?dq2) (v := ?dv2) ?hi2 (by kernel_rfl) (by kernel_rfl) (by kernel_rfl) ?hQ2 (Or.inl ⟨?hw2, ?hy2⟩) hS ?hr2
    case hi2 => simp only [List.getElem?_toArray, List.getElem?_cons_succ, List.getElem?_cons_zero]; rfl
    case hQ2 => exact fun _ _ _ h => h
    case hw2 => rfl
    case hy2 => (intro w hSw; (try dsimp only at hSw); go_simp; (try with_reducible rfl))
    simp only [Act.put, List.setIfInBounds_toArray, List.set_cons_zero, List.set_cons_succ]
    refine wpAnyH_take (i := 3) (oi := ?dq3) (v := undef) ?hi3 (by kernel_rfl) (by kernel_rfl) (by kernel_rfl) ?hQ3 (Or.inr ⟨?hw3, rfl⟩) hS ?hr3
    case hi3 => simp only [List.getElem?_toArray, List.getElem?_cons_succ, List.getElem?_cons_zero]; rfl
    case hQ3 => exact fun _ _ _ h => h
    case hw3 => rfl
    simp only [Act.put, List.setIfInBounds_toArray, List.set_cons_zero, List.set_cons_succ]
    refine wpAnyH_take (i := 4) (oi := ?dq4) (v := undef) ?hi4 (by kernel_rfl) (by kernel_rfl) (by kernel_rfl) ?hQ4 (Or.inr ⟨?hw4, rfl⟩) hS ?hr4
    case hi4 => simp only [List.getElem?_toArray, List.getElem?_cons_succ, List.getElem?_cons_zero]; rfl
    case hQ4 => exact fun _ _ _ h => h
    case hw4 => rfl
    simp only [Act.put, List.setIfInBounds_toArray, List.set_cons_zero, List.set_cons_succ]
    refine wpAnyH_take (i := 5) (oi := ?dq5) (v := undef) ?hi5 (by kernel_rfl) (by kernel_rfl) (by kernel_rfl) ?hQ5 (Or.inr ⟨?hw5, rfl⟩) hS ?hr5
    case hi5 => simp only [List.getElem?_toArray, List.getElem?_cons_succ, List.getElem?_cons_zero]; rfl
    case hQ5 => exact fun _ _ _ h => h
    case hw5 => rfl
    simp only [Act.put, List.setIfInBounds_toArray, List.set_cons_zero, List.set_cons_succ]
    refine wpAnyH_take (i := 6) (oi := ?dq6) (v := undef) ?hi6 (by kernel_rfl) (by kernel_rfl) (by kernel_rfl) ?hQ6 (Or.inr ⟨?hw6, rfl⟩) hS ?hr6
    case hi6 => simp only [List.getElem?_toArray, List.getElem?_cons_succ, List.getElem?_cons_zero]; rfl
    case hQ6 => exact fun _ _ _ h => h
    case hw6 => rfl
    simp only [Act.put, List.setIfInBounds_toArray, List.set_cons_zero, List.set_cons_succ]
    refine wpAnyH_take (i := 7) (oi := ?dq7) (v := undef) ?hi7 (by kernel_rfl) (by kernel_rfl) (by kernel_rfl) ?hQ7 (Or.inr ⟨?hw7, rfl⟩) hS ?hr7
    case hi7 => simp only [List.getElem?_toArray, List.getElem?_cons_succ, List.getElem?_cons_zero]; rfl
    case hQ7 => exact fun _ _ _ h => h
    case hw7 => rfl
    simp only [Act.put, List.setIfInBounds_toArray, List.set_cons_zero, List.set_cons_succ]
    refine wpAnyH_take (i := 8) (oi := ?dq8) (v := undef) ?hi8 (by kernel_rfl) (by kernel_rfl) (by kernel_rfl) ?hQ8 (Or.inr ⟨?hw8, rfl⟩) hS ?hr8
    case hi8 => simp only [List.getElem?_toArray, List.getElem?_cons_succ, List.getElem?_cons_zero]; rfl
    case hQ8 => exact fun _ _ _ h => h
    case hw8 => rfl
    simp only [Act.put, List.setIfInBounds_toArray, List.set_cons_zero, List.set_cons_succ]
    refine wpAnyH_take (i := 9) (oi := ?dq9) (v := ?dv9) ?hi9 (by kernel_rfl) (by kernel_rfl) (by kernel_rfl) ?hQ9 (Or.inl ⟨?hw9, ?hy9⟩) hS ?hr9
    case hi9 => simp only [List.getElem?_toArray, List.getElem?_cons_succ, List.getElem?_cons_zero]; rfl
    case hQ9 => exact fun _ _ _ h => h
    case hw9 => rfl
    case hy9 => (intro w hSw; (try dsimp only at hSw); go_simp; (try with_reducible rfl))
    simp only [Act.put, List.setIfInBounds_toArray, List.set_cons_zero, List.set_cons_succ]
    refine wpAnyH_take (i := 10) (oi := ?dq10) (v := ?dv10) ?hi10 (by kernel_rfl) (by kernel_rfl) (by kernel_rfl) ?hQ10 (Or.inl ⟨?hw10, ?hy10⟩) hS ?hr10
    case hi10 => simp only [List.getElem?_toArray, List.getElem?_cons_succ, List.getElem?_cons_zero]; rfl
    case hQ10 => exact fun _ _ _ h => h
    case hw10 => rfl
    case hy10 => (intro w hSw; (try dsimp only at hSw); go_simp; (try with_reducible rfl))
    simp only [Act.put, List.setIfInBounds_toArray, List.set_cons_zero, List.set_cons_succ]
    refine wpAnyH_done (by kernel_rfl) ?_ _
    go_wp2
    go_ret
    exact ⟨by rw [← ht.out]; rfl, And.right (And.right (And.right (And.right (And.right (And.right hS)))))⟩
  | true =>
    have hM' : Hid (∀ W, Calls Try.prog 11 #[pdV p] W fun e w' => e = .returned (.bool true) ∧ Below W.heap.size W w') := Lib.hid (fun W => hm ▸ hM.out W)
    have ht : Hid ((sel p.k p.a p.b x != p.n) = tk) := by show (sel p.k p.a p.b x != p.n) = tk; rw [← htk'.out]; unfold takes; rw [hm]; rfl
    have hT := Lib.hid (fun W => reftakes_any p hm x W)
    obtain ⟨sl, hsl⟩ : ∃ sl, sel p.k p.a p.b x = sl := ⟨_, rfl⟩
    rw [hsl] at ht hT
    clear hM hm htk' hsl
    go_region_held3 (fun w' => w'.cell? ⟨w.heap.size, 0, none⟩ = some (.int .u8 p.k) ∧ w'.cell? ⟨w.heap.size, 1, none⟩ = some (K p.a) ∧ w'.cell? ⟨w.heap.size, 2, none⟩ = some (K p.b) ∧ w'.cell? ⟨w.heap.size, 3, none⟩ = some (.bool p.n) ∧ w'.cell? ⟨w.heap.size + 1, 0, none⟩ = some (K x.1) ∧ w'.cell? ⟨w.heap.size + 1, 1, none⟩ = some (K x.2) ∧ Below w.heap.size w w')
      (first | exact ⟨c0, c1, c2, c3, d0, d1, b0'.out.drew⟩ | assumption)
      (first | (go_at_call 11; refine (hM'.out _).mono ?_; rintro e w' ⟨rfl, hb⟩; have hS' := s6_next (w := w) (by assumption) hb; clear hb) | (go_at_call 19; refine (hT.out _).mono ?_; rintro e w' ⟨rfl, hb⟩; have hS' := s6_next (w := w) (by assumption) hb; clear hb))
    all_goals
      go_wp2
      go_ret
      exact ⟨by rw [← ht.out]; rfl, And.right (And.right (And.right (And.right (And.right (And.right (by assumption))))))⟩

set_option maxHeartbeats 1000000 in
theorem not_any (p : Pd) (w : World) : Calls Try.prog 16 #[pdV p] w fun e w' => e = .returned (pdV (Siftm.flip p)) ∧ Below w.heap.size w w' := by
  go_enter Try.func16, Try.ntmps16
  go_wp2
  refine bodyPost_ret (v := pdV (Siftm.flip p)) (by simp [results, Try.results16, go_sem, Siftm.flip]) rfl ⟨rfl, ?_⟩
  exact ((Below.refl _ _).alloc (Nat.le_refl _) _).alloc (by simp) _
end Go.Proofs.Ytjjhmenkgcldeaa
