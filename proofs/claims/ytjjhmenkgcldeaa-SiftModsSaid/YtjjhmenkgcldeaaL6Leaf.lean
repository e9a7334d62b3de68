/- The contracts of package sift's small functions: left, and the closures of ruleOf. -/
import Derived.Test.YtjjhmenkgcldeaaL6Math
import Derived.Test.YtjjhmenkgcldeaaGPair
import Derived.Test.YtjjhmenkgcldeaaGMap
import Derived.Test.YtjjhmenkgcldeaaGBits
namespace Go.Proofs.Ytjjhmenkgcldeaa
open Go.RowKit Go.Proofs.Rowm Go.Proofs.Siftm

/-- a predicate, as a value -/
abbrev pdV (p : Pd) : Value := .agg #[.int .u8 p.k, K p.a, K p.b, .bool p.n]
/-- the cells of a predicate in memory -/
abbrev pdC (p : Pd) : Array Value := #[.int .u8 p.k, K p.a, K p.b, .bool p.n]

theorem rem_fit (x a : BitVec 64) (ha : 0 < a.toInt) : -9223372036854775808 ≤ x.toInt.tmod a.toInt ∧ x.toInt.tmod a.toInt < 9223372036854775808 := by
  have h0 := BitVec.two_mul_toInt_lt (x := a)
  have h1 := Int.lt_tmod_of_pos x.toInt ha
  have h2 := Int.tmod_lt_of_pos x.toInt ha
  omega
theorem left_neg (x a : BitVec 64) (ha : 0 < a.toInt) (h : x.toInt.tmod a.toInt < 0) : x.toInt.tmod a.toInt + a.toInt = left x a := by
  unfold left
  rw [Int.tmod_eq_emod] at h ⊢
  have h1 := Int.emod_lt_of_pos x.toInt ha
  have h2 := Int.emod_nonneg x.toInt (Int.ne_of_gt ha)
  have h3 : (a.toInt.natAbs : Int) = a.toInt := Int.natAbs_of_nonneg (Int.le_of_lt ha)
  split at h
  · omega
  · rw [if_neg (by assumption)]; omega
theorem left_pos (x a : BitVec 64) (ha : 0 < a.toInt) (h : ¬ x.toInt.tmod a.toInt < 0) : x.toInt.tmod a.toInt = left x a := by
  unfold left
  rw [Int.tmod_eq_emod] at h ⊢
  have h1 := Int.emod_lt_of_pos x.toInt ha
  have h2 := Int.emod_nonneg x.toInt (Int.ne_of_gt ha)
  have h3 : (a.toInt.natAbs : Int) = a.toInt := Int.natAbs_of_nonneg (Int.le_of_lt ha)
  split at h
  · rename_i hc; rw [if_pos hc]; omega
  · exfalso; apply h; omega

theorem left_wrap (x a : BitVec 64) (ha : 0 < a.toInt) (h : x.toInt.tmod a.toInt < 0) : wrap64 (x.toInt.tmod a.toInt + a.toInt) = left x a := by
  have hf := rem_fit x a ha
  have h0 := BitVec.two_mul_toInt_lt (x := a)
  rw [← left_neg x a ha h]
  exact IntWalk.wrap64_in _ ⟨by omega, by omega⟩
set_option maxHeartbeats 1000000 in
theorem left_any (x a : BitVec 64) (ha : 0 < a.toInt) (w : World) : Calls Try.prog 27 #[K x, K a] w fun e w' => e = .returned (.int .i64 (left x a)) ∧ w = w' := by
  have hz : (a.toInt == 0) = false := by simp; omega
  have hz' : ¬ a.toInt = 0 := by omega
  go_enter Try.func27, Try.ntmps27
  go_wp2
  · go_ret
    exact ⟨ret_int (left_wrap x a ha (by omega)), rfl⟩
  · go_ret
    exact ⟨ret_int (left_pos x a ha (by omega)), rfl⟩

section
variable (p : Pd) (x : Pr) (g : Nat) (w : World) (h : Has w g 23 (pdC p))
include h
theorem pd_cells : w.cell? ⟨g, 0, none⟩ = some (.int .u8 p.k) ∧ w.cell? ⟨g, 1, none⟩ = some (K p.a) ∧ w.cell? ⟨g, 2, none⟩ = some (K p.b) ∧ w.cell? ⟨g, 3, none⟩ = some (.bool p.n) := ⟨h.cell 0, h.cell 1, h.cell 2, h.cell 3⟩
end

set_option maxHeartbeats 1000000 in
theorem all_any (x : Pr) (w : World) : Calls Try.prog 23 #[pV x] w fun e w' => e = .returned (.bool true) ∧ Below w.heap.size w w' := by
  go_enter Try.func23, Try.ntmps23
  go_wp2
  go_ret
  exact ⟨rfl, (Below.refl _ _).alloc (Nat.le_refl _) _⟩

set_option maxHeartbeats 1000000 in
theorem key_any (p : Pd) (x : Pr) (g : Nat) (w : World) (h : Has w g 23 (pdC p)) : Calls Try.prog 24 #[pV x, .pointer (some ⟨g, 0, none⟩)] w fun e w' => e = .returned (.bool (decide (p.a.toInt ≤ x.1.toInt) && decide (x.1.toInt ≤ p.b.toInt))) ∧ Below w.heap.size w w' := by
  have h' := h.alloc (.cells #[K x.1, K x.2] 25)
  obtain ⟨_, h1, h2, _⟩ := pd_cells p g _ h'
  clear h h'
  obtain ⟨t, ht⟩ : ∃ t, decide (p.a.toInt ≤ x.1.toInt) = t := ⟨_, rfl⟩
  rw [ht]
  go_enter Try.func24, Try.ntmps24
  cases t
  all_goals
    go_wp2
    go_ret
    exact ⟨rfl, (Below.refl _ _).alloc (Nat.le_refl _) _⟩

set_option maxHeartbeats 1000000 in
theorem val_any (p : Pd) (x : Pr) (g : Nat) (w : World) (h : Has w g 23 (pdC p)) : Calls Try.prog 25 #[pV x, .pointer (some ⟨g, 0, none⟩)] w fun e w' => e = .returned (.bool (decide (p.a.toInt ≤ x.2.toInt) && decide (x.2.toInt ≤ p.b.toInt))) ∧ Below w.heap.size w w' := by
  have h' := h.alloc (.cells #[K x.1, K x.2] 25)
  obtain ⟨_, h1, h2, _⟩ := pd_cells p g _ h'
  clear h h'
  obtain ⟨t, ht⟩ : ∃ t, decide (p.a.toInt ≤ x.2.toInt) = t := ⟨_, rfl⟩
  rw [ht]
  go_enter Try.func25, Try.ntmps25
  cases t
  all_goals
    go_wp2
    go_ret
    exact ⟨rfl, (Below.refl _ _).alloc (Nat.le_refl _) _⟩

set_option maxHeartbeats 1000000 in
theorem mod_any (p : Pd) (ha : 0 < p.a.toInt) (x : Pr) (g : Nat) (w : World) (h : Has w g 23 (pdC p)) : Calls Try.prog 26 #[pV x, .pointer (some ⟨g, 0, none⟩)] w fun e w' => e = .returned (.bool (left x.1 p.a == p.b.toInt)) ∧ Below w.heap.size w w' := by
  have h' := h.alloc (.cells #[K x.1, K x.2] 25)
  have hx := Has.new w 25 #[K x.1, K x.2]
  obtain ⟨_, h1, h2, _⟩ := pd_cells p g _ h'
  have c0 := hx.c0
  have hw := (Below.refl w.heap.size w).alloc (Nat.le_refl _) (.cells #[K x.1, K x.2] 25)
  clear h h' hx
  go_enter Try.func26, Try.ntmps26
  go_wp2_with fail
  obtain ⟨W, hW⟩ : ∃ W, w.alloc (.cells #[K x.1, K x.2] 25) = W := ⟨_, rfl⟩
  rw [hW] at h1 h2 c0 hw ⊢
  clear hW
  go_quiet ((go_at_call 27; exact quiet_same (left_any x.1 p.a ha _)))
  go_wp2
  go_ret
  exact ⟨rfl, below_drewN hw _⟩

set_option maxHeartbeats 1000000 in
theorem bits_any (p : Pd) (x : Pr) (g : Nat) (w : World) (h : Has w g 23 (pdC p)) : Calls Try.prog 28 #[pV x, .pointer (some ⟨g, 0, none⟩)] w fun e w' => e = .returned (.bool (decide (x.1 &&& p.a = p.b))) ∧ Below w.heap.size w w' := by
  have h' := h.alloc (.cells #[K x.1, K x.2] 25)
  obtain ⟨_, h1, h2, _⟩ := pd_cells p g _ h'
  clear h h'
  go_enter Try.func28, Try.ntmps28
  go_wp2
  go_ret
  exact ⟨by show Ending.returned (.bool (bits BinOp.and IntKind.i64 x.1.toInt p.a.toInt == p.b.toInt)) = _; rw [b_and, i_beq], (Below.refl _ _).alloc (Nat.le_refl _) _⟩
end Go.Proofs.Ytjjhmenkgcldeaa
