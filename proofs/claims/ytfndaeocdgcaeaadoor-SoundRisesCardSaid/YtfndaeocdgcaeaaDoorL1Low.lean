/- The contracts of unfold and inverse of package mix: each returns what the plain mathematics says, whatever the number. -/
import Derived.Test.YtfndaeocdgcaeaaDoorL1Num
import Derived.Test.YtfndaeocdgcaeaaDoorProg
namespace Go.Proofs.YtfndaeocdgcaeaaDoor
open Go.RowKit Go.Proofs.Mixm

set_option maxHeartbeats 400000 in
theorem unfold_any (b : BitVec 64) (s : Nat) (h1 : 16 ≤ s) (h2 : s < 32) (w : World) : Calls Tryd.prog 80 #[V b, .int .u64 (s : Int)] w fun e w' => e = .returned (V (unf s b)) ∧ w = w' := by
  go_enter Tryd.func80, Tryd.ntmps80
  go_wp2
  go_loop [0, 5] (fun x n => (x = V b ∧ n = .int .u64 (s : Int)) ∨ (x = V (fold s b) ∧ n = .int .u64 ((2 * s : Nat) : Int)) ∨ (x = V (unf s b) ∧ n = .int .u64 ((4 * s : Nat) : Int))) (fun _ n => 64 - (intOf n).toNat)
  case atStart => exact .inl ⟨rfl, rfl⟩
  case round =>
    rcases hrel with ⟨rfl, rfl⟩ | ⟨rfl, rfl⟩ | ⟨rfl, rfl⟩
    · go_wp2
      go_round
      case rel => exact .inr (.inl ⟨by rw [v_fold], by go_num⟩)
      case measure => simp [intOf]; omega
    · go_wp2
      go_round
      case rel => exact .inr (.inr ⟨by rw [v_fold]; rfl, by go_num⟩)
      case measure => simp [intOf]; omega
    · go_wp2
      go_ret
      exact ⟨rfl, rfl⟩

set_option maxHeartbeats 400000 in
theorem nearer_any (x f : BitVec 64) (a : Addr) (w : World) (hc : w.cell? a = some (V f)) : Calls Tryd.prog 83 #[V x, .pointer (some a)] w fun e w' => e = .returned (V (x * (2#64 - f * x))) ∧ w = w' := by
  go_enter Tryd.func83, Tryd.ntmps83
  go_wp2
  go_ret
  refine ⟨ret_int ?_, rfl⟩
  simp only [v_mul, v_two]

set_option maxHeartbeats 400000 in
theorem inverse_any (f : BitVec 64) (w : World) : Calls Tryd.prog 81 #[V f] w fun e w' => e = .returned (V (inv f 5)) ∧ w.alloc (.cells #[V f] 42) = w' := by
  go_enter Tryd.func81, Tryd.ntmps81
  go_wp2
  have hc : (w.alloc (.cells #[V f] 42)).cell? ⟨w.heap.size, 0, none⟩ = some (V f) := by simp
  go_loop [4, 7] (fun x i => ∃ k : Nat, k ≤ 5 ∧ i = .int .i64 k ∧ x = V (inv f k)) (fun _ i => 5 - (intOf i).toNat)
  case atStart => exact ⟨0, by omega, rfl, rfl⟩
  case round =>
    obtain ⟨k, hk, rfl, rfl⟩ := hrel
    by_cases hlt : k < 5
    · go_wp2_with (go_at_call 83; refine (nearer_any _ _ _ _ hc).mono ?_; rintro e w' ⟨rfl, rfl⟩)
      go_round
      case rel => exact ⟨k + 1, by omega, by go_num, rfl⟩
      case measure => simp [intOf]; omega
    · obtain rfl : k = 5 := by omega
      go_wp2
      go_ret
      exact ⟨rfl, rfl⟩

end Go.Proofs.YtfndaeocdgcaeaaDoor
