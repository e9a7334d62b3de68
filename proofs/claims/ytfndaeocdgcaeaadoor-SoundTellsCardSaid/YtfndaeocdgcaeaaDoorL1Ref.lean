/- The contracts of the document's answers for layer 1: each returns what the plain mathematics says, whatever the number. -/
import Derived.Test.YtfndaeocdgcaeaaDoorL1Num
import Derived.Test.YtfndaeocdgcaeaaDoorProg
namespace Go.Proofs.YtfndaeocdgcaeaaDoor
open Go.RowKit Go.Proofs.Mixm

set_option maxHeartbeats 400000 in
theorem refMix_any (b : BitVec 64) (w : World) : Calls Tryd.prog 75 #[V b] w fun e w' => e = .returned (V (mix b)) ∧ w = w' := by
  go_enter Tryd.func75, Tryd.ntmps75
  go_wp2
  go_ret
  refine ⟨ret_int ?_, rfl⟩
  simp only [d30, t27, t31, m1, m2, v_xor]
  rfl

set_option maxHeartbeats 400000 in
theorem refFlip_any (b : BitVec 64) (w : World) : Calls Tryd.prog 73 #[V b] w fun e w' => e = .returned (V (flip b)) ∧ w = w' := by
  go_enter Tryd.func73, Tryd.ntmps73
  go_wp2
  go_loop [0, 3, 4] (fun x y i => ∃ (k : Nat) (z : BitVec 64), k ≤ 64 ∧ i = .int .i64 k ∧ x = V z ∧ y = V (refFlip b k) ∧ Hid (z = b >>> k)) (fun _ _ i => 64 - (intOf i).toNat)
  case atStart => exact ⟨0, b, by omega, rfl, rfl, rfl, Lib.hid (by simp)⟩
  case round =>
    obtain ⟨k, z, hk, rfl, rfl, rfl, hz⟩ := hrel
    by_cases hlt : k < 64
    · go_wp2
      go_round
      case rel => exact ⟨k + 1, z >>> 1, by omega, by go_num, by rw [q1], by rw [r2, p1, v_add, hz.out, bitOf_shift]; rfl, Lib.hid (by rw [hz.out, BitVec.shiftRight_add])⟩
      case measure => simp [intOf]; omega
    · obtain rfl : k = 64 := by omega
      go_wp2
      go_ret
      exact ⟨by rw [← refFlip_all]; rfl, rfl⟩

set_option maxHeartbeats 400000 in
theorem refTurn_any (b : BitVec 64) (n : Int) (w : World) : Calls Tryd.prog 74 #[V b, .int .i64 n] w fun e w' => e = .returned (V (rot b (by64 n))) ∧ w = w' := by
  have hs := n64w n
  obtain ⟨s, hs0⟩ : ∃ s, by64 n = s := ⟨_, rfl⟩
  have hs1 := by64_lt n
  rw [hs0] at hs hs1 ⊢
  clear hs0
  go_enter Tryd.func74, Tryd.ntmps74
  go_wp2
  go_loop [5, 6] (fun y i => ∃ k : Nat, k ≤ 64 ∧ i = .int .i64 k ∧ y = V (refTurn b s k)) (fun _ i => 64 - (intOf i).toNat)
  case atStart => exact ⟨0, by omega, rfl, rfl⟩
  case round =>
    obtain ⟨k, hk, rfl, rfl⟩ := hrel
    by_cases hlt : k < 64
    · have hm : (k + s) % 64 < 64 := by omega
      go_wp2
      go_round
      case rel => exact ⟨k + 1, by omega, by go_num, by rw [r2k, v_shl, v_add]; rfl⟩
      case measure => simp [intOf]; omega
    · obtain rfl : k = 64 := by omega
      go_wp2
      go_ret
      exact ⟨by rw [← refTurn_all b s hs1]; rfl, rfl⟩

end Go.Proofs.YtfndaeocdgcaeaaDoor
