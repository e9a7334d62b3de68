/- The contracts of Turn and Flip of package mix: each returns what the plain mathematics says, whatever the number. -/
import Derived.Test.YtfndaeocdgcaeaaDoorL1Num
import Derived.Test.YtfndaeocdgcaeaaDoorProg
namespace Go.Proofs.YtfndaeocdgcaeaaDoor
open Go.RowKit Go.Proofs.Mixm

set_option maxHeartbeats 400000 in
theorem rotate_any (b : BitVec 64) (n : Int) (w : World) : Calls Tryd.prog 77 #[V b, .int .i64 n] w fun e w' => e = .returned (V (rot b (by64 n))) ∧ w = w' := by
  have hs := s63 n
  obtain ⟨s, hs0⟩ : ∃ s, by64 n = s := ⟨_, rfl⟩
  have hs1 := by64_lt n
  rw [hs0] at hs hs1 ⊢
  clear hs0
  go_enter Tryd.func77, Tryd.ntmps77
  go_wp2
  go_ret
  refine ⟨ret_int ?_, rfl⟩
  rw [v_shl, v_shr, v_or]
  rfl

set_option maxHeartbeats 400000 in
theorem turn_any (b : BitVec 64) (n : Int) (w : World) : Calls Tryd.prog 69 #[V b, .int .i64 n] w fun e w' => e = .returned (V (rot b (by64 n))) ∧ w = w' := by
  go_enter Tryd.func69, Tryd.ntmps69
  go_wp2_with (go_at_call 77; refine (rotate_any _ _ _).mono ?_; rintro e w' ⟨rfl, rfl⟩)
  go_ret
  exact ⟨rfl, rfl⟩

set_option maxHeartbeats 400000 in
theorem reverseBytes_any (b : BitVec 64) (w : World) : Calls Tryd.prog 82 #[V b] w fun e w' => e = .returned (V (flipB b)) ∧ w = w' := by
  go_enter Tryd.func82, Tryd.ntmps82
  go_wp2
  go_ret
  refine ⟨ret_int ?_, rfl⟩
  simp only [a8, a16, q8, q16, q32, p8, p16, p32, v_or]
  rfl

set_option maxHeartbeats 400000 in
theorem reverse_any (b : BitVec 64) (w : World) : Calls Tryd.prog 76 #[V b] w fun e w' => e = .returned (V (flip b)) ∧ w = w' := by
  go_enter Tryd.func76, Tryd.ntmps76
  go_wp2_with (go_at_call 82; simp only [a1, a2, a4, q1, q2, q4, p1, p2, p4, v_or]; refine (reverseBytes_any _ _).mono ?_; rintro e w' ⟨rfl, rfl⟩)
  go_ret
  exact ⟨rfl, rfl⟩

set_option maxHeartbeats 400000 in
theorem flip_any (b : BitVec 64) (w : World) : Calls Tryd.prog 68 #[V b] w fun e w' => e = .returned (V (flip b)) ∧ w = w' := by
  go_enter Tryd.func68, Tryd.ntmps68
  go_wp2_with (go_at_call 76; refine (reverse_any _ _).mono ?_; rintro e w' ⟨rfl, rfl⟩)
  go_ret
  exact ⟨rfl, rfl⟩

end Go.Proofs.YtfndaeocdgcaeaaDoor
