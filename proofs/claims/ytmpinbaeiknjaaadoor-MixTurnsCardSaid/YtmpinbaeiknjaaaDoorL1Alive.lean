/- The contract of the statements' own 'alive' of layer 1 (the chapter's examples hold). -/
import Derived.Test.YtmpinbaeiknjaaaDoorL1Bwd
import Derived.Test.YtmpinbaeiknjaaaDoorL1Turn
namespace Go.Proofs.YtmpinbaeiknjaaaDoor
open Go.RowKit Go.Proofs.Mixm

theorem mix_0 (w : World) (hz : 0 < w.heap.size) (hs : Steps w) : Calls Tryd.prog 6 #[.int .u64 0] w fun e w' => e = .returned (.int .u64 0) ∧ Below w.heap.size w w' := by
  have h : mix 0#64 = 0#64 := by decide
  have := mix_any 0#64 w hz hs
  rw [h] at this
  exact this
theorem mix_1 (w : World) (hz : 0 < w.heap.size) (hs : Steps w) : Calls Tryd.prog 6 #[.int .u64 1] w fun e w' => e = .returned (.int .u64 6238072747940578789) ∧ Below w.heap.size w w' := by
  have h : mix 1#64 = 6238072747940578789#64 := by decide
  have := mix_any 1#64 w hz hs
  rw [h] at this
  exact this
theorem unmix_0 (w : World) (hz : 0 < w.heap.size) (hs : Steps w) : Calls Tryd.prog 14 #[.int .u64 0] w fun e w' => e = .returned (.int .u64 0) ∧ Below w.heap.size w w' := by
  have h : unmix 0#64 = 0#64 := by decide
  have := unmix_any 0#64 w hz hs
  rw [h] at this
  exact this
theorem turn_65 (w : World) : Calls Tryd.prog 8 #[.int .u64 1, .int .i64 65] w fun e w' => e = .returned (.int .u64 2) ∧ w = w' := by
  have h : rot 1#64 (by64 65) = 2#64 := by decide
  have := turn_any 1#64 65 w
  rw [h] at this
  exact this
theorem turn_back (w : World) : Calls Tryd.prog 8 #[.int .u64 1, .int .i64 (-1)] w fun e w' => e = .returned (.int .u64 9223372036854775808) ∧ w = w' := by
  have h : rot 1#64 (by64 (-1)) = 9223372036854775808#64 := by decide
  have := turn_any 1#64 (-1) w
  rw [h] at this
  exact this
theorem flip_1 (w : World) : Calls Tryd.prog 10 #[.int .u64 1] w fun e w' => e = .returned (.int .u64 9223372036854775808) ∧ w = w' := by
  have h : flip 1#64 = 9223372036854775808#64 := by decide
  have := flip_any 1#64 w
  rw [h] at this
  exact this
theorem flip_3 (w : World) : Calls Tryd.prog 10 #[.int .u64 3] w fun e w' => e = .returned (.int .u64 13835058055282163712) ∧ w = w' := by
  have h : flip 3#64 = 13835058055282163712#64 := by decide
  have := flip_any 3#64 w
  rw [h] at this
  exact this

set_option maxHeartbeats 400000 in
theorem alive_any (w : World) (h0 : 0 < w.heap.size) (hs : Steps w) : Calls Tryd.prog 15 #[] w fun e w' => e = .returned (.bool true) ∧ Below w.heap.size w w' := by
  have hs' := Lib.hid hs
  clear hs
  go_enter Tryd.func15, Tryd.ntmps15
  go_wp2_with fail
  refine (mix_0 _ h0 hs'.out).mono ?_
  rintro e w1 ⟨rfl, hb1⟩
  have h01 := Nat.lt_of_lt_of_le h0 hb1.size
  have hs1 := Lib.hid (hs'.out.below h0 hb1)
  have hb1 := Lib.hid hb1
  go_wp2_with fail
  refine (unmix_0 _ h01 hs1.out).mono ?_
  rintro e w2 ⟨rfl, hb2⟩
  have h02 := Nat.lt_of_lt_of_le h01 hb2.size
  have hs2 := Lib.hid (hs1.out.below h01 hb2)
  have hb2 := Lib.hid (hb1.out.trans (hb2.mono hb1.out.size))
  go_wp2_with fail
  refine (turn_65 _).mono ?_
  rintro e w3 ⟨rfl, rfl⟩
  go_wp2_with fail
  refine (turn_back _).mono ?_
  rintro e w3 ⟨rfl, rfl⟩
  go_wp2_with fail
  refine (flip_1 _).mono ?_
  rintro e w3 ⟨rfl, rfl⟩
  go_wp2_with fail
  refine (flip_3 _).mono ?_
  rintro e w3 ⟨rfl, rfl⟩
  go_wp2_with fail
  refine (mix_1 _ h02 hs2.out).mono ?_
  rintro e w3 ⟨rfl, hb3⟩
  have hb3 := Lib.hid (hb2.out.trans (hb3.mono hb2.out.size))
  go_wp2
  go_ret
  exact ⟨rfl, hb3.out⟩
end Go.Proofs.YtmpinbaeiknjaaaDoor
