/- The contracts of Of of package mix and of the document's answer for it: each returns what the plain mathematics says, while the table of steps reads as its initialiser lays it. -/
import Derived.Test.YtmjlabnjgdiakaaDoorL1Fwd
import Derived.Test.YtmjlabnjgdiakaaDoorL1Ref
namespace Go.Proofs.YtmjlabnjgdiakaaDoor
open Go.RowKit Go.Proofs.Mixm

set_option maxHeartbeats 400000 in
theorem refOf_any (n : Int) (z : BitVec 64) (hz : IntKind.u64.wrap (IntKind.u64.wrap n + (11400714819323198485 : Int)) = (z.toNat : Int)) (w : World) : Calls Tryd.prog 19 #[.int .i64 n] w fun e w' => e = .returned (V (mix z)) ∧ w = w' := by
  go_enter Tryd.func19, Tryd.ntmps19
  go_wp2_with (go_at_call 22; refine (refMix_any _ _).mono ?_; rintro e w' ⟨rfl, rfl⟩)
  go_ret
  exact ⟨rfl, rfl⟩

set_option maxHeartbeats 400000 in
theorem of_any (n : Int) (z : BitVec 64) (hz : IntKind.u64.wrap (IntKind.u64.wrap n + (11400714819323198485 : Int)) = (z.toNat : Int)) (w : World) (h0 : 0 < w.heap.size) (hs : Steps w) : Calls Tryd.prog 16 #[.int .i64 n] w fun e w' => e = .returned (V (mix z)) ∧ Below w.heap.size w w' := by
  have hs' := Lib.hid hs
  clear hs
  go_enter Tryd.func16, Tryd.ntmps16
  go_wp2_with fail
  refine (mix_any _ _ h0 hs'.out).mono ?_
  rintro e w' ⟨rfl, hb⟩
  go_wp2
  go_ret
  exact ⟨rfl, hb⟩

end Go.Proofs.YtmjlabnjgdiakaaDoor
