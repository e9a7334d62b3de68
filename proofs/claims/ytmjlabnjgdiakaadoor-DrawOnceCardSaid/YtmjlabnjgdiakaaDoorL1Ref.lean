/- The contracts of the document's answers for layer 1: each returns what the plain mathematics says, whatever the number. -/
import Derived.Test.YtmjlabnjgdiakaaDoorL1Num
import Derived.Test.YtmjlabnjgdiakaaDoorProg
namespace Go.Proofs.YtmjlabnjgdiakaaDoor
open Go.RowKit Go.Proofs.Mixm

set_option maxHeartbeats 400000 in
theorem refMix_any (b : BitVec 64) (w : World) : Calls Tryd.prog 22 #[V b] w fun e w' => e = .returned (V (mix b)) ∧ w = w' := by
  go_enter Tryd.func22, Tryd.ntmps22
  go_wp2
  go_ret
  refine ⟨ret_int ?_, rfl⟩
  simp only [d30, t27, t31, m1, m2, v_xor]
  rfl

end Go.Proofs.YtmjlabnjgdiakaaDoor
