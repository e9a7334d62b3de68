/- What the rows of layer 3 share. -/
import Derived.Test.YtbjfoopiicppeaaGOpen
import Derived.Test.YtbjfoopiicppeaaChecked
namespace Go.Proofs.Ytbjfoopiicppeaa
theorem own : ownKnob Try.prog.godebug = none := by kernel_rfl
theorem laidOut : laidOutB Try.prog = true := by kernel_rfl
end Go.Proofs.Ytbjfoopiicppeaa
