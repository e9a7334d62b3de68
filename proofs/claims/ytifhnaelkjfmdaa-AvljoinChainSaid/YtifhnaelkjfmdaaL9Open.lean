/- What the rows of layer 9 share. -/
import Derived.Test.YtifhnaelkjfmdaaGOpen
import Derived.Test.YtifhnaelkjfmdaaGBeads
import Derived.Test.YtifhnaelkjfmdaaChecked
namespace Go.Proofs.Ytifhnaelkjfmdaa
open Go.RowKit
set_option maxRecDepth 100000
theorem own : ownKnob Try.prog.godebug = none := by kernel_rfl
theorem laidOut : laidOutB Try.prog = true := by kernel_rfl
end Go.Proofs.Ytifhnaelkjfmdaa
