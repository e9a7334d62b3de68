/- What the rows of layer 9 share. -/
import Derived.Test.YtifhnaelkjfmdabGOpen
import Derived.Test.YtifhnaelkjfmdabGBeads
import Derived.Test.YtifhnaelkjfmdabChecked
namespace Go.Proofs.Ytifhnaelkjfmdab
open Go.RowKit
set_option maxRecDepth 100000
theorem own : ownKnob Try.prog.godebug = none := by kernel_rfl
theorem laidOut : laidOutB Try.prog = true := by kernel_rfl
end Go.Proofs.Ytifhnaelkjfmdab
