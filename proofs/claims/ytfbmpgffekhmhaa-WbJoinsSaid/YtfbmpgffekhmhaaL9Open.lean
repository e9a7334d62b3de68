/- What the rows of layer 9 share. -/
import Derived.Test.YtfbmpgffekhmhaaGOpen
import Derived.Test.YtfbmpgffekhmhaaGBeads
import Derived.Test.YtfbmpgffekhmhaaChecked
namespace Go.Proofs.Ytfbmpgffekhmhaa
open Go.RowKit
set_option maxRecDepth 100000
theorem own : ownKnob Try.prog.godebug = none := by kernel_rfl
theorem laidOut : laidOutB Try.prog = true := by kernel_rfl
end Go.Proofs.Ytfbmpgffekhmhaa
