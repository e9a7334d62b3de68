/- What the rows of layer 9 share. -/
import Derived.Test.YthfcgimnbcpnpaaGOpen
import Derived.Test.YthfcgimnbcpnpaaGBeads
import Derived.Test.YthfcgimnbcpnpaaChecked
namespace Go.Proofs.Ythfcgimnbcpnpaa
open Go.RowKit
set_option maxRecDepth 100000
theorem own : ownKnob Try.prog.godebug = none := by kernel_rfl
theorem laidOut : laidOutB Try.prog = true := by kernel_rfl
end Go.Proofs.Ythfcgimnbcpnpaa
