/- The document's own answer of layer 9: Height. -/
import Derived.Test.YtfbmpgffekhmhaaL9Parts
import Derived.Test.YtfbmpgffekhmhaaL10Math
namespace Go.Proofs.Ytfbmpgffekhmhaa
open Go.RowKit Go.Proofs.Treem

/-- a number of 64 bits without its sign, as Go's int -/
abbrev nI (n : Nat) : Value := .int .i64 (n : Int)
end Go.Proofs.Ytfbmpgffekhmhaa
