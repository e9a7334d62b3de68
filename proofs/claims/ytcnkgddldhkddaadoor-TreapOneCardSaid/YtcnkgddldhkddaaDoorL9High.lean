/- The document's own answer of layer 9: Height. -/
import Derived.Test.YtcnkgddldhkddaaDoorL9Parts
import Derived.Test.YtcnkgddldhkddaaDoorL10Math
namespace Go.Proofs.YtcnkgddldhkddaaDoor
open Go.RowKit Go.Proofs.Treem

/-- a number of 64 bits without its sign, as Go's int -/
abbrev nI (n : Nat) : Value := .int .i64 (n : Int)
end Go.Proofs.YtcnkgddldhkddaaDoor
