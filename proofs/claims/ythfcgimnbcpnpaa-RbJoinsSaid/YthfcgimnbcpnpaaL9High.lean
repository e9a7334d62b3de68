/- The document's own answer of layer 9: Height. -/
import Derived.Test.YthfcgimnbcpnpaaL9Parts
import Derived.Test.YthfcgimnbcpnpaaL10Math
namespace Go.Proofs.Ythfcgimnbcpnpaa
open Go.RowKit Go.Proofs.Treem

/-- a number of 64 bits without its sign, as Go's int -/
abbrev nI (n : Nat) : Value := .int .i64 (n : Int)
end Go.Proofs.Ythfcgimnbcpnpaa
