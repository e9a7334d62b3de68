/- The document's own answer of layer 9: Height. -/
import Derived.Test.YtifhnaelkjfmdabL9Parts
import Derived.Test.YtifhnaelkjfmdabL10Math
namespace Go.Proofs.Ytifhnaelkjfmdab
open Go.RowKit Go.Proofs.Treem

/-- a number of 64 bits without its sign, as Go's int -/
abbrev nI (n : Nat) : Value := .int .i64 (n : Int)
end Go.Proofs.Ytifhnaelkjfmdab
