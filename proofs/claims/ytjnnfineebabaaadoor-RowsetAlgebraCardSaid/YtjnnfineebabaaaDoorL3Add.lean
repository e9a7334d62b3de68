/- The contract of Sum of package fold. -/
import Derived.Test.YtjnnfineebabaaaDoorL3Leaf
import Derived.Test.YtjnnfineebabaaaDoorGCut
import Derived.Outline
namespace Go.Proofs.YtjnnfineebabaaaDoor
open Go.RowKit Go.Proofs.Foldm

/-- both, the sum under a name -/
theorem both_is {a b t : BitVec 64} (h : a + b = t) (w : World) : Calls Tryd.prog 61 #[K a, K b] w fun e w' => e = .returned (K t) ∧ w = w' := h ▸ both_any a b w

end Go.Proofs.YtjnnfineebabaaaDoor
