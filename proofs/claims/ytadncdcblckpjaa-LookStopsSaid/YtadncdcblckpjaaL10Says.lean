/- Layer 10: what the program's own package look answers. -/
import Derived.Test.YtadncdcblckpjaaN10High
import Derived.Test.YtadncdcblckpjaaN10Rest
namespace Go.Proofs.Ytadncdcblckpjaa
open Go.RowKit Go.Proofs.Treem Go.Proofs.Rowm
variable {Nd : NdP}

theorem look_says (hN : NodeSays Nd) : LookSays Nd where
  all := fun w t p B hB hT hl => all_goes hN w t p B hB hT hl
  back := fun w t p B hB hT hl => back_goes hN w t p B hB hT hl
  pairs := fun w t p hT hl => pairsN hN w t p hT hl
  keys := fun w t p hT hl => keysN hN w t p hT hl
  height := fun w t p hT hl => heightN hN w t p hT hl
  count := fun w t p hT hl => countN hN w t p hT hl
  has := fun w t p k hT hl => hasN hN w t p k hT hl
  deep := fun w t p k hT hl => deepN hN w t p k hT hl
end Go.Proofs.Ytadncdcblckpjaa
