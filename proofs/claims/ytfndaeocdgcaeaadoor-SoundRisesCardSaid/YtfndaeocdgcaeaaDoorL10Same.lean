/- The document's own answers of layer 10: whether two rows of pairs, of keys, are the same, where they are. -/
import Derived.Test.YtfndaeocdgcaeaaDoorL10Ok
import Derived.Test.YtfndaeocdgcaeaaDoorGApp
import Derived.IntWalk
import Derived.Deep.QuietTactic
import Derived.BigQuiet
import Derived.Outline
namespace Go.Proofs.YtfndaeocdgcaeaaDoor
open Go.RowKit Go.Proofs.Rowm

end Go.Proofs.YtfndaeocdgcaeaaDoor
