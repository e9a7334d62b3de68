/- The contract of Put of package row: a key that is there; both. -/
import Derived.Test.YtjnnfineebabaaaDoorL4PutB
namespace Go.Proofs.YtjnnfineebabaaaDoor
open Go.RowKit Go.Shelf Go.Proofs.Rowm

end Go.Proofs.YtjnnfineebabaaaDoor
