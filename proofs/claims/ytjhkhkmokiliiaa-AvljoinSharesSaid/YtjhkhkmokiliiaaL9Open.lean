/- What the rows of layer 9 share. -/
import Derived.Test.YtjhkhkmokiliiaaGOpen
import Derived.Test.YtjhkhkmokiliiaaGBeads
import Derived.Test.YtjhkhkmokiliiaaChecked
namespace Go.Proofs.Ytjhkhkmokiliiaa
open Go.RowKit
set_option maxRecDepth 100000
theorem own : ownKnob Try.prog.godebug = none := by kernel_rfl
theorem laidOut : laidOutB Try.prog = true := by kernel_rfl
end Go.Proofs.Ytjhkhkmokiliiaa
