/- The document's own answers of layer 10: Turned, Has. -/
import Derived.Test.YtfndaeocdgcaeaaDoorL10Same
import Derived.Test.YtfndaeocdgcaeaaDoorL9Of
namespace Go.Proofs.YtfndaeocdgcaeaaDoor
open Go.RowKit Go.Proofs.Rowm Go.Proofs.Treem

/-- which beads have a key -/
theorem hasB_take (l : List Bd) (key : BitVec 64) (k : Nat) (h : k < l.length) : hasB ((l.take (k + 1)).map strip) key = (hasB ((l.take k).map strip) key || decide (l[k].key = key)) := by
  rw [List.take_succ_eq_append_getElem h, List.map_append]
  simp only [hasB, List.any_append, List.map_cons, List.map_nil, List.any_cons, List.any_nil, Bool.or_false]
  rfl
end Go.Proofs.YtfndaeocdgcaeaaDoor
