/-
  No cell of these rows narrows 'for every input' (looked for: loops, veiled, ifaces, maps, wideKeys, modest, calm, conditions, laid).
  DERIVED. THE GIVEN ROWS OF THIS SEAT. 4 by the template 'for every input the law returns true; each argument reads behind the call as it read before'; 0 by the template 'total and deterministic' (their statements: YtbdgkkkakfkalaaTotals.lean).
  GIVEN WITH THE SEED: the statements are not yours to turn. If you find one false, say at which input.
  Laid BY PROGRAM, IN A SANDBOX (cutbox-rows.mjs): the forced cells as the released guide's own fill.sh prints them over the translation 85af8f4dda9ca891… (all of the seat's roots in one cut). By AI agents, Wed Nov 11 2026. No macro, syntax, notation, axiom, sorry.
-/
import Derived.Test.YtbdgkkkakfkalaaChecked
import GoSem.Claim
import GoSem.ClaimJoined
import GoSem.ClaimMapViews
import Derived.JoinedTies
import Derived.KernelRfl
namespace Go.Proofs.Ytbdgkkkakfkalaa
/- THE CELL 'sum', in the pinned program and in every row, IS THE sha256 OF THE DUMP (.gsa) THAT YtbdgkkkakfkalaaProg.lean LOADS. Nothing in Lean hashes anything: it is a label: what it is worth is what the hold of that sum in a sandbox is worth. -/
noncomputable def Try.pinned : Pinned := { name := "ytbdgkkkakfkalaa", sum := "85af8f4dda9ca8915874c153d03a763aa53452d23a454be0f54a13a3a272d7c4", checked := Try.checked }
namespace Rows
def none {H : Type} : Left H := { results := [], args := [] }

/-- 'joinerylaw14.AvlTells': WHATEVER THE INPUT: true; the input reads as it did. -/
def avlTellsSpec : ChangeSpec := { name := "avlTells", fn := fun _ => fun
  | [d] => { results := [.lit (.bool true)], args := [d] }
  | _ => none }
def avlTellsRow : OpenClaim := { program := "ytbdgkkkakfkalaa", sum := "85af8f4dda9ca8915874c153d03a763aa53452d23a454be0f54a13a3a272d7c4", func := "joinery/joinerylaw14.AvlTells", spec := "avlTells", unfollowed := true, recurses := true, apart := false }
def AvlTellsSaid : Prop := avlTellsRow.holds Try.pinned (OpenSpec.ofChange avlTellsSpec)

/-- ITS FALSE NEIGHBOUR: 'it returns false'. Refute it at one input. -/
def avlTellsWrong : ChangeSpec := { name := "avlTells", fn := fun _ => fun
  | [d] => { results := [.lit (.bool false)], args := [d] }
  | _ => none }
def AvlTellsWrongFalsely : Prop := avlTellsRow.holds Try.pinned (OpenSpec.ofChange avlTellsWrong)

/-- 'joinerylaw14.AvlMakes': WHATEVER THE INPUT: true; the input reads as it did. -/
def avlMakesSpec : ChangeSpec := { name := "avlMakes", fn := fun _ => fun
  | [d1, d2, d3, d4] => { results := [.lit (.bool true)], args := [d1, d2, d3, d4] }
  | _ => none }
def avlMakesRow : OpenClaim := { program := "ytbdgkkkakfkalaa", sum := "85af8f4dda9ca8915874c153d03a763aa53452d23a454be0f54a13a3a272d7c4", func := "joinery/joinerylaw14.AvlMakes", spec := "avlMakes", unfollowed := true, recurses := true, apart := false }
def AvlMakesSaid : Prop := avlMakesRow.holds Try.pinned (OpenSpec.ofChange avlMakesSpec)

/-- ITS FALSE NEIGHBOUR: 'it returns false'. Refute it at one input. -/
def avlMakesWrong : ChangeSpec := { name := "avlMakes", fn := fun _ => fun
  | [d1, d2, d3, d4] => { results := [.lit (.bool false)], args := [d1, d2, d3, d4] }
  | _ => none }
def AvlMakesWrongFalsely : Prop := avlMakesRow.holds Try.pinned (OpenSpec.ofChange avlMakesWrong)

/-- 'joinerylaw14.AvlHigh': WHATEVER THE INPUT: true; the input reads as it did. -/
def avlHighSpec : ChangeSpec := { name := "avlHigh", fn := fun _ => fun
  | [d] => { results := [.lit (.bool true)], args := [d] }
  | _ => none }
def avlHighRow : OpenClaim := { program := "ytbdgkkkakfkalaa", sum := "85af8f4dda9ca8915874c153d03a763aa53452d23a454be0f54a13a3a272d7c4", func := "joinery/joinerylaw14.AvlHigh", spec := "avlHigh", unfollowed := true, recurses := true, apart := false }
def AvlHighSaid : Prop := avlHighRow.holds Try.pinned (OpenSpec.ofChange avlHighSpec)

/-- ITS FALSE NEIGHBOUR: 'it returns false'. Refute it at one input. -/
def avlHighWrong : ChangeSpec := { name := "avlHigh", fn := fun _ => fun
  | [d] => { results := [.lit (.bool false)], args := [d] }
  | _ => none }
def AvlHighWrongFalsely : Prop := avlHighRow.holds Try.pinned (OpenSpec.ofChange avlHighWrong)

/-- 'joinerylaw14.AvlLeast': WHATEVER THE INPUT: true; the input reads as it did. -/
def avlLeastSpec : ChangeSpec := { name := "avlLeast", fn := fun _ => fun
  | [d] => { results := [.lit (.bool true)], args := [d] }
  | _ => none }
def avlLeastRow : OpenClaim := { program := "ytbdgkkkakfkalaa", sum := "85af8f4dda9ca8915874c153d03a763aa53452d23a454be0f54a13a3a272d7c4", func := "joinery/joinerylaw14.AvlLeast", spec := "avlLeast", unfollowed := true, recurses := true, apart := false }
def AvlLeastSaid : Prop := avlLeastRow.holds Try.pinned (OpenSpec.ofChange avlLeastSpec)

/-- ITS FALSE NEIGHBOUR: 'it returns false'. Refute it at one input. -/
def avlLeastWrong : ChangeSpec := { name := "avlLeast", fn := fun _ => fun
  | [d] => { results := [.lit (.bool false)], args := [d] }
  | _ => none }
def AvlLeastWrongFalsely : Prop := avlLeastRow.holds Try.pinned (OpenSpec.ofChange avlLeastWrong)

/- THE SECOND FORM. 'bulk': how many values and letters a reading holds, each counted each time it is reached (what is shared counts as often as it is met; a slice's spare places count too). A statement '..UptoSaid' is the law's where the arguments, and the package variables that the reading takes, are together of bulk at most 1048576: NARROWER than '..Said'. Prove '..Said' where nothing that the law and all that it calls make is longer than what came in: it says more and counts as full. Else prove '..UptoSaid'. A law counts once. -/
mutual
def uptoBulk {H : Type} : DataW H → Nat
  | .lit (.string bytes) => bytes.length + 1
  | .lit _ => 1
  | .nil => 1
  | .ptr d => uptoBulk d + 1
  | .slice elems spare => uptoBulkAll elems + uptoBulkAll spare + 1
  | .agg parts => uptoBulkAll parts + 1
  | .iface _ d => uptoBulk d + 1
  | .map entries => uptoBulkEntries entries + 1
  | .held _ => 1
def uptoBulkAll {H : Type} : List (DataW H) → Nat
  | [] => 0
  | d :: r => uptoBulk d + uptoBulkAll r
def uptoBulkEntries {H : Type} : List (Lit × DataW H) → Nat
  | [] => 0
  | x :: r => uptoBulkEntry x + uptoBulkEntries r
def uptoBulkEntry {H : Type} : Lit × DataW H → Nat
  | (.string bytes, d) => bytes.length + uptoBulk d + 1
  | (_, d) => uptoBulk d + 1
 end
def uptoSmall : (H : Type) → List (DataW H) → Bool := fun _ ds => decide (uptoBulkAll ds ≤ 1048576)
def OpenSpec.upto (s : _root_.Go.ChangeSpec) : _root_.Go.OpenSpec := { _root_.Go.OpenSpec.ofChange s with cond := some uptoSmall }

/-- 'joinerylaw14.AvlTells', WHERE WHAT IT READS IS OF BULK AT MOST 1048576: true; the input reads as it did. -/
def avlTellsUptoRow : OpenClaim := { program := "ytbdgkkkakfkalaa", sum := "85af8f4dda9ca8915874c153d03a763aa53452d23a454be0f54a13a3a272d7c4", func := "joinery/joinerylaw14.AvlTells", spec := "avlTells", unfollowed := true, recurses := true, apart := false, narrowed := true }
def AvlTellsUptoSaid : Prop := avlTellsUptoRow.holds Try.pinned (OpenSpec.upto avlTellsSpec)

/-- 'joinerylaw14.AvlMakes', WHERE WHAT IT READS IS OF BULK AT MOST 1048576: true; the input reads as it did. -/
def avlMakesUptoRow : OpenClaim := { program := "ytbdgkkkakfkalaa", sum := "85af8f4dda9ca8915874c153d03a763aa53452d23a454be0f54a13a3a272d7c4", func := "joinery/joinerylaw14.AvlMakes", spec := "avlMakes", unfollowed := true, recurses := true, apart := false, narrowed := true }
def AvlMakesUptoSaid : Prop := avlMakesUptoRow.holds Try.pinned (OpenSpec.upto avlMakesSpec)

/-- 'joinerylaw14.AvlHigh', WHERE WHAT IT READS IS OF BULK AT MOST 1048576: true; the input reads as it did. -/
def avlHighUptoRow : OpenClaim := { program := "ytbdgkkkakfkalaa", sum := "85af8f4dda9ca8915874c153d03a763aa53452d23a454be0f54a13a3a272d7c4", func := "joinery/joinerylaw14.AvlHigh", spec := "avlHigh", unfollowed := true, recurses := true, apart := false, narrowed := true }
def AvlHighUptoSaid : Prop := avlHighUptoRow.holds Try.pinned (OpenSpec.upto avlHighSpec)

/-- 'joinerylaw14.AvlLeast', WHERE WHAT IT READS IS OF BULK AT MOST 1048576: true; the input reads as it did. -/
def avlLeastUptoRow : OpenClaim := { program := "ytbdgkkkakfkalaa", sum := "85af8f4dda9ca8915874c153d03a763aa53452d23a454be0f54a13a3a272d7c4", func := "joinery/joinerylaw14.AvlLeast", spec := "avlLeast", unfollowed := true, recurses := true, apart := false, narrowed := true }
def AvlLeastUptoSaid : Prop := avlLeastUptoRow.holds Try.pinned (OpenSpec.upto avlLeastSpec)

end Rows
end Go.Proofs.Ytbdgkkkakfkalaa
