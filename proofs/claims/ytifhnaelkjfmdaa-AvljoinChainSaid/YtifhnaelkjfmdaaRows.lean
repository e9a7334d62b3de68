/-
  No cell of these rows narrows 'for every input' (looked for: loops, veiled, ifaces, maps, wideKeys, modest, calm, conditions, laid).
  DERIVED. THE GIVEN ROWS OF THIS SEAT. 12 by the template 'for every input the law returns true; each argument reads behind the call as it read before'; 0 by the template 'total and deterministic' (their statements: YtifhnaelkjfmdaaTotals.lean).
  GIVEN WITH THE SEED: the statements are not yours to turn. If you find one false, say at which input.
  Laid BY PROGRAM, IN A SANDBOX (cutbox-rows.mjs): the forced cells as the released guide's own fill.sh prints them over the translation 2c1fd1e2c8040904… (all of the seat's roots in one cut). By AI agents, Wed Nov 11 2026. No macro, syntax, notation, axiom, sorry.
-/
import Derived.Test.YtifhnaelkjfmdaaChecked
import GoSem.Claim
import GoSem.ClaimJoined
import GoSem.ClaimMapViews
import Derived.JoinedTies
import Derived.KernelRfl
namespace Go.Proofs.Ytifhnaelkjfmdaa
/- THE CELL 'sum', in the pinned program and in every row, IS THE sha256 OF THE DUMP (.gsa) THAT YtifhnaelkjfmdaaProg.lean LOADS. Nothing in Lean hashes anything: it is a label: what it is worth is what the hold of that sum in a sandbox is worth. -/
noncomputable def Try.pinned : Pinned := { name := "ytifhnaelkjfmdaa", sum := "2c1fd1e2c80409045bc9c1ee22bd64e5ade28cf16b5a0b55485578b0ac6dcba8", checked := Try.checked }
namespace Rows
def none {H : Type} : Left H := { results := [], args := [] }

/-- 'joinerylaw18.WbTells': WHATEVER THE INPUT: true; the input reads as it did. -/
def wbTellsSpec : ChangeSpec := { name := "wbTells", fn := fun _ => fun
  | [d] => { results := [.lit (.bool true)], args := [d] }
  | _ => none }
def wbTellsRow : OpenClaim := { program := "ytifhnaelkjfmdaa", sum := "2c1fd1e2c80409045bc9c1ee22bd64e5ade28cf16b5a0b55485578b0ac6dcba8", func := "joinery/joinerylaw18.WbTells", spec := "wbTells", unfollowed := true, recurses := true, apart := false }
def WbTellsSaid : Prop := wbTellsRow.holds Try.pinned (OpenSpec.ofChange wbTellsSpec)

/-- ITS FALSE NEIGHBOUR: 'it returns false'. Refute it at one input. -/
def wbTellsWrong : ChangeSpec := { name := "wbTells", fn := fun _ => fun
  | [d] => { results := [.lit (.bool false)], args := [d] }
  | _ => none }
def WbTellsWrongFalsely : Prop := wbTellsRow.holds Try.pinned (OpenSpec.ofChange wbTellsWrong)

/-- 'joinerylaw18.WbLikes': WHATEVER THE INPUT: true; the input reads as it did. -/
def wbLikesSpec : ChangeSpec := { name := "wbLikes", fn := fun _ => fun
  | [d1, d2] => { results := [.lit (.bool true)], args := [d1, d2] }
  | _ => none }
def wbLikesRow : OpenClaim := { program := "ytifhnaelkjfmdaa", sum := "2c1fd1e2c80409045bc9c1ee22bd64e5ade28cf16b5a0b55485578b0ac6dcba8", func := "joinery/joinerylaw18.WbLikes", spec := "wbLikes", unfollowed := true, recurses := true, apart := false }
def WbLikesSaid : Prop := wbLikesRow.holds Try.pinned (OpenSpec.ofChange wbLikesSpec)

/-- ITS FALSE NEIGHBOUR: 'it returns false'. Refute it at one input. -/
def wbLikesWrong : ChangeSpec := { name := "wbLikes", fn := fun _ => fun
  | [d1, d2] => { results := [.lit (.bool false)], args := [d1, d2] }
  | _ => none }
def WbLikesWrongFalsely : Prop := wbLikesRow.holds Try.pinned (OpenSpec.ofChange wbLikesWrong)

/-- 'joinerylaw18.WbMakes': WHATEVER THE INPUT: true; the input reads as it did. -/
def wbMakesSpec : ChangeSpec := { name := "wbMakes", fn := fun _ => fun
  | [d1, d2, d3, d4] => { results := [.lit (.bool true)], args := [d1, d2, d3, d4] }
  | _ => none }
def wbMakesRow : OpenClaim := { program := "ytifhnaelkjfmdaa", sum := "2c1fd1e2c80409045bc9c1ee22bd64e5ade28cf16b5a0b55485578b0ac6dcba8", func := "joinery/joinerylaw18.WbMakes", spec := "wbMakes", unfollowed := true, recurses := true, apart := false }
def WbMakesSaid : Prop := wbMakesRow.holds Try.pinned (OpenSpec.ofChange wbMakesSpec)

/-- ITS FALSE NEIGHBOUR: 'it returns false'. Refute it at one input. -/
def wbMakesWrong : ChangeSpec := { name := "wbMakes", fn := fun _ => fun
  | [d1, d2, d3, d4] => { results := [.lit (.bool false)], args := [d1, d2, d3, d4] }
  | _ => none }
def WbMakesWrongFalsely : Prop := wbMakesRow.holds Try.pinned (OpenSpec.ofChange wbMakesWrong)

/-- 'joinerylaw18.WbHigh': WHATEVER THE INPUT: true; the input reads as it did. -/
def wbHighSpec : ChangeSpec := { name := "wbHigh", fn := fun _ => fun
  | [d] => { results := [.lit (.bool true)], args := [d] }
  | _ => none }
def wbHighRow : OpenClaim := { program := "ytifhnaelkjfmdaa", sum := "2c1fd1e2c80409045bc9c1ee22bd64e5ade28cf16b5a0b55485578b0ac6dcba8", func := "joinery/joinerylaw18.WbHigh", spec := "wbHigh", unfollowed := true, recurses := true, apart := false }
def WbHighSaid : Prop := wbHighRow.holds Try.pinned (OpenSpec.ofChange wbHighSpec)

/-- ITS FALSE NEIGHBOUR: 'it returns false'. Refute it at one input. -/
def wbHighWrong : ChangeSpec := { name := "wbHigh", fn := fun _ => fun
  | [d] => { results := [.lit (.bool false)], args := [d] }
  | _ => none }
def WbHighWrongFalsely : Prop := wbHighRow.holds Try.pinned (OpenSpec.ofChange wbHighWrong)

/-- 'joinerylaw14.AvlTells': WHATEVER THE INPUT: true; the input reads as it did. -/
def avlTellsSpec : ChangeSpec := { name := "avlTells", fn := fun _ => fun
  | [d] => { results := [.lit (.bool true)], args := [d] }
  | _ => none }
def avlTellsRow : OpenClaim := { program := "ytifhnaelkjfmdaa", sum := "2c1fd1e2c80409045bc9c1ee22bd64e5ade28cf16b5a0b55485578b0ac6dcba8", func := "joinery/joinerylaw14.AvlTells", spec := "avlTells", unfollowed := true, recurses := true, apart := false }
def AvlTellsSaid : Prop := avlTellsRow.holds Try.pinned (OpenSpec.ofChange avlTellsSpec)

/-- ITS FALSE NEIGHBOUR: 'it returns false'. Refute it at one input. -/
def avlTellsWrong : ChangeSpec := { name := "avlTells", fn := fun _ => fun
  | [d] => { results := [.lit (.bool false)], args := [d] }
  | _ => none }
def AvlTellsWrongFalsely : Prop := avlTellsRow.holds Try.pinned (OpenSpec.ofChange avlTellsWrong)

/-- 'joinerylaw14.AvlMakes': WHATEVER THE INPUT: true; the input reads as it did. -/
def avlMakesSpec : ChangeSpec := { name := "avlMakes", fn := fun _ => fun
  | [d1, d2, d3, d4] => { results := [.lit (.bool true)], args := [d1, d2, d3, d4] }
  | _ => none }
def avlMakesRow : OpenClaim := { program := "ytifhnaelkjfmdaa", sum := "2c1fd1e2c80409045bc9c1ee22bd64e5ade28cf16b5a0b55485578b0ac6dcba8", func := "joinery/joinerylaw14.AvlMakes", spec := "avlMakes", unfollowed := true, recurses := true, apart := false }
def AvlMakesSaid : Prop := avlMakesRow.holds Try.pinned (OpenSpec.ofChange avlMakesSpec)

/-- ITS FALSE NEIGHBOUR: 'it returns false'. Refute it at one input. -/
def avlMakesWrong : ChangeSpec := { name := "avlMakes", fn := fun _ => fun
  | [d1, d2, d3, d4] => { results := [.lit (.bool false)], args := [d1, d2, d3, d4] }
  | _ => none }
def AvlMakesWrongFalsely : Prop := avlMakesRow.holds Try.pinned (OpenSpec.ofChange avlMakesWrong)

/-- 'joinerylaw14.AvlHigh': WHATEVER THE INPUT: true; the input reads as it did. -/
def avlHighSpec : ChangeSpec := { name := "avlHigh", fn := fun _ => fun
  | [d] => { results := [.lit (.bool true)], args := [d] }
  | _ => none }
def avlHighRow : OpenClaim := { program := "ytifhnaelkjfmdaa", sum := "2c1fd1e2c80409045bc9c1ee22bd64e5ade28cf16b5a0b55485578b0ac6dcba8", func := "joinery/joinerylaw14.AvlHigh", spec := "avlHigh", unfollowed := true, recurses := true, apart := false }
def AvlHighSaid : Prop := avlHighRow.holds Try.pinned (OpenSpec.ofChange avlHighSpec)

/-- ITS FALSE NEIGHBOUR: 'it returns false'. Refute it at one input. -/
def avlHighWrong : ChangeSpec := { name := "avlHigh", fn := fun _ => fun
  | [d] => { results := [.lit (.bool false)], args := [d] }
  | _ => none }
def AvlHighWrongFalsely : Prop := avlHighRow.holds Try.pinned (OpenSpec.ofChange avlHighWrong)

/-- 'joinerylaw14.AvlLeast': WHATEVER THE INPUT: true; the input reads as it did. -/
def avlLeastSpec : ChangeSpec := { name := "avlLeast", fn := fun _ => fun
  | [d] => { results := [.lit (.bool true)], args := [d] }
  | _ => none }
def avlLeastRow : OpenClaim := { program := "ytifhnaelkjfmdaa", sum := "2c1fd1e2c80409045bc9c1ee22bd64e5ade28cf16b5a0b55485578b0ac6dcba8", func := "joinery/joinerylaw14.AvlLeast", spec := "avlLeast", unfollowed := true, recurses := true, apart := false }
def AvlLeastSaid : Prop := avlLeastRow.holds Try.pinned (OpenSpec.ofChange avlLeastSpec)

/-- ITS FALSE NEIGHBOUR: 'it returns false'. Refute it at one input. -/
def avlLeastWrong : ChangeSpec := { name := "avlLeast", fn := fun _ => fun
  | [d] => { results := [.lit (.bool false)], args := [d] }
  | _ => none }
def AvlLeastWrongFalsely : Prop := avlLeastRow.holds Try.pinned (OpenSpec.ofChange avlLeastWrong)

/-- 'joinerylaw15.AvlJoins': WHATEVER THE INPUT: true; the input reads as it did. -/
def avlJoinsSpec : ChangeSpec := { name := "avlJoins", fn := fun _ => fun
  | [d1, d2, d3, d4] => { results := [.lit (.bool true)], args := [d1, d2, d3, d4] }
  | _ => none }
def avlJoinsRow : OpenClaim := { program := "ytifhnaelkjfmdaa", sum := "2c1fd1e2c80409045bc9c1ee22bd64e5ade28cf16b5a0b55485578b0ac6dcba8", func := "joinery/joinerylaw15.AvlJoins", spec := "avlJoins", unfollowed := true, recurses := true, apart := false }
def AvlJoinsSaid : Prop := avlJoinsRow.holds Try.pinned (OpenSpec.ofChange avlJoinsSpec)

/-- ITS FALSE NEIGHBOUR: 'it returns false'. Refute it at one input. -/
def avlJoinsWrong : ChangeSpec := { name := "avlJoins", fn := fun _ => fun
  | [d1, d2, d3, d4] => { results := [.lit (.bool false)], args := [d1, d2, d3, d4] }
  | _ => none }
def AvlJoinsWrongFalsely : Prop := avlJoinsRow.holds Try.pinned (OpenSpec.ofChange avlJoinsWrong)

/-- 'joinerylaw15.AvljoinShares': WHATEVER THE INPUT: true; the input reads as it did. -/
def avljoinSharesSpec : ChangeSpec := { name := "avljoinShares", fn := fun _ => fun
  | [d1, d2, d3, d4] => { results := [.lit (.bool true)], args := [d1, d2, d3, d4] }
  | _ => none }
def avljoinSharesRow : OpenClaim := { program := "ytifhnaelkjfmdaa", sum := "2c1fd1e2c80409045bc9c1ee22bd64e5ade28cf16b5a0b55485578b0ac6dcba8", func := "joinery/joinerylaw15.AvljoinShares", spec := "avljoinShares", unfollowed := true, recurses := true, apart := false }
def AvljoinSharesSaid : Prop := avljoinSharesRow.holds Try.pinned (OpenSpec.ofChange avljoinSharesSpec)

/-- ITS FALSE NEIGHBOUR: 'it returns false'. Refute it at one input. -/
def avljoinSharesWrong : ChangeSpec := { name := "avljoinShares", fn := fun _ => fun
  | [d1, d2, d3, d4] => { results := [.lit (.bool false)], args := [d1, d2, d3, d4] }
  | _ => none }
def AvljoinSharesWrongFalsely : Prop := avljoinSharesRow.holds Try.pinned (OpenSpec.ofChange avljoinSharesWrong)

/-- 'joinerylaw15.AvljoinChain': WHATEVER THE INPUT: true; the input reads as it did. -/
def avljoinChainSpec : ChangeSpec := { name := "avljoinChain", fn := fun _ => fun
  | [d1, d2, d3] => { results := [.lit (.bool true)], args := [d1, d2, d3] }
  | _ => none }
def avljoinChainRow : OpenClaim := { program := "ytifhnaelkjfmdaa", sum := "2c1fd1e2c80409045bc9c1ee22bd64e5ade28cf16b5a0b55485578b0ac6dcba8", func := "joinery/joinerylaw15.AvljoinChain", spec := "avljoinChain", unfollowed := true, recurses := true, apart := false }
def AvljoinChainSaid : Prop := avljoinChainRow.holds Try.pinned (OpenSpec.ofChange avljoinChainSpec)

/-- ITS FALSE NEIGHBOUR: 'it returns false'. Refute it at one input. -/
def avljoinChainWrong : ChangeSpec := { name := "avljoinChain", fn := fun _ => fun
  | [d1, d2, d3] => { results := [.lit (.bool false)], args := [d1, d2, d3] }
  | _ => none }
def AvljoinChainWrongFalsely : Prop := avljoinChainRow.holds Try.pinned (OpenSpec.ofChange avljoinChainWrong)

/-- 'joinerylaw16.RbTells': WHATEVER THE INPUT: true; the input reads as it did. -/
def rbTellsSpec : ChangeSpec := { name := "rbTells", fn := fun _ => fun
  | [d] => { results := [.lit (.bool true)], args := [d] }
  | _ => none }
def rbTellsRow : OpenClaim := { program := "ytifhnaelkjfmdaa", sum := "2c1fd1e2c80409045bc9c1ee22bd64e5ade28cf16b5a0b55485578b0ac6dcba8", func := "joinery/joinerylaw16.RbTells", spec := "rbTells", unfollowed := true, recurses := true, apart := false }
def RbTellsSaid : Prop := rbTellsRow.holds Try.pinned (OpenSpec.ofChange rbTellsSpec)

/-- ITS FALSE NEIGHBOUR: 'it returns false'. Refute it at one input. -/
def rbTellsWrong : ChangeSpec := { name := "rbTells", fn := fun _ => fun
  | [d] => { results := [.lit (.bool false)], args := [d] }
  | _ => none }
def RbTellsWrongFalsely : Prop := rbTellsRow.holds Try.pinned (OpenSpec.ofChange rbTellsWrong)

/- THE SECOND FORM. 'bulk': how many values and letters a reading holds, each counted each time it is reached (what is shared counts as often as it is met; a slice's spare places count too). A statement '..UptoSaid' is the law's where the arguments, and the package variables that the reading takes, are together of bulk at most 1048576: NARROWER than '..Said'. Prove '..Said' where nothing that the law and all that it calls make is longer than what came in: it says more and counts as full. Else prove '..UptoSaid'. A law counts once. -/
mutual
def uptoBulk {H : Type} : DataW H → Nat
  | .lit (.string bytes) => bytes.length + 1
  | .lit _ => 1
  | .nil => 1
  | .ptr d => uptoBulk d + 1
  | .slice elems spare => uptoBulkAll elems + uptoBulkAll spare + 1
  | .agg parts => uptoBulkAll parts + 1
  | .iface _ d => uptoBulk d + 1
  | .map entries => uptoBulkEntries entries + 1
  | .held _ => 1
def uptoBulkAll {H : Type} : List (DataW H) → Nat
  | [] => 0
  | d :: r => uptoBulk d + uptoBulkAll r
def uptoBulkEntries {H : Type} : List (Lit × DataW H) → Nat
  | [] => 0
  | x :: r => uptoBulkEntry x + uptoBulkEntries r
def uptoBulkEntry {H : Type} : Lit × DataW H → Nat
  | (.string bytes, d) => bytes.length + uptoBulk d + 1
  | (_, d) => uptoBulk d + 1
 end
def uptoSmall : (H : Type) → List (DataW H) → Bool := fun _ ds => decide (uptoBulkAll ds ≤ 1048576)
def OpenSpec.upto (s : _root_.Go.ChangeSpec) : _root_.Go.OpenSpec := { _root_.Go.OpenSpec.ofChange s with cond := some uptoSmall }

/-- 'joinerylaw18.WbTells', WHERE WHAT IT READS IS OF BULK AT MOST 1048576: true; the input reads as it did. -/
def wbTellsUptoRow : OpenClaim := { program := "ytifhnaelkjfmdaa", sum := "2c1fd1e2c80409045bc9c1ee22bd64e5ade28cf16b5a0b55485578b0ac6dcba8", func := "joinery/joinerylaw18.WbTells", spec := "wbTells", unfollowed := true, recurses := true, apart := false, narrowed := true }
def WbTellsUptoSaid : Prop := wbTellsUptoRow.holds Try.pinned (OpenSpec.upto wbTellsSpec)

/-- 'joinerylaw18.WbLikes', WHERE WHAT IT READS IS OF BULK AT MOST 1048576: true; the input reads as it did. -/
def wbLikesUptoRow : OpenClaim := { program := "ytifhnaelkjfmdaa", sum := "2c1fd1e2c80409045bc9c1ee22bd64e5ade28cf16b5a0b55485578b0ac6dcba8", func := "joinery/joinerylaw18.WbLikes", spec := "wbLikes", unfollowed := true, recurses := true, apart := false, narrowed := true }
def WbLikesUptoSaid : Prop := wbLikesUptoRow.holds Try.pinned (OpenSpec.upto wbLikesSpec)

/-- 'joinerylaw18.WbMakes', WHERE WHAT IT READS IS OF BULK AT MOST 1048576: true; the input reads as it did. -/
def wbMakesUptoRow : OpenClaim := { program := "ytifhnaelkjfmdaa", sum := "2c1fd1e2c80409045bc9c1ee22bd64e5ade28cf16b5a0b55485578b0ac6dcba8", func := "joinery/joinerylaw18.WbMakes", spec := "wbMakes", unfollowed := true, recurses := true, apart := false, narrowed := true }
def WbMakesUptoSaid : Prop := wbMakesUptoRow.holds Try.pinned (OpenSpec.upto wbMakesSpec)

/-- 'joinerylaw18.WbHigh', WHERE WHAT IT READS IS OF BULK AT MOST 1048576: true; the input reads as it did. -/
def wbHighUptoRow : OpenClaim := { program := "ytifhnaelkjfmdaa", sum := "2c1fd1e2c80409045bc9c1ee22bd64e5ade28cf16b5a0b55485578b0ac6dcba8", func := "joinery/joinerylaw18.WbHigh", spec := "wbHigh", unfollowed := true, recurses := true, apart := false, narrowed := true }
def WbHighUptoSaid : Prop := wbHighUptoRow.holds Try.pinned (OpenSpec.upto wbHighSpec)

/-- 'joinerylaw14.AvlTells', WHERE WHAT IT READS IS OF BULK AT MOST 1048576: true; the input reads as it did. -/
def avlTellsUptoRow : OpenClaim := { program := "ytifhnaelkjfmdaa", sum := "2c1fd1e2c80409045bc9c1ee22bd64e5ade28cf16b5a0b55485578b0ac6dcba8", func := "joinery/joinerylaw14.AvlTells", spec := "avlTells", unfollowed := true, recurses := true, apart := false, narrowed := true }
def AvlTellsUptoSaid : Prop := avlTellsUptoRow.holds Try.pinned (OpenSpec.upto avlTellsSpec)

/-- 'joinerylaw14.AvlMakes', WHERE WHAT IT READS IS OF BULK AT MOST 1048576: true; the input reads as it did. -/
def avlMakesUptoRow : OpenClaim := { program := "ytifhnaelkjfmdaa", sum := "2c1fd1e2c80409045bc9c1ee22bd64e5ade28cf16b5a0b55485578b0ac6dcba8", func := "joinery/joinerylaw14.AvlMakes", spec := "avlMakes", unfollowed := true, recurses := true, apart := false, narrowed := true }
def AvlMakesUptoSaid : Prop := avlMakesUptoRow.holds Try.pinned (OpenSpec.upto avlMakesSpec)

/-- 'joinerylaw14.AvlHigh', WHERE WHAT IT READS IS OF BULK AT MOST 1048576: true; the input reads as it did. -/
def avlHighUptoRow : OpenClaim := { program := "ytifhnaelkjfmdaa", sum := "2c1fd1e2c80409045bc9c1ee22bd64e5ade28cf16b5a0b55485578b0ac6dcba8", func := "joinery/joinerylaw14.AvlHigh", spec := "avlHigh", unfollowed := true, recurses := true, apart := false, narrowed := true }
def AvlHighUptoSaid : Prop := avlHighUptoRow.holds Try.pinned (OpenSpec.upto avlHighSpec)

/-- 'joinerylaw14.AvlLeast', WHERE WHAT IT READS IS OF BULK AT MOST 1048576: true; the input reads as it did. -/
def avlLeastUptoRow : OpenClaim := { program := "ytifhnaelkjfmdaa", sum := "2c1fd1e2c80409045bc9c1ee22bd64e5ade28cf16b5a0b55485578b0ac6dcba8", func := "joinery/joinerylaw14.AvlLeast", spec := "avlLeast", unfollowed := true, recurses := true, apart := false, narrowed := true }
def AvlLeastUptoSaid : Prop := avlLeastUptoRow.holds Try.pinned (OpenSpec.upto avlLeastSpec)

/-- 'joinerylaw15.AvlJoins', WHERE WHAT IT READS IS OF BULK AT MOST 1048576: true; the input reads as it did. -/
def avlJoinsUptoRow : OpenClaim := { program := "ytifhnaelkjfmdaa", sum := "2c1fd1e2c80409045bc9c1ee22bd64e5ade28cf16b5a0b55485578b0ac6dcba8", func := "joinery/joinerylaw15.AvlJoins", spec := "avlJoins", unfollowed := true, recurses := true, apart := false, narrowed := true }
def AvlJoinsUptoSaid : Prop := avlJoinsUptoRow.holds Try.pinned (OpenSpec.upto avlJoinsSpec)

/-- 'joinerylaw15.AvljoinShares', WHERE WHAT IT READS IS OF BULK AT MOST 1048576: true; the input reads as it did. -/
def avljoinSharesUptoRow : OpenClaim := { program := "ytifhnaelkjfmdaa", sum := "2c1fd1e2c80409045bc9c1ee22bd64e5ade28cf16b5a0b55485578b0ac6dcba8", func := "joinery/joinerylaw15.AvljoinShares", spec := "avljoinShares", unfollowed := true, recurses := true, apart := false, narrowed := true }
def AvljoinSharesUptoSaid : Prop := avljoinSharesUptoRow.holds Try.pinned (OpenSpec.upto avljoinSharesSpec)

/-- 'joinerylaw15.AvljoinChain', WHERE WHAT IT READS IS OF BULK AT MOST 1048576: true; the input reads as it did. -/
def avljoinChainUptoRow : OpenClaim := { program := "ytifhnaelkjfmdaa", sum := "2c1fd1e2c80409045bc9c1ee22bd64e5ade28cf16b5a0b55485578b0ac6dcba8", func := "joinery/joinerylaw15.AvljoinChain", spec := "avljoinChain", unfollowed := true, recurses := true, apart := false, narrowed := true }
def AvljoinChainUptoSaid : Prop := avljoinChainUptoRow.holds Try.pinned (OpenSpec.upto avljoinChainSpec)

/-- 'joinerylaw16.RbTells', WHERE WHAT IT READS IS OF BULK AT MOST 1048576: true; the input reads as it did. -/
def rbTellsUptoRow : OpenClaim := { program := "ytifhnaelkjfmdaa", sum := "2c1fd1e2c80409045bc9c1ee22bd64e5ade28cf16b5a0b55485578b0ac6dcba8", func := "joinery/joinerylaw16.RbTells", spec := "rbTells", unfollowed := true, recurses := true, apart := false, narrowed := true }
def RbTellsUptoSaid : Prop := rbTellsUptoRow.holds Try.pinned (OpenSpec.upto rbTellsSpec)

end Rows
end Go.Proofs.Ytifhnaelkjfmdaa
