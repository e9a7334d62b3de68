/-
  No cell of these rows narrows 'for every input' (looked for: loops, veiled, ifaces, maps, wideKeys, modest, calm, conditions, laid).
  DERIVED. THE GIVEN ROWS OF THIS SEAT. 3 by the template 'for every input the law returns true; each argument reads behind the call as it read before'; 0 by the template 'total and deterministic' (their statements: YtjhkhkmokiliiaaTotals.lean).
  GIVEN WITH THE SEED: the statements are not yours to turn. If you find one false, say at which input.
  Laid BY PROGRAM, IN A SANDBOX (cutbox-rows.mjs): the forced cells as the released guide's own fill.sh prints them over the translation b6144c713febe96a… (all of the seat's roots in one cut). By AI agents, Wed Nov 11 2026. No macro, syntax, notation, axiom, sorry.
-/
import Derived.Test.YtjhkhkmokiliiaaChecked
import GoSem.Claim
import GoSem.ClaimJoined
import GoSem.ClaimMapViews
import Derived.JoinedTies
import Derived.KernelRfl
namespace Go.Proofs.Ytjhkhkmokiliiaa
/- THE CELL 'sum', in the pinned program and in every row, IS THE sha256 OF THE DUMP (.gsa) THAT YtjhkhkmokiliiaaProg.lean LOADS. Nothing in Lean hashes anything: it is a label: what it is worth is what the hold of that sum in a sandbox is worth. -/
noncomputable def Try.pinned : Pinned := { name := "ytjhkhkmokiliiaa", sum := "b6144c713febe96af2ecedc512467e07a2d672d3b27c6345606a1047f6621837", checked := Try.checked }
namespace Rows
def none {H : Type} : Left H := { results := [], args := [] }

/-- 'joinerylaw15.AvlJoins': WHATEVER THE INPUT: true; the input reads as it did. -/
def avlJoinsSpec : ChangeSpec := { name := "avlJoins", fn := fun _ => fun
  | [d1, d2, d3, d4] => { results := [.lit (.bool true)], args := [d1, d2, d3, d4] }
  | _ => none }
def avlJoinsRow : OpenClaim := { program := "ytjhkhkmokiliiaa", sum := "b6144c713febe96af2ecedc512467e07a2d672d3b27c6345606a1047f6621837", func := "joinery/joinerylaw15.AvlJoins", spec := "avlJoins", unfollowed := true, recurses := true, apart := false }
def AvlJoinsSaid : Prop := avlJoinsRow.holds Try.pinned (OpenSpec.ofChange avlJoinsSpec)

/-- ITS FALSE NEIGHBOUR: 'it returns false'. Refute it at one input. -/
def avlJoinsWrong : ChangeSpec := { name := "avlJoins", fn := fun _ => fun
  | [d1, d2, d3, d4] => { results := [.lit (.bool false)], args := [d1, d2, d3, d4] }
  | _ => none }
def AvlJoinsWrongFalsely : Prop := avlJoinsRow.holds Try.pinned (OpenSpec.ofChange avlJoinsWrong)

/-- 'joinerylaw15.AvljoinShares': WHATEVER THE INPUT: true; the input reads as it did. -/
def avljoinSharesSpec : ChangeSpec := { name := "avljoinShares", fn := fun _ => fun
  | [d1, d2, d3, d4] => { results := [.lit (.bool true)], args := [d1, d2, d3, d4] }
  | _ => none }
def avljoinSharesRow : OpenClaim := { program := "ytjhkhkmokiliiaa", sum := "b6144c713febe96af2ecedc512467e07a2d672d3b27c6345606a1047f6621837", func := "joinery/joinerylaw15.AvljoinShares", spec := "avljoinShares", unfollowed := true, recurses := true, apart := false }
def AvljoinSharesSaid : Prop := avljoinSharesRow.holds Try.pinned (OpenSpec.ofChange avljoinSharesSpec)

/-- ITS FALSE NEIGHBOUR: 'it returns false'. Refute it at one input. -/
def avljoinSharesWrong : ChangeSpec := { name := "avljoinShares", fn := fun _ => fun
  | [d1, d2, d3, d4] => { results := [.lit (.bool false)], args := [d1, d2, d3, d4] }
  | _ => none }
def AvljoinSharesWrongFalsely : Prop := avljoinSharesRow.holds Try.pinned (OpenSpec.ofChange avljoinSharesWrong)

/-- 'joinerylaw15.AvljoinChain': WHATEVER THE INPUT: true; the input reads as it did. -/
def avljoinChainSpec : ChangeSpec := { name := "avljoinChain", fn := fun _ => fun
  | [d1, d2, d3] => { results := [.lit (.bool true)], args := [d1, d2, d3] }
  | _ => none }
def avljoinChainRow : OpenClaim := { program := "ytjhkhkmokiliiaa", sum := "b6144c713febe96af2ecedc512467e07a2d672d3b27c6345606a1047f6621837", func := "joinery/joinerylaw15.AvljoinChain", spec := "avljoinChain", unfollowed := true, recurses := true, apart := false }
def AvljoinChainSaid : Prop := avljoinChainRow.holds Try.pinned (OpenSpec.ofChange avljoinChainSpec)

/-- ITS FALSE NEIGHBOUR: 'it returns false'. Refute it at one input. -/
def avljoinChainWrong : ChangeSpec := { name := "avljoinChain", fn := fun _ => fun
  | [d1, d2, d3] => { results := [.lit (.bool false)], args := [d1, d2, d3] }
  | _ => none }
def AvljoinChainWrongFalsely : Prop := avljoinChainRow.holds Try.pinned (OpenSpec.ofChange avljoinChainWrong)

/- THE SECOND FORM. 'bulk': how many values and letters a reading holds, each counted each time it is reached (what is shared counts as often as it is met; a slice's spare places count too). A statement '..UptoSaid' is the law's where the arguments, and the package variables that the reading takes, are together of bulk at most 1048576: NARROWER than '..Said'. Prove '..Said' where nothing that the law and all that it calls make is longer than what came in: it says more and counts as full. Else prove '..UptoSaid'. A law counts once. -/
mutual
def uptoBulk {H : Type} : DataW H → Nat
  | .lit (.string bytes) => bytes.length + 1
  | .lit _ => 1
  | .nil => 1
  | .ptr d => uptoBulk d + 1
  | .slice elems spare => uptoBulkAll elems + uptoBulkAll spare + 1
  | .agg parts => uptoBulkAll parts + 1
  | .iface _ d => uptoBulk d + 1
  | .map entries => uptoBulkEntries entries + 1
  | .held _ => 1
def uptoBulkAll {H : Type} : List (DataW H) → Nat
  | [] => 0
  | d :: r => uptoBulk d + uptoBulkAll r
def uptoBulkEntries {H : Type} : List (Lit × DataW H) → Nat
  | [] => 0
  | x :: r => uptoBulkEntry x + uptoBulkEntries r
def uptoBulkEntry {H : Type} : Lit × DataW H → Nat
  | (.string bytes, d) => bytes.length + uptoBulk d + 1
  | (_, d) => uptoBulk d + 1
 end
def uptoSmall : (H : Type) → List (DataW H) → Bool := fun _ ds => decide (uptoBulkAll ds ≤ 1048576)
def OpenSpec.upto (s : _root_.Go.ChangeSpec) : _root_.Go.OpenSpec := { _root_.Go.OpenSpec.ofChange s with cond := some uptoSmall }

/-- 'joinerylaw15.AvlJoins', WHERE WHAT IT READS IS OF BULK AT MOST 1048576: true; the input reads as it did. -/
def avlJoinsUptoRow : OpenClaim := { program := "ytjhkhkmokiliiaa", sum := "b6144c713febe96af2ecedc512467e07a2d672d3b27c6345606a1047f6621837", func := "joinery/joinerylaw15.AvlJoins", spec := "avlJoins", unfollowed := true, recurses := true, apart := false, narrowed := true }
def AvlJoinsUptoSaid : Prop := avlJoinsUptoRow.holds Try.pinned (OpenSpec.upto avlJoinsSpec)

/-- 'joinerylaw15.AvljoinShares', WHERE WHAT IT READS IS OF BULK AT MOST 1048576: true; the input reads as it did. -/
def avljoinSharesUptoRow : OpenClaim := { program := "ytjhkhkmokiliiaa", sum := "b6144c713febe96af2ecedc512467e07a2d672d3b27c6345606a1047f6621837", func := "joinery/joinerylaw15.AvljoinShares", spec := "avljoinShares", unfollowed := true, recurses := true, apart := false, narrowed := true }
def AvljoinSharesUptoSaid : Prop := avljoinSharesUptoRow.holds Try.pinned (OpenSpec.upto avljoinSharesSpec)

/-- 'joinerylaw15.AvljoinChain', WHERE WHAT IT READS IS OF BULK AT MOST 1048576: true; the input reads as it did. -/
def avljoinChainUptoRow : OpenClaim := { program := "ytjhkhkmokiliiaa", sum := "b6144c713febe96af2ecedc512467e07a2d672d3b27c6345606a1047f6621837", func := "joinery/joinerylaw15.AvljoinChain", spec := "avljoinChain", unfollowed := true, recurses := true, apart := false, narrowed := true }
def AvljoinChainUptoSaid : Prop := avljoinChainUptoRow.holds Try.pinned (OpenSpec.upto avljoinChainSpec)

end Rows
end Go.Proofs.Ytjhkhkmokiliiaa
