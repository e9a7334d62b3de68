/-
  No cell of these rows narrows 'for every input' (looked for: loops, veiled, ifaces, maps, wideKeys, modest, calm, conditions, laid).
  DERIVED. THE GIVEN ROWS OF THIS SEAT. 6 by the template 'for every input the law returns true; each argument reads behind the call as it read before'; 0 by the template 'total and deterministic' (their statements: YtifhnaelkjfmdabTotals.lean).
  GIVEN WITH THE SEED: the statements are not yours to turn. If you find one false, say at which input.
  Laid BY PROGRAM, IN A SANDBOX (cutbox-rows.mjs): the forced cells as the released guide's own fill.sh prints them over the translation 5f21dfd141937091… (all of the seat's roots in one cut). By AI agents, Wed Nov 11 2026. No macro, syntax, notation, axiom, sorry.
-/
import Derived.Test.YtifhnaelkjfmdabChecked
import GoSem.Claim
import GoSem.ClaimJoined
import GoSem.ClaimMapViews
import Derived.JoinedTies
import Derived.KernelRfl
namespace Go.Proofs.Ytifhnaelkjfmdab
/- THE CELL 'sum', in the pinned program and in every row, IS THE sha256 OF THE DUMP (.gsa) THAT YtifhnaelkjfmdabProg.lean LOADS. Nothing in Lean hashes anything: it is a label: what it is worth is what the hold of that sum in a sandbox is worth. -/
noncomputable def Try.pinned : Pinned := { name := "ytifhnaelkjfmdab", sum := "5f21dfd141937091909218c87d62bd2406a07ab47c3026b9171fe4bc62983d8a", checked := Try.checked }
namespace Rows
def none {H : Type} : Left H := { results := [], args := [] }

/-- 'joinerylaw16.RbMakes': WHATEVER THE INPUT: true; the input reads as it did. -/
def rbMakesSpec : ChangeSpec := { name := "rbMakes", fn := fun _ => fun
  | [d1, d2, d3, d4, d5] => { results := [.lit (.bool true)], args := [d1, d2, d3, d4, d5] }
  | _ => none }
def rbMakesRow : OpenClaim := { program := "ytifhnaelkjfmdab", sum := "5f21dfd141937091909218c87d62bd2406a07ab47c3026b9171fe4bc62983d8a", func := "joinery/joinerylaw16.RbMakes", spec := "rbMakes", unfollowed := true, recurses := true, apart := false }
def RbMakesSaid : Prop := rbMakesRow.holds Try.pinned (OpenSpec.ofChange rbMakesSpec)

/-- ITS FALSE NEIGHBOUR: 'it returns false'. Refute it at one input. -/
def rbMakesWrong : ChangeSpec := { name := "rbMakes", fn := fun _ => fun
  | [d1, d2, d3, d4, d5] => { results := [.lit (.bool false)], args := [d1, d2, d3, d4, d5] }
  | _ => none }
def RbMakesWrongFalsely : Prop := rbMakesRow.holds Try.pinned (OpenSpec.ofChange rbMakesWrong)

/-- 'joinerylaw16.RbParts': WHATEVER THE INPUT: true; the input reads as it did. -/
def rbPartsSpec : ChangeSpec := { name := "rbParts", fn := fun _ => fun
  | [d1, d2, d3, d4, d5] => { results := [.lit (.bool true)], args := [d1, d2, d3, d4, d5] }
  | _ => none }
def rbPartsRow : OpenClaim := { program := "ytifhnaelkjfmdab", sum := "5f21dfd141937091909218c87d62bd2406a07ab47c3026b9171fe4bc62983d8a", func := "joinery/joinerylaw16.RbParts", spec := "rbParts", unfollowed := true, recurses := true, apart := false }
def RbPartsSaid : Prop := rbPartsRow.holds Try.pinned (OpenSpec.ofChange rbPartsSpec)

/-- ITS FALSE NEIGHBOUR: 'it returns false'. Refute it at one input. -/
def rbPartsWrong : ChangeSpec := { name := "rbParts", fn := fun _ => fun
  | [d1, d2, d3, d4, d5] => { results := [.lit (.bool false)], args := [d1, d2, d3, d4, d5] }
  | _ => none }
def RbPartsWrongFalsely : Prop := rbPartsRow.holds Try.pinned (OpenSpec.ofChange rbPartsWrong)

/-- 'joinerylaw16.RbHigh': WHATEVER THE INPUT: true; the input reads as it did. -/
def rbHighSpec : ChangeSpec := { name := "rbHigh", fn := fun _ => fun
  | [d] => { results := [.lit (.bool true)], args := [d] }
  | _ => none }
def rbHighRow : OpenClaim := { program := "ytifhnaelkjfmdab", sum := "5f21dfd141937091909218c87d62bd2406a07ab47c3026b9171fe4bc62983d8a", func := "joinery/joinerylaw16.RbHigh", spec := "rbHigh", unfollowed := true, recurses := true, apart := false }
def RbHighSaid : Prop := rbHighRow.holds Try.pinned (OpenSpec.ofChange rbHighSpec)

/-- ITS FALSE NEIGHBOUR: 'it returns false'. Refute it at one input. -/
def rbHighWrong : ChangeSpec := { name := "rbHigh", fn := fun _ => fun
  | [d] => { results := [.lit (.bool false)], args := [d] }
  | _ => none }
def RbHighWrongFalsely : Prop := rbHighRow.holds Try.pinned (OpenSpec.ofChange rbHighWrong)

/-- 'joinerylaw17.RbJoins': WHATEVER THE INPUT: true; the input reads as it did. -/
def rbJoinsSpec : ChangeSpec := { name := "rbJoins", fn := fun _ => fun
  | [d1, d2, d3, d4] => { results := [.lit (.bool true)], args := [d1, d2, d3, d4] }
  | _ => none }
def rbJoinsRow : OpenClaim := { program := "ytifhnaelkjfmdab", sum := "5f21dfd141937091909218c87d62bd2406a07ab47c3026b9171fe4bc62983d8a", func := "joinery/joinerylaw17.RbJoins", spec := "rbJoins", unfollowed := true, recurses := true, apart := false }
def RbJoinsSaid : Prop := rbJoinsRow.holds Try.pinned (OpenSpec.ofChange rbJoinsSpec)

/-- ITS FALSE NEIGHBOUR: 'it returns false'. Refute it at one input. -/
def rbJoinsWrong : ChangeSpec := { name := "rbJoins", fn := fun _ => fun
  | [d1, d2, d3, d4] => { results := [.lit (.bool false)], args := [d1, d2, d3, d4] }
  | _ => none }
def RbJoinsWrongFalsely : Prop := rbJoinsRow.holds Try.pinned (OpenSpec.ofChange rbJoinsWrong)

/-- 'joinerylaw17.RbjoinShares': WHATEVER THE INPUT: true; the input reads as it did. -/
def rbjoinSharesSpec : ChangeSpec := { name := "rbjoinShares", fn := fun _ => fun
  | [d1, d2, d3, d4] => { results := [.lit (.bool true)], args := [d1, d2, d3, d4] }
  | _ => none }
def rbjoinSharesRow : OpenClaim := { program := "ytifhnaelkjfmdab", sum := "5f21dfd141937091909218c87d62bd2406a07ab47c3026b9171fe4bc62983d8a", func := "joinery/joinerylaw17.RbjoinShares", spec := "rbjoinShares", unfollowed := true, recurses := true, apart := false }
def RbjoinSharesSaid : Prop := rbjoinSharesRow.holds Try.pinned (OpenSpec.ofChange rbjoinSharesSpec)

/-- ITS FALSE NEIGHBOUR: 'it returns false'. Refute it at one input. -/
def rbjoinSharesWrong : ChangeSpec := { name := "rbjoinShares", fn := fun _ => fun
  | [d1, d2, d3, d4] => { results := [.lit (.bool false)], args := [d1, d2, d3, d4] }
  | _ => none }
def RbjoinSharesWrongFalsely : Prop := rbjoinSharesRow.holds Try.pinned (OpenSpec.ofChange rbjoinSharesWrong)

/-- 'joinerylaw17.RbjoinChain': WHATEVER THE INPUT: true; the input reads as it did. -/
def rbjoinChainSpec : ChangeSpec := { name := "rbjoinChain", fn := fun _ => fun
  | [d1, d2, d3] => { results := [.lit (.bool true)], args := [d1, d2, d3] }
  | _ => none }
def rbjoinChainRow : OpenClaim := { program := "ytifhnaelkjfmdab", sum := "5f21dfd141937091909218c87d62bd2406a07ab47c3026b9171fe4bc62983d8a", func := "joinery/joinerylaw17.RbjoinChain", spec := "rbjoinChain", unfollowed := true, recurses := true, apart := false }
def RbjoinChainSaid : Prop := rbjoinChainRow.holds Try.pinned (OpenSpec.ofChange rbjoinChainSpec)

/-- ITS FALSE NEIGHBOUR: 'it returns false'. Refute it at one input. -/
def rbjoinChainWrong : ChangeSpec := { name := "rbjoinChain", fn := fun _ => fun
  | [d1, d2, d3] => { results := [.lit (.bool false)], args := [d1, d2, d3] }
  | _ => none }
def RbjoinChainWrongFalsely : Prop := rbjoinChainRow.holds Try.pinned (OpenSpec.ofChange rbjoinChainWrong)

/- THE SECOND FORM. 'bulk': how many values and letters a reading holds, each counted each time it is reached (what is shared counts as often as it is met; a slice's spare places count too). A statement '..UptoSaid' is the law's where the arguments, and the package variables that the reading takes, are together of bulk at most 1048576: NARROWER than '..Said'. Prove '..Said' where nothing that the law and all that it calls make is longer than what came in: it says more and counts as full. Else prove '..UptoSaid'. A law counts once. -/
mutual
def uptoBulk {H : Type} : DataW H → Nat
  | .lit (.string bytes) => bytes.length + 1
  | .lit _ => 1
  | .nil => 1
  | .ptr d => uptoBulk d + 1
  | .slice elems spare => uptoBulkAll elems + uptoBulkAll spare + 1
  | .agg parts => uptoBulkAll parts + 1
  | .iface _ d => uptoBulk d + 1
  | .map entries => uptoBulkEntries entries + 1
  | .held _ => 1
def uptoBulkAll {H : Type} : List (DataW H) → Nat
  | [] => 0
  | d :: r => uptoBulk d + uptoBulkAll r
def uptoBulkEntries {H : Type} : List (Lit × DataW H) → Nat
  | [] => 0
  | x :: r => uptoBulkEntry x + uptoBulkEntries r
def uptoBulkEntry {H : Type} : Lit × DataW H → Nat
  | (.string bytes, d) => bytes.length + uptoBulk d + 1
  | (_, d) => uptoBulk d + 1
 end
def uptoSmall : (H : Type) → List (DataW H) → Bool := fun _ ds => decide (uptoBulkAll ds ≤ 1048576)
def OpenSpec.upto (s : _root_.Go.ChangeSpec) : _root_.Go.OpenSpec := { _root_.Go.OpenSpec.ofChange s with cond := some uptoSmall }

/-- 'joinerylaw16.RbMakes', WHERE WHAT IT READS IS OF BULK AT MOST 1048576: true; the input reads as it did. -/
def rbMakesUptoRow : OpenClaim := { program := "ytifhnaelkjfmdab", sum := "5f21dfd141937091909218c87d62bd2406a07ab47c3026b9171fe4bc62983d8a", func := "joinery/joinerylaw16.RbMakes", spec := "rbMakes", unfollowed := true, recurses := true, apart := false, narrowed := true }
def RbMakesUptoSaid : Prop := rbMakesUptoRow.holds Try.pinned (OpenSpec.upto rbMakesSpec)

/-- 'joinerylaw16.RbParts', WHERE WHAT IT READS IS OF BULK AT MOST 1048576: true; the input reads as it did. -/
def rbPartsUptoRow : OpenClaim := { program := "ytifhnaelkjfmdab", sum := "5f21dfd141937091909218c87d62bd2406a07ab47c3026b9171fe4bc62983d8a", func := "joinery/joinerylaw16.RbParts", spec := "rbParts", unfollowed := true, recurses := true, apart := false, narrowed := true }
def RbPartsUptoSaid : Prop := rbPartsUptoRow.holds Try.pinned (OpenSpec.upto rbPartsSpec)

/-- 'joinerylaw16.RbHigh', WHERE WHAT IT READS IS OF BULK AT MOST 1048576: true; the input reads as it did. -/
def rbHighUptoRow : OpenClaim := { program := "ytifhnaelkjfmdab", sum := "5f21dfd141937091909218c87d62bd2406a07ab47c3026b9171fe4bc62983d8a", func := "joinery/joinerylaw16.RbHigh", spec := "rbHigh", unfollowed := true, recurses := true, apart := false, narrowed := true }
def RbHighUptoSaid : Prop := rbHighUptoRow.holds Try.pinned (OpenSpec.upto rbHighSpec)

/-- 'joinerylaw17.RbJoins', WHERE WHAT IT READS IS OF BULK AT MOST 1048576: true; the input reads as it did. -/
def rbJoinsUptoRow : OpenClaim := { program := "ytifhnaelkjfmdab", sum := "5f21dfd141937091909218c87d62bd2406a07ab47c3026b9171fe4bc62983d8a", func := "joinery/joinerylaw17.RbJoins", spec := "rbJoins", unfollowed := true, recurses := true, apart := false, narrowed := true }
def RbJoinsUptoSaid : Prop := rbJoinsUptoRow.holds Try.pinned (OpenSpec.upto rbJoinsSpec)

/-- 'joinerylaw17.RbjoinShares', WHERE WHAT IT READS IS OF BULK AT MOST 1048576: true; the input reads as it did. -/
def rbjoinSharesUptoRow : OpenClaim := { program := "ytifhnaelkjfmdab", sum := "5f21dfd141937091909218c87d62bd2406a07ab47c3026b9171fe4bc62983d8a", func := "joinery/joinerylaw17.RbjoinShares", spec := "rbjoinShares", unfollowed := true, recurses := true, apart := false, narrowed := true }
def RbjoinSharesUptoSaid : Prop := rbjoinSharesUptoRow.holds Try.pinned (OpenSpec.upto rbjoinSharesSpec)

/-- 'joinerylaw17.RbjoinChain', WHERE WHAT IT READS IS OF BULK AT MOST 1048576: true; the input reads as it did. -/
def rbjoinChainUptoRow : OpenClaim := { program := "ytifhnaelkjfmdab", sum := "5f21dfd141937091909218c87d62bd2406a07ab47c3026b9171fe4bc62983d8a", func := "joinery/joinerylaw17.RbjoinChain", spec := "rbjoinChain", unfollowed := true, recurses := true, apart := false, narrowed := true }
def RbjoinChainUptoSaid : Prop := rbjoinChainUptoRow.holds Try.pinned (OpenSpec.upto rbjoinChainSpec)

end Rows
end Go.Proofs.Ytifhnaelkjfmdab
