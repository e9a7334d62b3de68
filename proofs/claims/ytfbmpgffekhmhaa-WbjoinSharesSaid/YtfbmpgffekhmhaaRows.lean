/-
  No cell of these rows narrows 'for every input' (looked for: loops, veiled, ifaces, maps, wideKeys, modest, calm, conditions, laid).
  DERIVED. THE GIVEN ROWS OF THIS SEAT. 3 by the template 'for every input the law returns true; each argument reads behind the call as it read before'; 0 by the template 'total and deterministic' (their statements: YtfbmpgffekhmhaaTotals.lean).
  GIVEN WITH THE SEED: the statements are not yours to turn. If you find one false, say at which input.
  Laid BY PROGRAM, IN A SANDBOX (cutbox-rows.mjs): the forced cells as the released guide's own fill.sh prints them over the translation 8d5c64642c0aca85… (all of the seat's roots in one cut). By AI agents, Wed Nov 11 2026. No macro, syntax, notation, axiom, sorry.
-/
import Derived.Test.YtfbmpgffekhmhaaChecked
import GoSem.Claim
import GoSem.ClaimJoined
import GoSem.ClaimMapViews
import Derived.JoinedTies
import Derived.KernelRfl
namespace Go.Proofs.Ytfbmpgffekhmhaa
/- THE CELL 'sum', in the pinned program and in every row, IS THE sha256 OF THE DUMP (.gsa) THAT YtfbmpgffekhmhaaProg.lean LOADS. Nothing in Lean hashes anything: it is a label: what it is worth is what the hold of that sum in a sandbox is worth. -/
noncomputable def Try.pinned : Pinned := { name := "ytfbmpgffekhmhaa", sum := "8d5c64642c0aca8591eb16b638ed534e72b427cbd0c67ab773a40cc4408c7e8c", checked := Try.checked }
namespace Rows
def none {H : Type} : Left H := { results := [], args := [] }

/-- 'joinerylaw19.WbJoins': WHATEVER THE INPUT: true; the input reads as it did. -/
def wbJoinsSpec : ChangeSpec := { name := "wbJoins", fn := fun _ => fun
  | [d1, d2, d3, d4] => { results := [.lit (.bool true)], args := [d1, d2, d3, d4] }
  | _ => none }
def wbJoinsRow : OpenClaim := { program := "ytfbmpgffekhmhaa", sum := "8d5c64642c0aca8591eb16b638ed534e72b427cbd0c67ab773a40cc4408c7e8c", func := "joinery/joinerylaw19.WbJoins", spec := "wbJoins", unfollowed := true, recurses := true, apart := false }
def WbJoinsSaid : Prop := wbJoinsRow.holds Try.pinned (OpenSpec.ofChange wbJoinsSpec)

/-- ITS FALSE NEIGHBOUR: 'it returns false'. Refute it at one input. -/
def wbJoinsWrong : ChangeSpec := { name := "wbJoins", fn := fun _ => fun
  | [d1, d2, d3, d4] => { results := [.lit (.bool false)], args := [d1, d2, d3, d4] }
  | _ => none }
def WbJoinsWrongFalsely : Prop := wbJoinsRow.holds Try.pinned (OpenSpec.ofChange wbJoinsWrong)

/-- 'joinerylaw19.WbjoinShares': WHATEVER THE INPUT: true; the input reads as it did. -/
def wbjoinSharesSpec : ChangeSpec := { name := "wbjoinShares", fn := fun _ => fun
  | [d1, d2, d3, d4] => { results := [.lit (.bool true)], args := [d1, d2, d3, d4] }
  | _ => none }
def wbjoinSharesRow : OpenClaim := { program := "ytfbmpgffekhmhaa", sum := "8d5c64642c0aca8591eb16b638ed534e72b427cbd0c67ab773a40cc4408c7e8c", func := "joinery/joinerylaw19.WbjoinShares", spec := "wbjoinShares", unfollowed := true, recurses := true, apart := false }
def WbjoinSharesSaid : Prop := wbjoinSharesRow.holds Try.pinned (OpenSpec.ofChange wbjoinSharesSpec)

/-- ITS FALSE NEIGHBOUR: 'it returns false'. Refute it at one input. -/
def wbjoinSharesWrong : ChangeSpec := { name := "wbjoinShares", fn := fun _ => fun
  | [d1, d2, d3, d4] => { results := [.lit (.bool false)], args := [d1, d2, d3, d4] }
  | _ => none }
def WbjoinSharesWrongFalsely : Prop := wbjoinSharesRow.holds Try.pinned (OpenSpec.ofChange wbjoinSharesWrong)

/-- 'joinerylaw19.WbjoinChain': WHATEVER THE INPUT: true; the input reads as it did. -/
def wbjoinChainSpec : ChangeSpec := { name := "wbjoinChain", fn := fun _ => fun
  | [d1, d2, d3] => { results := [.lit (.bool true)], args := [d1, d2, d3] }
  | _ => none }
def wbjoinChainRow : OpenClaim := { program := "ytfbmpgffekhmhaa", sum := "8d5c64642c0aca8591eb16b638ed534e72b427cbd0c67ab773a40cc4408c7e8c", func := "joinery/joinerylaw19.WbjoinChain", spec := "wbjoinChain", unfollowed := true, recurses := true, apart := false }
def WbjoinChainSaid : Prop := wbjoinChainRow.holds Try.pinned (OpenSpec.ofChange wbjoinChainSpec)

/-- ITS FALSE NEIGHBOUR: 'it returns false'. Refute it at one input. -/
def wbjoinChainWrong : ChangeSpec := { name := "wbjoinChain", fn := fun _ => fun
  | [d1, d2, d3] => { results := [.lit (.bool false)], args := [d1, d2, d3] }
  | _ => none }
def WbjoinChainWrongFalsely : Prop := wbjoinChainRow.holds Try.pinned (OpenSpec.ofChange wbjoinChainWrong)

/- THE SECOND FORM. 'bulk': how many values and letters a reading holds, each counted each time it is reached (what is shared counts as often as it is met; a slice's spare places count too). A statement '..UptoSaid' is the law's where the arguments, and the package variables that the reading takes, are together of bulk at most 1048576: NARROWER than '..Said'. Prove '..Said' where nothing that the law and all that it calls make is longer than what came in: it says more and counts as full. Else prove '..UptoSaid'. A law counts once. -/
mutual
def uptoBulk {H : Type} : DataW H → Nat
  | .lit (.string bytes) => bytes.length + 1
  | .lit _ => 1
  | .nil => 1
  | .ptr d => uptoBulk d + 1
  | .slice elems spare => uptoBulkAll elems + uptoBulkAll spare + 1
  | .agg parts => uptoBulkAll parts + 1
  | .iface _ d => uptoBulk d + 1
  | .map entries => uptoBulkEntries entries + 1
  | .held _ => 1
def uptoBulkAll {H : Type} : List (DataW H) → Nat
  | [] => 0
  | d :: r => uptoBulk d + uptoBulkAll r
def uptoBulkEntries {H : Type} : List (Lit × DataW H) → Nat
  | [] => 0
  | x :: r => uptoBulkEntry x + uptoBulkEntries r
def uptoBulkEntry {H : Type} : Lit × DataW H → Nat
  | (.string bytes, d) => bytes.length + uptoBulk d + 1
  | (_, d) => uptoBulk d + 1
 end
def uptoSmall : (H : Type) → List (DataW H) → Bool := fun _ ds => decide (uptoBulkAll ds ≤ 1048576)
def OpenSpec.upto (s : _root_.Go.ChangeSpec) : _root_.Go.OpenSpec := { _root_.Go.OpenSpec.ofChange s with cond := some uptoSmall }

/-- 'joinerylaw19.WbJoins', WHERE WHAT IT READS IS OF BULK AT MOST 1048576: true; the input reads as it did. -/
def wbJoinsUptoRow : OpenClaim := { program := "ytfbmpgffekhmhaa", sum := "8d5c64642c0aca8591eb16b638ed534e72b427cbd0c67ab773a40cc4408c7e8c", func := "joinery/joinerylaw19.WbJoins", spec := "wbJoins", unfollowed := true, recurses := true, apart := false, narrowed := true }
def WbJoinsUptoSaid : Prop := wbJoinsUptoRow.holds Try.pinned (OpenSpec.upto wbJoinsSpec)

/-- 'joinerylaw19.WbjoinShares', WHERE WHAT IT READS IS OF BULK AT MOST 1048576: true; the input reads as it did. -/
def wbjoinSharesUptoRow : OpenClaim := { program := "ytfbmpgffekhmhaa", sum := "8d5c64642c0aca8591eb16b638ed534e72b427cbd0c67ab773a40cc4408c7e8c", func := "joinery/joinerylaw19.WbjoinShares", spec := "wbjoinShares", unfollowed := true, recurses := true, apart := false, narrowed := true }
def WbjoinSharesUptoSaid : Prop := wbjoinSharesUptoRow.holds Try.pinned (OpenSpec.upto wbjoinSharesSpec)

/-- 'joinerylaw19.WbjoinChain', WHERE WHAT IT READS IS OF BULK AT MOST 1048576: true; the input reads as it did. -/
def wbjoinChainUptoRow : OpenClaim := { program := "ytfbmpgffekhmhaa", sum := "8d5c64642c0aca8591eb16b638ed534e72b427cbd0c67ab773a40cc4408c7e8c", func := "joinery/joinerylaw19.WbjoinChain", spec := "wbjoinChain", unfollowed := true, recurses := true, apart := false, narrowed := true }
def WbjoinChainUptoSaid : Prop := wbjoinChainUptoRow.holds Try.pinned (OpenSpec.upto wbjoinChainSpec)

end Rows
end Go.Proofs.Ytfbmpgffekhmhaa
