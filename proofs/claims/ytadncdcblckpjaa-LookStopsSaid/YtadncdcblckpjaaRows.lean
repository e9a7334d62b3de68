/-
  No cell of these rows narrows 'for every input' (looked for: loops, veiled, ifaces, maps, wideKeys, modest, calm, conditions, laid).
  DERIVED. THE GIVEN ROWS OF THIS SEAT. 3 by the template 'for every input the law returns true; each argument reads behind the call as it read before'; 0 by the template 'total and deterministic' (their statements: YtadncdcblckpjaaTotals.lean).
  GIVEN WITH THE SEED: the statements are not yours to turn. If you find one false, say at which input.
  Laid BY PROGRAM, IN A SANDBOX (cutbox-rows.mjs): the forced cells as the released guide's own fill.sh prints them over the translation 21b5ba66766d1be5… (all of the seat's roots in one cut). By AI agents, Wed Nov 11 2026. No macro, syntax, notation, axiom, sorry.
-/
import Derived.Test.YtadncdcblckpjaaChecked
import GoSem.Claim
import GoSem.ClaimJoined
import GoSem.ClaimMapViews
import Derived.JoinedTies
import Derived.KernelRfl
namespace Go.Proofs.Ytadncdcblckpjaa
/- THE CELL 'sum', in the pinned program and in every row, IS THE sha256 OF THE DUMP (.gsa) THAT YtadncdcblckpjaaProg.lean LOADS. Nothing in Lean hashes anything: it is a label: what it is worth is what the hold of that sum in a sandbox is worth. -/
noncomputable def Try.pinned : Pinned := { name := "ytadncdcblckpjaa", sum := "21b5ba66766d1be51b28026b47301988ee4acb3fcc43ad2f19b75463e84ce178", checked := Try.checked }
namespace Rows
def none {H : Type} : Left H := { results := [], args := [] }

/-- 'joinerylaw10.LookTells': WHATEVER THE INPUT: true; the input reads as it did. -/
def lookTellsSpec : ChangeSpec := { name := "lookTells", fn := fun _ => fun
  | [d1, d2] => { results := [.lit (.bool true)], args := [d1, d2] }
  | _ => none }
def lookTellsRow : OpenClaim := { program := "ytadncdcblckpjaa", sum := "21b5ba66766d1be51b28026b47301988ee4acb3fcc43ad2f19b75463e84ce178", func := "joinery/joinerylaw10.LookTells", spec := "lookTells", unfollowed := true, recurses := true, apart := false }
def LookTellsSaid : Prop := lookTellsRow.holds Try.pinned (OpenSpec.ofChange lookTellsSpec)

/-- ITS FALSE NEIGHBOUR: 'it returns false'. Refute it at one input. -/
def lookTellsWrong : ChangeSpec := { name := "lookTells", fn := fun _ => fun
  | [d1, d2] => { results := [.lit (.bool false)], args := [d1, d2] }
  | _ => none }
def LookTellsWrongFalsely : Prop := lookTellsRow.holds Try.pinned (OpenSpec.ofChange lookTellsWrong)

/-- 'joinerylaw10.LookStops': WHATEVER THE INPUT: true; the input reads as it did. -/
def lookStopsSpec : ChangeSpec := { name := "lookStops", fn := fun _ => fun
  | [d1, d2] => { results := [.lit (.bool true)], args := [d1, d2] }
  | _ => none }
def lookStopsRow : OpenClaim := { program := "ytadncdcblckpjaa", sum := "21b5ba66766d1be51b28026b47301988ee4acb3fcc43ad2f19b75463e84ce178", func := "joinery/joinerylaw10.LookStops", spec := "lookStops", unfollowed := true, recurses := true, apart := false }
def LookStopsSaid : Prop := lookStopsRow.holds Try.pinned (OpenSpec.ofChange lookStopsSpec)

/-- ITS FALSE NEIGHBOUR: 'it returns false'. Refute it at one input. -/
def lookStopsWrong : ChangeSpec := { name := "lookStops", fn := fun _ => fun
  | [d1, d2] => { results := [.lit (.bool false)], args := [d1, d2] }
  | _ => none }
def LookStopsWrongFalsely : Prop := lookStopsRow.holds Try.pinned (OpenSpec.ofChange lookStopsWrong)

/-- 'joinerylaw10.LookTurns': WHATEVER THE INPUT: true; the input reads as it did. -/
def lookTurnsSpec : ChangeSpec := { name := "lookTurns", fn := fun _ => fun
  | [d] => { results := [.lit (.bool true)], args := [d] }
  | _ => none }
def lookTurnsRow : OpenClaim := { program := "ytadncdcblckpjaa", sum := "21b5ba66766d1be51b28026b47301988ee4acb3fcc43ad2f19b75463e84ce178", func := "joinery/joinerylaw10.LookTurns", spec := "lookTurns", unfollowed := true, recurses := true, apart := false }
def LookTurnsSaid : Prop := lookTurnsRow.holds Try.pinned (OpenSpec.ofChange lookTurnsSpec)

/-- ITS FALSE NEIGHBOUR: 'it returns false'. Refute it at one input. -/
def lookTurnsWrong : ChangeSpec := { name := "lookTurns", fn := fun _ => fun
  | [d] => { results := [.lit (.bool false)], args := [d] }
  | _ => none }
def LookTurnsWrongFalsely : Prop := lookTurnsRow.holds Try.pinned (OpenSpec.ofChange lookTurnsWrong)

/- THE SECOND FORM. 'bulk': how many values and letters a reading holds, each counted each time it is reached (what is shared counts as often as it is met; a slice's spare places count too). A statement '..UptoSaid' is the law's where the arguments, and the package variables that the reading takes, are together of bulk at most 1048576: NARROWER than '..Said'. Prove '..Said' where nothing that the law and all that it calls make is longer than what came in: it says more and counts as full. Else prove '..UptoSaid'. A law counts once. -/
mutual
def uptoBulk {H : Type} : DataW H → Nat
  | .lit (.string bytes) => bytes.length + 1
  | .lit _ => 1
  | .nil => 1
  | .ptr d => uptoBulk d + 1
  | .slice elems spare => uptoBulkAll elems + uptoBulkAll spare + 1
  | .agg parts => uptoBulkAll parts + 1
  | .iface _ d => uptoBulk d + 1
  | .map entries => uptoBulkEntries entries + 1
  | .held _ => 1
def uptoBulkAll {H : Type} : List (DataW H) → Nat
  | [] => 0
  | d :: r => uptoBulk d + uptoBulkAll r
def uptoBulkEntries {H : Type} : List (Lit × DataW H) → Nat
  | [] => 0
  | x :: r => uptoBulkEntry x + uptoBulkEntries r
def uptoBulkEntry {H : Type} : Lit × DataW H → Nat
  | (.string bytes, d) => bytes.length + uptoBulk d + 1
  | (_, d) => uptoBulk d + 1
 end
def uptoSmall : (H : Type) → List (DataW H) → Bool := fun _ ds => decide (uptoBulkAll ds ≤ 1048576)
def OpenSpec.upto (s : _root_.Go.ChangeSpec) : _root_.Go.OpenSpec := { _root_.Go.OpenSpec.ofChange s with cond := some uptoSmall }

/-- 'joinerylaw10.LookTells', WHERE WHAT IT READS IS OF BULK AT MOST 1048576: true; the input reads as it did. -/
def lookTellsUptoRow : OpenClaim := { program := "ytadncdcblckpjaa", sum := "21b5ba66766d1be51b28026b47301988ee4acb3fcc43ad2f19b75463e84ce178", func := "joinery/joinerylaw10.LookTells", spec := "lookTells", unfollowed := true, recurses := true, apart := false, narrowed := true }
def LookTellsUptoSaid : Prop := lookTellsUptoRow.holds Try.pinned (OpenSpec.upto lookTellsSpec)

/-- 'joinerylaw10.LookStops', WHERE WHAT IT READS IS OF BULK AT MOST 1048576: true; the input reads as it did. -/
def lookStopsUptoRow : OpenClaim := { program := "ytadncdcblckpjaa", sum := "21b5ba66766d1be51b28026b47301988ee4acb3fcc43ad2f19b75463e84ce178", func := "joinery/joinerylaw10.LookStops", spec := "lookStops", unfollowed := true, recurses := true, apart := false, narrowed := true }
def LookStopsUptoSaid : Prop := lookStopsUptoRow.holds Try.pinned (OpenSpec.upto lookStopsSpec)

/-- 'joinerylaw10.LookTurns', WHERE WHAT IT READS IS OF BULK AT MOST 1048576: true; the input reads as it did. -/
def lookTurnsUptoRow : OpenClaim := { program := "ytadncdcblckpjaa", sum := "21b5ba66766d1be51b28026b47301988ee4acb3fcc43ad2f19b75463e84ce178", func := "joinery/joinerylaw10.LookTurns", spec := "lookTurns", unfollowed := true, recurses := true, apart := false, narrowed := true }
def LookTurnsUptoSaid : Prop := lookTurnsUptoRow.holds Try.pinned (OpenSpec.upto lookTurnsSpec)

end Rows
end Go.Proofs.Ytadncdcblckpjaa
