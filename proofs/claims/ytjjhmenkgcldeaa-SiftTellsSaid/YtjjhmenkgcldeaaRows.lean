/-
  No cell of these rows narrows 'for every input' (looked for: loops, veiled, ifaces, maps, wideKeys, modest, calm, conditions, laid).
  DERIVED. THE GIVEN ROWS OF THIS SEAT. 3 by the template 'for every input the law returns true; each argument reads behind the call as it read before'; 0 by the template 'total and deterministic' (their statements: YtjjhmenkgcldeaaTotals.lean).
  GIVEN WITH THE SEED: the statements are not yours to turn. If you find one false, say at which input.
  Laid BY PROGRAM, IN A SANDBOX (cutbox-rows.mjs): the forced cells as the released guide's own fill.sh prints them over the translation 3277eb9a9094447a… (all of the seat's roots in one cut). By AI agents, Wed Nov 11 2026. No macro, syntax, notation, axiom, sorry.
-/
import Derived.Test.YtjjhmenkgcldeaaChecked
import GoSem.Claim
import GoSem.ClaimJoined
import GoSem.ClaimMapViews
import Derived.JoinedTies
import Derived.KernelRfl
namespace Go.Proofs.Ytjjhmenkgcldeaa
/- THE CELL 'sum', in the pinned program and in every row, IS THE sha256 OF THE DUMP (.gsa) THAT YtjjhmenkgcldeaaProg.lean LOADS. Nothing in Lean hashes anything: it is a label: what it is worth is what the hold of that sum in a sandbox is worth. -/
noncomputable def Try.pinned : Pinned := { name := "ytjjhmenkgcldeaa", sum := "3277eb9a9094447ad8250256ddc0821ed179823508c26f05595240dc1ef69dd3", checked := Try.checked }
namespace Rows
def none {H : Type} : Left H := { results := [], args := [] }

/-- 'joinerylaw06.SiftTells': WHATEVER THE INPUT: true; the input reads as it did. -/
def siftTellsSpec : ChangeSpec := { name := "siftTells", fn := fun _ => fun
  | [d1, d2, d3] => { results := [.lit (.bool true)], args := [d1, d2, d3] }
  | _ => none }
def siftTellsRow : OpenClaim := { program := "ytjjhmenkgcldeaa", sum := "3277eb9a9094447ad8250256ddc0821ed179823508c26f05595240dc1ef69dd3", func := "joinery/joinerylaw06.SiftTells", spec := "siftTells", unfollowed := true, recurses := true, apart := false }
def SiftTellsSaid : Prop := siftTellsRow.holds Try.pinned (OpenSpec.ofChange siftTellsSpec)

/-- ITS FALSE NEIGHBOUR: 'it returns false'. Refute it at one input. -/
def siftTellsWrong : ChangeSpec := { name := "siftTells", fn := fun _ => fun
  | [d1, d2, d3] => { results := [.lit (.bool false)], args := [d1, d2, d3] }
  | _ => none }
def SiftTellsWrongFalsely : Prop := siftTellsRow.holds Try.pinned (OpenSpec.ofChange siftTellsWrong)

/-- 'joinerylaw06.SiftParts': WHATEVER THE INPUT: true; the input reads as it did. -/
def siftPartsSpec : ChangeSpec := { name := "siftParts", fn := fun _ => fun
  | [d1, d2, d3, d4] => { results := [.lit (.bool true)], args := [d1, d2, d3, d4] }
  | _ => none }
def siftPartsRow : OpenClaim := { program := "ytjjhmenkgcldeaa", sum := "3277eb9a9094447ad8250256ddc0821ed179823508c26f05595240dc1ef69dd3", func := "joinery/joinerylaw06.SiftParts", spec := "siftParts", unfollowed := true, recurses := true, apart := false }
def SiftPartsSaid : Prop := siftPartsRow.holds Try.pinned (OpenSpec.ofChange siftPartsSpec)

/-- ITS FALSE NEIGHBOUR: 'it returns false'. Refute it at one input. -/
def siftPartsWrong : ChangeSpec := { name := "siftParts", fn := fun _ => fun
  | [d1, d2, d3, d4] => { results := [.lit (.bool false)], args := [d1, d2, d3, d4] }
  | _ => none }
def SiftPartsWrongFalsely : Prop := siftPartsRow.holds Try.pinned (OpenSpec.ofChange siftPartsWrong)

/-- 'joinerylaw06.SiftMods': WHATEVER THE INPUT: true; the input reads as it did. -/
def siftModsSpec : ChangeSpec := { name := "siftMods", fn := fun _ => fun
  | [d1, d2] => { results := [.lit (.bool true)], args := [d1, d2] }
  | _ => none }
def siftModsRow : OpenClaim := { program := "ytjjhmenkgcldeaa", sum := "3277eb9a9094447ad8250256ddc0821ed179823508c26f05595240dc1ef69dd3", func := "joinery/joinerylaw06.SiftMods", spec := "siftMods", unfollowed := true, recurses := true, apart := false }
def SiftModsSaid : Prop := siftModsRow.holds Try.pinned (OpenSpec.ofChange siftModsSpec)

/-- ITS FALSE NEIGHBOUR: 'it returns false'. Refute it at one input. -/
def siftModsWrong : ChangeSpec := { name := "siftMods", fn := fun _ => fun
  | [d1, d2] => { results := [.lit (.bool false)], args := [d1, d2] }
  | _ => none }
def SiftModsWrongFalsely : Prop := siftModsRow.holds Try.pinned (OpenSpec.ofChange siftModsWrong)

/- THE SECOND FORM. 'bulk': how many values and letters a reading holds, each counted each time it is reached (what is shared counts as often as it is met; a slice's spare places count too). A statement '..UptoSaid' is the law's where the arguments, and the package variables that the reading takes, are together of bulk at most 1048576: NARROWER than '..Said'. Prove '..Said' where nothing that the law and all that it calls make is longer than what came in: it says more and counts as full. Else prove '..UptoSaid'. A law counts once. -/
mutual
def uptoBulk {H : Type} : DataW H → Nat
  | .lit (.string bytes) => bytes.length + 1
  | .lit _ => 1
  | .nil => 1
  | .ptr d => uptoBulk d + 1
  | .slice elems spare => uptoBulkAll elems + uptoBulkAll spare + 1
  | .agg parts => uptoBulkAll parts + 1
  | .iface _ d => uptoBulk d + 1
  | .map entries => uptoBulkEntries entries + 1
  | .held _ => 1
def uptoBulkAll {H : Type} : List (DataW H) → Nat
  | [] => 0
  | d :: r => uptoBulk d + uptoBulkAll r
def uptoBulkEntries {H : Type} : List (Lit × DataW H) → Nat
  | [] => 0
  | x :: r => uptoBulkEntry x + uptoBulkEntries r
def uptoBulkEntry {H : Type} : Lit × DataW H → Nat
  | (.string bytes, d) => bytes.length + uptoBulk d + 1
  | (_, d) => uptoBulk d + 1
 end
def uptoSmall : (H : Type) → List (DataW H) → Bool := fun _ ds => decide (uptoBulkAll ds ≤ 1048576)
def OpenSpec.upto (s : _root_.Go.ChangeSpec) : _root_.Go.OpenSpec := { _root_.Go.OpenSpec.ofChange s with cond := some uptoSmall }

/-- 'joinerylaw06.SiftTells', WHERE WHAT IT READS IS OF BULK AT MOST 1048576: true; the input reads as it did. -/
def siftTellsUptoRow : OpenClaim := { program := "ytjjhmenkgcldeaa", sum := "3277eb9a9094447ad8250256ddc0821ed179823508c26f05595240dc1ef69dd3", func := "joinery/joinerylaw06.SiftTells", spec := "siftTells", unfollowed := true, recurses := true, apart := false, narrowed := true }
def SiftTellsUptoSaid : Prop := siftTellsUptoRow.holds Try.pinned (OpenSpec.upto siftTellsSpec)

/-- 'joinerylaw06.SiftParts', WHERE WHAT IT READS IS OF BULK AT MOST 1048576: true; the input reads as it did. -/
def siftPartsUptoRow : OpenClaim := { program := "ytjjhmenkgcldeaa", sum := "3277eb9a9094447ad8250256ddc0821ed179823508c26f05595240dc1ef69dd3", func := "joinery/joinerylaw06.SiftParts", spec := "siftParts", unfollowed := true, recurses := true, apart := false, narrowed := true }
def SiftPartsUptoSaid : Prop := siftPartsUptoRow.holds Try.pinned (OpenSpec.upto siftPartsSpec)

/-- 'joinerylaw06.SiftMods', WHERE WHAT IT READS IS OF BULK AT MOST 1048576: true; the input reads as it did. -/
def siftModsUptoRow : OpenClaim := { program := "ytjjhmenkgcldeaa", sum := "3277eb9a9094447ad8250256ddc0821ed179823508c26f05595240dc1ef69dd3", func := "joinery/joinerylaw06.SiftMods", spec := "siftMods", unfollowed := true, recurses := true, apart := false, narrowed := true }
def SiftModsUptoSaid : Prop := siftModsUptoRow.holds Try.pinned (OpenSpec.upto siftModsSpec)

end Rows
end Go.Proofs.Ytjjhmenkgcldeaa
