/-
  NARROWER THAN 'FOR EVERY INPUT', by the rows' own cells (each row's printed sentence says how): TreapTells: laid · TreapAbove: laid · TreapMakes: laid · TreapOne: laid.
  DERIVED. THE GIVEN ROWS OF THIS SEAT. 4 by the template 'for every input the law returns true; each argument reads behind the call as it read before'; 0 by the template 'total and deterministic' (their statements: YtcnkgddldhkddaaDoorTotals.lean).
  GIVEN WITH THE SEED: the statements are not yours to turn. If you find one false, say at which input.
  Laid BY PROGRAM, IN A SANDBOX (cutbox-rows.mjs): the forced cells as the released guide's own fill.sh prints them over the translation 5e279838c46ac23b… (all of the seat's roots in one cut). By AI agents, Wed Nov 11 2026. No macro, syntax, notation, axiom, sorry.
-/
import Derived.Test.YtcnkgddldhkddaaDoorChecked
import GoSem.Claim
import GoSem.ClaimJoined
import GoSem.ClaimMapViews
import Derived.JoinedTies
import Derived.KernelRfl
namespace Go.Proofs.YtcnkgddldhkddaaDoor
/- THE CELL 'sum', in the pinned program and in every row, IS THE sha256 OF THE DUMP (.gsa) THAT YtcnkgddldhkddaaDoorProg.lean LOADS. Nothing in Lean hashes anything: it is a label: what it is worth is what the hold of that sum in a sandbox is worth. -/
noncomputable def Tryd.pinned : Pinned := { name := "ytcnkgddldhkddaadoor", sum := "5e279838c46ac23bb4d0481139de8ed5ebfc235e70d915974a9810d8b1d3add0", checked := Tryd.checked }
namespace Rows
def none {H : Type} : Left H := { results := [], args := [] }

/- WHAT THE LISTED PACKAGE-LEVEL VARIABLES READ AS WHEN THE CALL BEGINS. Each datum BY PROGRAM (the guide's laid-datum.mjs) off the statement by which the dump's own 'gosem.cut.vars' lays the variable. In a bare row this is a premise. The card (YtcnkgddldhkddaaDoorCards.lean) ties it to the program's text. -/
def laid_joinery_mix_steps {H : Type} : DataW H := .agg [.agg [.lit (.int .u64 30), .lit (.int .u64 13787848793156543929)], .agg [.lit (.int .u64 27), .lit (.int .u64 10723151780598845931)], .agg [.lit (.int .u64 31), .lit (.int .u64 1)]]

/-- 'joinerylaw20.TreapTells': WHATEVER THE INPUT: true; the input reads as it did. -/
def treapTellsSpec : ChangeSpec := { name := "treapTells", fn := fun _ => fun
  | [d] => { results := [.lit (.bool true)], args := [d] }
  | _ => none }
def treapTellsRow : OpenClaim := { program := "ytcnkgddldhkddaadoor", sum := "5e279838c46ac23bb4d0481139de8ed5ebfc235e70d915974a9810d8b1d3add0", func := "joinery/joinerylaw20.TreapTells", spec := "treapTells", unfollowed := true, recurses := true, named := ["joinery/mix.steps"], apart := false, laid := [("joinery/mix.steps", laid_joinery_mix_steps)] }
def TreapTellsSaid : Prop := treapTellsRow.holds Tryd.pinned (OpenSpec.ofChange treapTellsSpec)

/-- ITS FALSE NEIGHBOUR: 'it returns false'. Refute it at one input. -/
def treapTellsWrong : ChangeSpec := { name := "treapTells", fn := fun _ => fun
  | [d] => { results := [.lit (.bool false)], args := [d] }
  | _ => none }
def TreapTellsWrongFalsely : Prop := treapTellsRow.holds Tryd.pinned (OpenSpec.ofChange treapTellsWrong)

/-- 'joinerylaw20.TreapAbove': WHATEVER THE INPUT: true; the input reads as it did. -/
def treapAboveSpec : ChangeSpec := { name := "treapAbove", fn := fun _ => fun
  | [d1, d2, d3] => { results := [.lit (.bool true)], args := [d1, d2, d3] }
  | _ => none }
def treapAboveRow : OpenClaim := { program := "ytcnkgddldhkddaadoor", sum := "5e279838c46ac23bb4d0481139de8ed5ebfc235e70d915974a9810d8b1d3add0", func := "joinery/joinerylaw20.TreapAbove", spec := "treapAbove", unfollowed := true, recurses := true, named := ["joinery/mix.steps"], apart := false, laid := [("joinery/mix.steps", laid_joinery_mix_steps)] }
def TreapAboveSaid : Prop := treapAboveRow.holds Tryd.pinned (OpenSpec.ofChange treapAboveSpec)

/-- ITS FALSE NEIGHBOUR: 'it returns false'. Refute it at one input. -/
def treapAboveWrong : ChangeSpec := { name := "treapAbove", fn := fun _ => fun
  | [d1, d2, d3] => { results := [.lit (.bool false)], args := [d1, d2, d3] }
  | _ => none }
def TreapAboveWrongFalsely : Prop := treapAboveRow.holds Tryd.pinned (OpenSpec.ofChange treapAboveWrong)

/-- 'joinerylaw20.TreapMakes': WHATEVER THE INPUT: true; the input reads as it did. -/
def treapMakesSpec : ChangeSpec := { name := "treapMakes", fn := fun _ => fun
  | [d] => { results := [.lit (.bool true)], args := [d] }
  | _ => none }
def treapMakesRow : OpenClaim := { program := "ytcnkgddldhkddaadoor", sum := "5e279838c46ac23bb4d0481139de8ed5ebfc235e70d915974a9810d8b1d3add0", func := "joinery/joinerylaw20.TreapMakes", spec := "treapMakes", unfollowed := true, recurses := true, named := ["joinery/mix.steps"], apart := false, laid := [("joinery/mix.steps", laid_joinery_mix_steps)] }
def TreapMakesSaid : Prop := treapMakesRow.holds Tryd.pinned (OpenSpec.ofChange treapMakesSpec)

/-- ITS FALSE NEIGHBOUR: 'it returns false'. Refute it at one input. -/
def treapMakesWrong : ChangeSpec := { name := "treapMakes", fn := fun _ => fun
  | [d] => { results := [.lit (.bool false)], args := [d] }
  | _ => none }
def TreapMakesWrongFalsely : Prop := treapMakesRow.holds Tryd.pinned (OpenSpec.ofChange treapMakesWrong)

/-- 'joinerylaw20.TreapOne': WHATEVER THE INPUT: true; the input reads as it did. -/
def treapOneSpec : ChangeSpec := { name := "treapOne", fn := fun _ => fun
  | [d1, d2] => { results := [.lit (.bool true)], args := [d1, d2] }
  | _ => none }
def treapOneRow : OpenClaim := { program := "ytcnkgddldhkddaadoor", sum := "5e279838c46ac23bb4d0481139de8ed5ebfc235e70d915974a9810d8b1d3add0", func := "joinery/joinerylaw20.TreapOne", spec := "treapOne", unfollowed := true, recurses := true, named := ["joinery/mix.steps"], apart := false, laid := [("joinery/mix.steps", laid_joinery_mix_steps)] }
def TreapOneSaid : Prop := treapOneRow.holds Tryd.pinned (OpenSpec.ofChange treapOneSpec)

/-- ITS FALSE NEIGHBOUR: 'it returns false'. Refute it at one input. -/
def treapOneWrong : ChangeSpec := { name := "treapOne", fn := fun _ => fun
  | [d1, d2] => { results := [.lit (.bool false)], args := [d1, d2] }
  | _ => none }
def TreapOneWrongFalsely : Prop := treapOneRow.holds Tryd.pinned (OpenSpec.ofChange treapOneWrong)

/- THE SECOND FORM. 'bulk': how many values and letters a reading holds, each counted each time it is reached (what is shared counts as often as it is met; a slice's spare places count too). A statement '..UptoSaid' is the law's where the arguments, and the package variables that the reading takes, are together of bulk at most 1048576: NARROWER than '..Said'. Prove '..Said' where nothing that the law and all that it calls make is longer than what came in: it says more and counts as full. Else prove '..UptoSaid'. A law counts once. -/
mutual
def uptoBulk {H : Type} : DataW H → Nat
  | .lit (.string bytes) => bytes.length + 1
  | .lit _ => 1
  | .nil => 1
  | .ptr d => uptoBulk d + 1
  | .slice elems spare => uptoBulkAll elems + uptoBulkAll spare + 1
  | .agg parts => uptoBulkAll parts + 1
  | .iface _ d => uptoBulk d + 1
  | .map entries => uptoBulkEntries entries + 1
  | .held _ => 1
def uptoBulkAll {H : Type} : List (DataW H) → Nat
  | [] => 0
  | d :: r => uptoBulk d + uptoBulkAll r
def uptoBulkEntries {H : Type} : List (Lit × DataW H) → Nat
  | [] => 0
  | x :: r => uptoBulkEntry x + uptoBulkEntries r
def uptoBulkEntry {H : Type} : Lit × DataW H → Nat
  | (.string bytes, d) => bytes.length + uptoBulk d + 1
  | (_, d) => uptoBulk d + 1
 end
def uptoSmall : (H : Type) → List (DataW H) → Bool := fun _ ds => decide (uptoBulkAll ds ≤ 1048576)
def OpenSpec.upto (s : _root_.Go.ChangeSpec) : _root_.Go.OpenSpec := { _root_.Go.OpenSpec.ofChange s with cond := some uptoSmall }

/-- 'joinerylaw20.TreapTells', WHERE WHAT IT READS IS OF BULK AT MOST 1048576: true; the input reads as it did. -/
def treapTellsUptoRow : OpenClaim := { program := "ytcnkgddldhkddaadoor", sum := "5e279838c46ac23bb4d0481139de8ed5ebfc235e70d915974a9810d8b1d3add0", func := "joinery/joinerylaw20.TreapTells", spec := "treapTells", unfollowed := true, recurses := true, named := ["joinery/mix.steps"], apart := false, laid := [("joinery/mix.steps", laid_joinery_mix_steps)], narrowed := true }
def TreapTellsUptoSaid : Prop := treapTellsUptoRow.holds Tryd.pinned (OpenSpec.upto treapTellsSpec)

/-- 'joinerylaw20.TreapAbove', WHERE WHAT IT READS IS OF BULK AT MOST 1048576: true; the input reads as it did. -/
def treapAboveUptoRow : OpenClaim := { program := "ytcnkgddldhkddaadoor", sum := "5e279838c46ac23bb4d0481139de8ed5ebfc235e70d915974a9810d8b1d3add0", func := "joinery/joinerylaw20.TreapAbove", spec := "treapAbove", unfollowed := true, recurses := true, named := ["joinery/mix.steps"], apart := false, laid := [("joinery/mix.steps", laid_joinery_mix_steps)], narrowed := true }
def TreapAboveUptoSaid : Prop := treapAboveUptoRow.holds Tryd.pinned (OpenSpec.upto treapAboveSpec)

/-- 'joinerylaw20.TreapMakes', WHERE WHAT IT READS IS OF BULK AT MOST 1048576: true; the input reads as it did. -/
def treapMakesUptoRow : OpenClaim := { program := "ytcnkgddldhkddaadoor", sum := "5e279838c46ac23bb4d0481139de8ed5ebfc235e70d915974a9810d8b1d3add0", func := "joinery/joinerylaw20.TreapMakes", spec := "treapMakes", unfollowed := true, recurses := true, named := ["joinery/mix.steps"], apart := false, laid := [("joinery/mix.steps", laid_joinery_mix_steps)], narrowed := true }
def TreapMakesUptoSaid : Prop := treapMakesUptoRow.holds Tryd.pinned (OpenSpec.upto treapMakesSpec)

/-- 'joinerylaw20.TreapOne', WHERE WHAT IT READS IS OF BULK AT MOST 1048576: true; the input reads as it did. -/
def treapOneUptoRow : OpenClaim := { program := "ytcnkgddldhkddaadoor", sum := "5e279838c46ac23bb4d0481139de8ed5ebfc235e70d915974a9810d8b1d3add0", func := "joinery/joinerylaw20.TreapOne", spec := "treapOne", unfollowed := true, recurses := true, named := ["joinery/mix.steps"], apart := false, laid := [("joinery/mix.steps", laid_joinery_mix_steps)], narrowed := true }
def TreapOneUptoSaid : Prop := treapOneUptoRow.holds Tryd.pinned (OpenSpec.upto treapOneSpec)

end Rows
end Go.Proofs.YtcnkgddldhkddaaDoor
