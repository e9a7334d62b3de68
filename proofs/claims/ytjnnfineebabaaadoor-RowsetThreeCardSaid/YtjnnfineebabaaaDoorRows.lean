/-
  NARROWER THAN 'FOR EVERY INPUT', by the rows' own cells (each row's printed sentence says how): RowsetTells: laid · RowsetAlgebra: laid · RowsetThree: laid · RowsetCut: laid.
  DERIVED. THE GIVEN ROWS OF THIS SEAT. 4 by the template 'for every input the law returns true; each argument reads behind the call as it read before'; 0 by the template 'total and deterministic' (their statements: YtjnnfineebabaaaDoorTotals.lean).
  GIVEN WITH THE SEED: the statements are not yours to turn. If you find one false, say at which input.
  Laid BY PROGRAM, IN A SANDBOX (cutbox-rows.mjs): the forced cells as the released guide's own fill.sh prints them over the translation 0e7899fc24bb57a6… (all of the seat's roots in one cut). By AI agents, Wed Nov 11 2026. No macro, syntax, notation, axiom, sorry.
-/
import Derived.Test.YtjnnfineebabaaaDoorChecked
import GoSem.Claim
import GoSem.ClaimJoined
import GoSem.ClaimMapViews
import Derived.JoinedTies
import Derived.KernelRfl
namespace Go.Proofs.YtjnnfineebabaaaDoor
/- THE CELL 'sum', in the pinned program and in every row, IS THE sha256 OF THE DUMP (.gsa) THAT YtjnnfineebabaaaDoorProg.lean LOADS. Nothing in Lean hashes anything: it is a label: what it is worth is what the hold of that sum in a sandbox is worth. -/
noncomputable def Tryd.pinned : Pinned := { name := "ytjnnfineebabaaadoor", sum := "0e7899fc24bb57a606851c8ffd67db551659cdb8f8b0a8c141afb3d8e1f79a35", checked := Tryd.checked }
namespace Rows
def none {H : Type} : Left H := { results := [], args := [] }

/- WHAT THE LISTED PACKAGE-LEVEL VARIABLES READ AS WHEN THE CALL BEGINS. Each datum BY PROGRAM (the guide's laid-datum.mjs) off the statement by which the dump's own 'gosem.cut.vars' lays the variable. In a bare row this is a premise. The card (YtjnnfineebabaaaDoorCards.lean) ties it to the program's text. -/
def laid_joinery_mix_steps {H : Type} : DataW H := .agg [.agg [.lit (.int .u64 30), .lit (.int .u64 13787848793156543929)], .agg [.lit (.int .u64 27), .lit (.int .u64 10723151780598845931)], .agg [.lit (.int .u64 31), .lit (.int .u64 1)]]

/-- 'joinerylaw05.RowsetTells': WHATEVER THE INPUT: true; the input reads as it did. -/
def rowsetTellsSpec : ChangeSpec := { name := "rowsetTells", fn := fun _ => fun
  | [d1, d2, d3, d4, d5, d6] => { results := [.lit (.bool true)], args := [d1, d2, d3, d4, d5, d6] }
  | _ => none }
def rowsetTellsRow : OpenClaim := { program := "ytjnnfineebabaaadoor", sum := "0e7899fc24bb57a606851c8ffd67db551659cdb8f8b0a8c141afb3d8e1f79a35", func := "joinery/joinerylaw05.RowsetTells", spec := "rowsetTells", unfollowed := true, recurses := true, named := ["joinery/mix.steps"], apart := false, laid := [("joinery/mix.steps", laid_joinery_mix_steps)] }
def RowsetTellsSaid : Prop := rowsetTellsRow.holds Tryd.pinned (OpenSpec.ofChange rowsetTellsSpec)

/-- ITS FALSE NEIGHBOUR: 'it returns false'. Refute it at one input. -/
def rowsetTellsWrong : ChangeSpec := { name := "rowsetTells", fn := fun _ => fun
  | [d1, d2, d3, d4, d5, d6] => { results := [.lit (.bool false)], args := [d1, d2, d3, d4, d5, d6] }
  | _ => none }
def RowsetTellsWrongFalsely : Prop := rowsetTellsRow.holds Tryd.pinned (OpenSpec.ofChange rowsetTellsWrong)

/-- 'joinerylaw05.RowsetAlgebra': WHATEVER THE INPUT: true; the input reads as it did. -/
def rowsetAlgebraSpec : ChangeSpec := { name := "rowsetAlgebra", fn := fun _ => fun
  | [d1, d2, d3, d4] => { results := [.lit (.bool true)], args := [d1, d2, d3, d4] }
  | _ => none }
def rowsetAlgebraRow : OpenClaim := { program := "ytjnnfineebabaaadoor", sum := "0e7899fc24bb57a606851c8ffd67db551659cdb8f8b0a8c141afb3d8e1f79a35", func := "joinery/joinerylaw05.RowsetAlgebra", spec := "rowsetAlgebra", unfollowed := true, recurses := true, named := ["joinery/mix.steps"], apart := false, laid := [("joinery/mix.steps", laid_joinery_mix_steps)] }
def RowsetAlgebraSaid : Prop := rowsetAlgebraRow.holds Tryd.pinned (OpenSpec.ofChange rowsetAlgebraSpec)

/-- ITS FALSE NEIGHBOUR: 'it returns false'. Refute it at one input. -/
def rowsetAlgebraWrong : ChangeSpec := { name := "rowsetAlgebra", fn := fun _ => fun
  | [d1, d2, d3, d4] => { results := [.lit (.bool false)], args := [d1, d2, d3, d4] }
  | _ => none }
def RowsetAlgebraWrongFalsely : Prop := rowsetAlgebraRow.holds Tryd.pinned (OpenSpec.ofChange rowsetAlgebraWrong)

/-- 'joinerylaw05.RowsetThree': WHATEVER THE INPUT: true; the input reads as it did. -/
def rowsetThreeSpec : ChangeSpec := { name := "rowsetThree", fn := fun _ => fun
  | [d1, d2, d3, d4, d5] => { results := [.lit (.bool true)], args := [d1, d2, d3, d4, d5] }
  | _ => none }
def rowsetThreeRow : OpenClaim := { program := "ytjnnfineebabaaadoor", sum := "0e7899fc24bb57a606851c8ffd67db551659cdb8f8b0a8c141afb3d8e1f79a35", func := "joinery/joinerylaw05.RowsetThree", spec := "rowsetThree", unfollowed := true, recurses := true, named := ["joinery/mix.steps"], apart := false, laid := [("joinery/mix.steps", laid_joinery_mix_steps)] }
def RowsetThreeSaid : Prop := rowsetThreeRow.holds Tryd.pinned (OpenSpec.ofChange rowsetThreeSpec)

/-- ITS FALSE NEIGHBOUR: 'it returns false'. Refute it at one input. -/
def rowsetThreeWrong : ChangeSpec := { name := "rowsetThree", fn := fun _ => fun
  | [d1, d2, d3, d4, d5] => { results := [.lit (.bool false)], args := [d1, d2, d3, d4, d5] }
  | _ => none }
def RowsetThreeWrongFalsely : Prop := rowsetThreeRow.holds Tryd.pinned (OpenSpec.ofChange rowsetThreeWrong)

/-- 'joinerylaw05.RowsetCut': WHATEVER THE INPUT: true; the input reads as it did. -/
def rowsetCutSpec : ChangeSpec := { name := "rowsetCut", fn := fun _ => fun
  | [d1, d2, d3, d4] => { results := [.lit (.bool true)], args := [d1, d2, d3, d4] }
  | _ => none }
def rowsetCutRow : OpenClaim := { program := "ytjnnfineebabaaadoor", sum := "0e7899fc24bb57a606851c8ffd67db551659cdb8f8b0a8c141afb3d8e1f79a35", func := "joinery/joinerylaw05.RowsetCut", spec := "rowsetCut", unfollowed := true, recurses := true, named := ["joinery/mix.steps"], apart := false, laid := [("joinery/mix.steps", laid_joinery_mix_steps)] }
def RowsetCutSaid : Prop := rowsetCutRow.holds Tryd.pinned (OpenSpec.ofChange rowsetCutSpec)

/-- ITS FALSE NEIGHBOUR: 'it returns false'. Refute it at one input. -/
def rowsetCutWrong : ChangeSpec := { name := "rowsetCut", fn := fun _ => fun
  | [d1, d2, d3, d4] => { results := [.lit (.bool false)], args := [d1, d2, d3, d4] }
  | _ => none }
def RowsetCutWrongFalsely : Prop := rowsetCutRow.holds Tryd.pinned (OpenSpec.ofChange rowsetCutWrong)

/- THE SECOND FORM. 'bulk': how many values and letters a reading holds, each counted each time it is reached (what is shared counts as often as it is met; a slice's spare places count too). A statement '..UptoSaid' is the law's where the arguments, and the package variables that the reading takes, are together of bulk at most 1048576: NARROWER than '..Said'. Prove '..Said' where nothing that the law and all that it calls make is longer than what came in: it says more and counts as full. Else prove '..UptoSaid'. A law counts once. -/
mutual
def uptoBulk {H : Type} : DataW H → Nat
  | .lit (.string bytes) => bytes.length + 1
  | .lit _ => 1
  | .nil => 1
  | .ptr d => uptoBulk d + 1
  | .slice elems spare => uptoBulkAll elems + uptoBulkAll spare + 1
  | .agg parts => uptoBulkAll parts + 1
  | .iface _ d => uptoBulk d + 1
  | .map entries => uptoBulkEntries entries + 1
  | .held _ => 1
def uptoBulkAll {H : Type} : List (DataW H) → Nat
  | [] => 0
  | d :: r => uptoBulk d + uptoBulkAll r
def uptoBulkEntries {H : Type} : List (Lit × DataW H) → Nat
  | [] => 0
  | x :: r => uptoBulkEntry x + uptoBulkEntries r
def uptoBulkEntry {H : Type} : Lit × DataW H → Nat
  | (.string bytes, d) => bytes.length + uptoBulk d + 1
  | (_, d) => uptoBulk d + 1
 end
def uptoSmall : (H : Type) → List (DataW H) → Bool := fun _ ds => decide (uptoBulkAll ds ≤ 1048576)
def OpenSpec.upto (s : _root_.Go.ChangeSpec) : _root_.Go.OpenSpec := { _root_.Go.OpenSpec.ofChange s with cond := some uptoSmall }

/-- 'joinerylaw05.RowsetTells', WHERE WHAT IT READS IS OF BULK AT MOST 1048576: true; the input reads as it did. -/
def rowsetTellsUptoRow : OpenClaim := { program := "ytjnnfineebabaaadoor", sum := "0e7899fc24bb57a606851c8ffd67db551659cdb8f8b0a8c141afb3d8e1f79a35", func := "joinery/joinerylaw05.RowsetTells", spec := "rowsetTells", unfollowed := true, recurses := true, named := ["joinery/mix.steps"], apart := false, laid := [("joinery/mix.steps", laid_joinery_mix_steps)], narrowed := true }
def RowsetTellsUptoSaid : Prop := rowsetTellsUptoRow.holds Tryd.pinned (OpenSpec.upto rowsetTellsSpec)

/-- 'joinerylaw05.RowsetAlgebra', WHERE WHAT IT READS IS OF BULK AT MOST 1048576: true; the input reads as it did. -/
def rowsetAlgebraUptoRow : OpenClaim := { program := "ytjnnfineebabaaadoor", sum := "0e7899fc24bb57a606851c8ffd67db551659cdb8f8b0a8c141afb3d8e1f79a35", func := "joinery/joinerylaw05.RowsetAlgebra", spec := "rowsetAlgebra", unfollowed := true, recurses := true, named := ["joinery/mix.steps"], apart := false, laid := [("joinery/mix.steps", laid_joinery_mix_steps)], narrowed := true }
def RowsetAlgebraUptoSaid : Prop := rowsetAlgebraUptoRow.holds Tryd.pinned (OpenSpec.upto rowsetAlgebraSpec)

/-- 'joinerylaw05.RowsetThree', WHERE WHAT IT READS IS OF BULK AT MOST 1048576: true; the input reads as it did. -/
def rowsetThreeUptoRow : OpenClaim := { program := "ytjnnfineebabaaadoor", sum := "0e7899fc24bb57a606851c8ffd67db551659cdb8f8b0a8c141afb3d8e1f79a35", func := "joinery/joinerylaw05.RowsetThree", spec := "rowsetThree", unfollowed := true, recurses := true, named := ["joinery/mix.steps"], apart := false, laid := [("joinery/mix.steps", laid_joinery_mix_steps)], narrowed := true }
def RowsetThreeUptoSaid : Prop := rowsetThreeUptoRow.holds Tryd.pinned (OpenSpec.upto rowsetThreeSpec)

/-- 'joinerylaw05.RowsetCut', WHERE WHAT IT READS IS OF BULK AT MOST 1048576: true; the input reads as it did. -/
def rowsetCutUptoRow : OpenClaim := { program := "ytjnnfineebabaaadoor", sum := "0e7899fc24bb57a606851c8ffd67db551659cdb8f8b0a8c141afb3d8e1f79a35", func := "joinery/joinerylaw05.RowsetCut", spec := "rowsetCut", unfollowed := true, recurses := true, named := ["joinery/mix.steps"], apart := false, laid := [("joinery/mix.steps", laid_joinery_mix_steps)], narrowed := true }
def RowsetCutUptoSaid : Prop := rowsetCutUptoRow.holds Tryd.pinned (OpenSpec.upto rowsetCutSpec)

end Rows
end Go.Proofs.YtjnnfineebabaaaDoor
