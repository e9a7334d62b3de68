/-
  NARROWER THAN 'FOR EVERY INPUT', by the rows' own cells (each row's printed sentence says how): RowTells: laid · RowKeeps: laid · RowEnds: laid.
  DERIVED. THE GIVEN ROWS OF THIS SEAT. 3 by the template 'for every input the law returns true; each argument reads behind the call as it read before'; 0 by the template 'total and deterministic' (their statements: YtekggefokoaidaaDoorTotals.lean).
  GIVEN WITH THE SEED: the statements are not yours to turn. If you find one false, say at which input.
  Laid BY PROGRAM, IN A SANDBOX (cutbox-rows.mjs): the forced cells as the released guide's own fill.sh prints them over the translation 67efae717ee89df3… (all of the seat's roots in one cut). By AI agents, Wed Nov 11 2026. No macro, syntax, notation, axiom, sorry.
-/
import Derived.Test.YtekggefokoaidaaDoorChecked
import GoSem.Claim
import GoSem.ClaimJoined
import GoSem.ClaimMapViews
import Derived.JoinedTies
import Derived.KernelRfl
namespace Go.Proofs.YtekggefokoaidaaDoor
/- THE CELL 'sum', in the pinned program and in every row, IS THE sha256 OF THE DUMP (.gsa) THAT YtekggefokoaidaaDoorProg.lean LOADS. Nothing in Lean hashes anything: it is a label: what it is worth is what the hold of that sum in a sandbox is worth. -/
noncomputable def Tryd.pinned : Pinned := { name := "ytekggefokoaidaadoor", sum := "67efae717ee89df35187e96a046c0771e32d498c57603073d0f3ec31a3fbe40d", checked := Tryd.checked }
namespace Rows
def none {H : Type} : Left H := { results := [], args := [] }

/- WHAT THE LISTED PACKAGE-LEVEL VARIABLES READ AS WHEN THE CALL BEGINS. Each datum BY PROGRAM (the guide's laid-datum.mjs) off the statement by which the dump's own 'gosem.cut.vars' lays the variable. In a bare row this is a premise. The card (YtekggefokoaidaaDoorCards.lean) ties it to the program's text. -/
def laid_joinery_mix_steps {H : Type} : DataW H := .agg [.agg [.lit (.int .u64 30), .lit (.int .u64 13787848793156543929)], .agg [.lit (.int .u64 27), .lit (.int .u64 10723151780598845931)], .agg [.lit (.int .u64 31), .lit (.int .u64 1)]]

/-- 'joinerylaw04.RowTells': WHATEVER THE INPUT: true; the input reads as it did. -/
def rowTellsSpec : ChangeSpec := { name := "rowTells", fn := fun _ => fun
  | [d1, d2, d3, d4] => { results := [.lit (.bool true)], args := [d1, d2, d3, d4] }
  | _ => none }
def rowTellsRow : OpenClaim := { program := "ytekggefokoaidaadoor", sum := "67efae717ee89df35187e96a046c0771e32d498c57603073d0f3ec31a3fbe40d", func := "joinery/joinerylaw04.RowTells", spec := "rowTells", unfollowed := true, recurses := true, named := ["joinery/mix.steps"], apart := false, laid := [("joinery/mix.steps", laid_joinery_mix_steps)] }
def RowTellsSaid : Prop := rowTellsRow.holds Tryd.pinned (OpenSpec.ofChange rowTellsSpec)

/-- ITS FALSE NEIGHBOUR: 'it returns false'. Refute it at one input. -/
def rowTellsWrong : ChangeSpec := { name := "rowTells", fn := fun _ => fun
  | [d1, d2, d3, d4] => { results := [.lit (.bool false)], args := [d1, d2, d3, d4] }
  | _ => none }
def RowTellsWrongFalsely : Prop := rowTellsRow.holds Tryd.pinned (OpenSpec.ofChange rowTellsWrong)

/-- 'joinerylaw04.RowKeeps': WHATEVER THE INPUT: true; the input reads as it did. -/
def rowKeepsSpec : ChangeSpec := { name := "rowKeeps", fn := fun _ => fun
  | [d1, d2, d3] => { results := [.lit (.bool true)], args := [d1, d2, d3] }
  | _ => none }
def rowKeepsRow : OpenClaim := { program := "ytekggefokoaidaadoor", sum := "67efae717ee89df35187e96a046c0771e32d498c57603073d0f3ec31a3fbe40d", func := "joinery/joinerylaw04.RowKeeps", spec := "rowKeeps", unfollowed := true, recurses := true, named := ["joinery/mix.steps"], apart := false, laid := [("joinery/mix.steps", laid_joinery_mix_steps)] }
def RowKeepsSaid : Prop := rowKeepsRow.holds Tryd.pinned (OpenSpec.ofChange rowKeepsSpec)

/-- ITS FALSE NEIGHBOUR: 'it returns false'. Refute it at one input. -/
def rowKeepsWrong : ChangeSpec := { name := "rowKeeps", fn := fun _ => fun
  | [d1, d2, d3] => { results := [.lit (.bool false)], args := [d1, d2, d3] }
  | _ => none }
def RowKeepsWrongFalsely : Prop := rowKeepsRow.holds Tryd.pinned (OpenSpec.ofChange rowKeepsWrong)

/-- 'joinerylaw04.RowEnds': WHATEVER THE INPUT: true; the input reads as it did. -/
def rowEndsSpec : ChangeSpec := { name := "rowEnds", fn := fun _ => fun
  | [d1, d2, d3] => { results := [.lit (.bool true)], args := [d1, d2, d3] }
  | _ => none }
def rowEndsRow : OpenClaim := { program := "ytekggefokoaidaadoor", sum := "67efae717ee89df35187e96a046c0771e32d498c57603073d0f3ec31a3fbe40d", func := "joinery/joinerylaw04.RowEnds", spec := "rowEnds", unfollowed := true, recurses := true, named := ["joinery/mix.steps"], apart := false, laid := [("joinery/mix.steps", laid_joinery_mix_steps)] }
def RowEndsSaid : Prop := rowEndsRow.holds Tryd.pinned (OpenSpec.ofChange rowEndsSpec)

/-- ITS FALSE NEIGHBOUR: 'it returns false'. Refute it at one input. -/
def rowEndsWrong : ChangeSpec := { name := "rowEnds", fn := fun _ => fun
  | [d1, d2, d3] => { results := [.lit (.bool false)], args := [d1, d2, d3] }
  | _ => none }
def RowEndsWrongFalsely : Prop := rowEndsRow.holds Tryd.pinned (OpenSpec.ofChange rowEndsWrong)

/- THE SECOND FORM. 'bulk': how many values and letters a reading holds, each counted each time it is reached (what is shared counts as often as it is met; a slice's spare places count too). A statement '..UptoSaid' is the law's where the arguments, and the package variables that the reading takes, are together of bulk at most 1048576: NARROWER than '..Said'. Prove '..Said' where nothing that the law and all that it calls make is longer than what came in: it says more and counts as full. Else prove '..UptoSaid'. A law counts once. -/
mutual
def uptoBulk {H : Type} : DataW H → Nat
  | .lit (.string bytes) => bytes.length + 1
  | .lit _ => 1
  | .nil => 1
  | .ptr d => uptoBulk d + 1
  | .slice elems spare => uptoBulkAll elems + uptoBulkAll spare + 1
  | .agg parts => uptoBulkAll parts + 1
  | .iface _ d => uptoBulk d + 1
  | .map entries => uptoBulkEntries entries + 1
  | .held _ => 1
def uptoBulkAll {H : Type} : List (DataW H) → Nat
  | [] => 0
  | d :: r => uptoBulk d + uptoBulkAll r
def uptoBulkEntries {H : Type} : List (Lit × DataW H) → Nat
  | [] => 0
  | x :: r => uptoBulkEntry x + uptoBulkEntries r
def uptoBulkEntry {H : Type} : Lit × DataW H → Nat
  | (.string bytes, d) => bytes.length + uptoBulk d + 1
  | (_, d) => uptoBulk d + 1
 end
def uptoSmall : (H : Type) → List (DataW H) → Bool := fun _ ds => decide (uptoBulkAll ds ≤ 1048576)
def OpenSpec.upto (s : _root_.Go.ChangeSpec) : _root_.Go.OpenSpec := { _root_.Go.OpenSpec.ofChange s with cond := some uptoSmall }

/-- 'joinerylaw04.RowTells', WHERE WHAT IT READS IS OF BULK AT MOST 1048576: true; the input reads as it did. -/
def rowTellsUptoRow : OpenClaim := { program := "ytekggefokoaidaadoor", sum := "67efae717ee89df35187e96a046c0771e32d498c57603073d0f3ec31a3fbe40d", func := "joinery/joinerylaw04.RowTells", spec := "rowTells", unfollowed := true, recurses := true, named := ["joinery/mix.steps"], apart := false, laid := [("joinery/mix.steps", laid_joinery_mix_steps)], narrowed := true }
def RowTellsUptoSaid : Prop := rowTellsUptoRow.holds Tryd.pinned (OpenSpec.upto rowTellsSpec)

/-- 'joinerylaw04.RowKeeps', WHERE WHAT IT READS IS OF BULK AT MOST 1048576: true; the input reads as it did. -/
def rowKeepsUptoRow : OpenClaim := { program := "ytekggefokoaidaadoor", sum := "67efae717ee89df35187e96a046c0771e32d498c57603073d0f3ec31a3fbe40d", func := "joinery/joinerylaw04.RowKeeps", spec := "rowKeeps", unfollowed := true, recurses := true, named := ["joinery/mix.steps"], apart := false, laid := [("joinery/mix.steps", laid_joinery_mix_steps)], narrowed := true }
def RowKeepsUptoSaid : Prop := rowKeepsUptoRow.holds Tryd.pinned (OpenSpec.upto rowKeepsSpec)

/-- 'joinerylaw04.RowEnds', WHERE WHAT IT READS IS OF BULK AT MOST 1048576: true; the input reads as it did. -/
def rowEndsUptoRow : OpenClaim := { program := "ytekggefokoaidaadoor", sum := "67efae717ee89df35187e96a046c0771e32d498c57603073d0f3ec31a3fbe40d", func := "joinery/joinerylaw04.RowEnds", spec := "rowEnds", unfollowed := true, recurses := true, named := ["joinery/mix.steps"], apart := false, laid := [("joinery/mix.steps", laid_joinery_mix_steps)], narrowed := true }
def RowEndsUptoSaid : Prop := rowEndsUptoRow.holds Tryd.pinned (OpenSpec.upto rowEndsSpec)

end Rows
end Go.Proofs.YtekggefokoaidaaDoor
