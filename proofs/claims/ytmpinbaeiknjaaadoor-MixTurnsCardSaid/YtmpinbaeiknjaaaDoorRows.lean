/-
  NARROWER THAN 'FOR EVERY INPUT', by the rows' own cells (each row's printed sentence says how): MixTells: laid · MixBack: laid · MixTurns: laid.
  DERIVED. THE GIVEN ROWS OF THIS SEAT. 3 by the template 'for every input the law returns true; each argument reads behind the call as it read before'; 0 by the template 'total and deterministic' (their statements: YtmpinbaeiknjaaaDoorTotals.lean).
  GIVEN WITH THE SEED: the statements are not yours to turn. If you find one false, say at which input.
  Laid BY PROGRAM, IN A SANDBOX (cutbox-rows.mjs): the forced cells as the released guide's own fill.sh prints them over the translation 43ea9656fea743c1… (all of the seat's roots in one cut). By AI agents, Wed Nov 11 2026. No macro, syntax, notation, axiom, sorry.
-/
import Derived.Test.YtmpinbaeiknjaaaDoorChecked
import GoSem.Claim
import GoSem.ClaimJoined
import GoSem.ClaimMapViews
import Derived.JoinedTies
import Derived.KernelRfl
namespace Go.Proofs.YtmpinbaeiknjaaaDoor
/- THE CELL 'sum', in the pinned program and in every row, IS THE sha256 OF THE DUMP (.gsa) THAT YtmpinbaeiknjaaaDoorProg.lean LOADS. Nothing in Lean hashes anything: it is a label: what it is worth is what the hold of that sum in a sandbox is worth. -/
noncomputable def Tryd.pinned : Pinned := { name := "ytmpinbaeiknjaaadoor", sum := "43ea9656fea743c10a49dceee02958d15636971a11742c2ff65ab9292d7f5dfd", checked := Tryd.checked }
namespace Rows
def none {H : Type} : Left H := { results := [], args := [] }

/- WHAT THE LISTED PACKAGE-LEVEL VARIABLES READ AS WHEN THE CALL BEGINS. Each datum BY PROGRAM (the guide's laid-datum.mjs) off the statement by which the dump's own 'gosem.cut.vars' lays the variable. In a bare row this is a premise. The card (YtmpinbaeiknjaaaDoorCards.lean) ties it to the program's text. -/
def laid_joinery_mix_steps {H : Type} : DataW H := .agg [.agg [.lit (.int .u64 30), .lit (.int .u64 13787848793156543929)], .agg [.lit (.int .u64 27), .lit (.int .u64 10723151780598845931)], .agg [.lit (.int .u64 31), .lit (.int .u64 1)]]

/-- 'joinerylaw01.MixTells': WHATEVER THE INPUT: true; the input reads as it did. -/
def mixTellsSpec : ChangeSpec := { name := "mixTells", fn := fun _ => fun
  | [d1, d2, d3] => { results := [.lit (.bool true)], args := [d1, d2, d3] }
  | _ => none }
def mixTellsRow : OpenClaim := { program := "ytmpinbaeiknjaaadoor", sum := "43ea9656fea743c10a49dceee02958d15636971a11742c2ff65ab9292d7f5dfd", func := "joinery/joinerylaw01.MixTells", spec := "mixTells", unfollowed := true, recurses := true, named := ["joinery/mix.steps"], apart := false, laid := [("joinery/mix.steps", laid_joinery_mix_steps)] }
def MixTellsSaid : Prop := mixTellsRow.holds Tryd.pinned (OpenSpec.ofChange mixTellsSpec)

/-- ITS FALSE NEIGHBOUR: 'it returns false'. Refute it at one input. -/
def mixTellsWrong : ChangeSpec := { name := "mixTells", fn := fun _ => fun
  | [d1, d2, d3] => { results := [.lit (.bool false)], args := [d1, d2, d3] }
  | _ => none }
def MixTellsWrongFalsely : Prop := mixTellsRow.holds Tryd.pinned (OpenSpec.ofChange mixTellsWrong)

/-- 'joinerylaw01.MixBack': WHATEVER THE INPUT: true; the input reads as it did. -/
def mixBackSpec : ChangeSpec := { name := "mixBack", fn := fun _ => fun
  | [d1, d2] => { results := [.lit (.bool true)], args := [d1, d2] }
  | _ => none }
def mixBackRow : OpenClaim := { program := "ytmpinbaeiknjaaadoor", sum := "43ea9656fea743c10a49dceee02958d15636971a11742c2ff65ab9292d7f5dfd", func := "joinery/joinerylaw01.MixBack", spec := "mixBack", unfollowed := true, recurses := true, named := ["joinery/mix.steps"], apart := false, laid := [("joinery/mix.steps", laid_joinery_mix_steps)] }
def MixBackSaid : Prop := mixBackRow.holds Tryd.pinned (OpenSpec.ofChange mixBackSpec)

/-- ITS FALSE NEIGHBOUR: 'it returns false'. Refute it at one input. -/
def mixBackWrong : ChangeSpec := { name := "mixBack", fn := fun _ => fun
  | [d1, d2] => { results := [.lit (.bool false)], args := [d1, d2] }
  | _ => none }
def MixBackWrongFalsely : Prop := mixBackRow.holds Tryd.pinned (OpenSpec.ofChange mixBackWrong)

/-- 'joinerylaw01.MixTurns': WHATEVER THE INPUT: true; the input reads as it did. -/
def mixTurnsSpec : ChangeSpec := { name := "mixTurns", fn := fun _ => fun
  | [d1, d2, d3] => { results := [.lit (.bool true)], args := [d1, d2, d3] }
  | _ => none }
def mixTurnsRow : OpenClaim := { program := "ytmpinbaeiknjaaadoor", sum := "43ea9656fea743c10a49dceee02958d15636971a11742c2ff65ab9292d7f5dfd", func := "joinery/joinerylaw01.MixTurns", spec := "mixTurns", unfollowed := true, recurses := true, named := ["joinery/mix.steps"], apart := false, laid := [("joinery/mix.steps", laid_joinery_mix_steps)] }
def MixTurnsSaid : Prop := mixTurnsRow.holds Tryd.pinned (OpenSpec.ofChange mixTurnsSpec)

/-- ITS FALSE NEIGHBOUR: 'it returns false'. Refute it at one input. -/
def mixTurnsWrong : ChangeSpec := { name := "mixTurns", fn := fun _ => fun
  | [d1, d2, d3] => { results := [.lit (.bool false)], args := [d1, d2, d3] }
  | _ => none }
def MixTurnsWrongFalsely : Prop := mixTurnsRow.holds Tryd.pinned (OpenSpec.ofChange mixTurnsWrong)

/- THE SECOND FORM. 'bulk': how many values and letters a reading holds, each counted each time it is reached (what is shared counts as often as it is met; a slice's spare places count too). A statement '..UptoSaid' is the law's where the arguments, and the package variables that the reading takes, are together of bulk at most 1048576: NARROWER than '..Said'. Prove '..Said' where nothing that the law and all that it calls make is longer than what came in: it says more and counts as full. Else prove '..UptoSaid'. A law counts once. -/
mutual
def uptoBulk {H : Type} : DataW H → Nat
  | .lit (.string bytes) => bytes.length + 1
  | .lit _ => 1
  | .nil => 1
  | .ptr d => uptoBulk d + 1
  | .slice elems spare => uptoBulkAll elems + uptoBulkAll spare + 1
  | .agg parts => uptoBulkAll parts + 1
  | .iface _ d => uptoBulk d + 1
  | .map entries => uptoBulkEntries entries + 1
  | .held _ => 1
def uptoBulkAll {H : Type} : List (DataW H) → Nat
  | [] => 0
  | d :: r => uptoBulk d + uptoBulkAll r
def uptoBulkEntries {H : Type} : List (Lit × DataW H) → Nat
  | [] => 0
  | x :: r => uptoBulkEntry x + uptoBulkEntries r
def uptoBulkEntry {H : Type} : Lit × DataW H → Nat
  | (.string bytes, d) => bytes.length + uptoBulk d + 1
  | (_, d) => uptoBulk d + 1
 end
def uptoSmall : (H : Type) → List (DataW H) → Bool := fun _ ds => decide (uptoBulkAll ds ≤ 1048576)
def OpenSpec.upto (s : _root_.Go.ChangeSpec) : _root_.Go.OpenSpec := { _root_.Go.OpenSpec.ofChange s with cond := some uptoSmall }

/-- 'joinerylaw01.MixTells', WHERE WHAT IT READS IS OF BULK AT MOST 1048576: true; the input reads as it did. -/
def mixTellsUptoRow : OpenClaim := { program := "ytmpinbaeiknjaaadoor", sum := "43ea9656fea743c10a49dceee02958d15636971a11742c2ff65ab9292d7f5dfd", func := "joinery/joinerylaw01.MixTells", spec := "mixTells", unfollowed := true, recurses := true, named := ["joinery/mix.steps"], apart := false, laid := [("joinery/mix.steps", laid_joinery_mix_steps)], narrowed := true }
def MixTellsUptoSaid : Prop := mixTellsUptoRow.holds Tryd.pinned (OpenSpec.upto mixTellsSpec)

/-- 'joinerylaw01.MixBack', WHERE WHAT IT READS IS OF BULK AT MOST 1048576: true; the input reads as it did. -/
def mixBackUptoRow : OpenClaim := { program := "ytmpinbaeiknjaaadoor", sum := "43ea9656fea743c10a49dceee02958d15636971a11742c2ff65ab9292d7f5dfd", func := "joinery/joinerylaw01.MixBack", spec := "mixBack", unfollowed := true, recurses := true, named := ["joinery/mix.steps"], apart := false, laid := [("joinery/mix.steps", laid_joinery_mix_steps)], narrowed := true }
def MixBackUptoSaid : Prop := mixBackUptoRow.holds Tryd.pinned (OpenSpec.upto mixBackSpec)

/-- 'joinerylaw01.MixTurns', WHERE WHAT IT READS IS OF BULK AT MOST 1048576: true; the input reads as it did. -/
def mixTurnsUptoRow : OpenClaim := { program := "ytmpinbaeiknjaaadoor", sum := "43ea9656fea743c10a49dceee02958d15636971a11742c2ff65ab9292d7f5dfd", func := "joinery/joinerylaw01.MixTurns", spec := "mixTurns", unfollowed := true, recurses := true, named := ["joinery/mix.steps"], apart := false, laid := [("joinery/mix.steps", laid_joinery_mix_steps)], narrowed := true }
def MixTurnsUptoSaid : Prop := mixTurnsUptoRow.holds Tryd.pinned (OpenSpec.upto mixTurnsSpec)

end Rows
end Go.Proofs.YtmpinbaeiknjaaaDoor
