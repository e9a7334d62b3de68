/-
  NARROWER THAN 'FOR EVERY INPUT', by the rows' own cells (each row's printed sentence says how): OrderTells: laid · OrderBack: laid · OrderRows: laid · OrderMeans: laid.
  DERIVED. THE GIVEN ROWS OF THIS SEAT. 4 by the template 'for every input the law returns true; each argument reads behind the call as it read before'; 0 by the template 'total and deterministic' (their statements: YtmiponffkhbniaaDoorTotals.lean).
  GIVEN WITH THE SEED: the statements are not yours to turn. If you find one false, say at which input.
  Laid BY PROGRAM, IN A SANDBOX (cutbox-rows.mjs): the forced cells as the released guide's own fill.sh prints them over the translation 5e51e6c9fef9b5b1… (all of the seat's roots in one cut). By AI agents, Wed Nov 11 2026. No macro, syntax, notation, axiom, sorry.
-/
import Derived.Test.YtmiponffkhbniaaDoorChecked
import GoSem.Claim
import GoSem.ClaimJoined
import GoSem.ClaimMapViews
import Derived.JoinedTies
import Derived.KernelRfl
namespace Go.Proofs.YtmiponffkhbniaaDoor
/- THE CELL 'sum', in the pinned program and in every row, IS THE sha256 OF THE DUMP (.gsa) THAT YtmiponffkhbniaaDoorProg.lean LOADS. Nothing in Lean hashes anything: it is a label: what it is worth is what the hold of that sum in a sandbox is worth. -/
noncomputable def Tryd.pinned : Pinned := { name := "ytmiponffkhbniaadoor", sum := "5e51e6c9fef9b5b132c6a6853c866b80cdd4b5f76f9d7ea7c36b9954b3da71c0", checked := Tryd.checked }
namespace Rows
def none {H : Type} : Left H := { results := [], args := [] }

/- WHAT THE LISTED PACKAGE-LEVEL VARIABLES READ AS WHEN THE CALL BEGINS. Each datum BY PROGRAM (the guide's laid-datum.mjs) off the statement by which the dump's own 'gosem.cut.vars' lays the variable. In a bare row this is a premise. The card (YtmiponffkhbniaaDoorCards.lean) ties it to the program's text. -/
def laid_joinery_mix_steps {H : Type} : DataW H := .agg [.agg [.lit (.int .u64 30), .lit (.int .u64 13787848793156543929)], .agg [.lit (.int .u64 27), .lit (.int .u64 10723151780598845931)], .agg [.lit (.int .u64 31), .lit (.int .u64 1)]]
def laid_joinery_order_names {H : Type} : DataW H := .agg [.lit (.string []), .lit (.string [117, 112]), .lit (.string [100, 111, 119, 110]), .lit (.string [115, 105, 122, 101]), .lit (.string [98, 105, 116, 115]), .lit (.string [101, 118, 101, 110]), .lit (.string [108, 111, 119]), .lit (.string [109, 105, 120])]

/-- 'joinerylaw02.OrderTells': WHATEVER THE INPUT: true; the input reads as it did. -/
def orderTellsSpec : ChangeSpec := { name := "orderTells", fn := fun _ => fun
  | [d1, d2, d3, d4] => { results := [.lit (.bool true)], args := [d1, d2, d3, d4] }
  | _ => none }
def orderTellsRow : OpenClaim := { program := "ytmiponffkhbniaadoor", sum := "5e51e6c9fef9b5b132c6a6853c866b80cdd4b5f76f9d7ea7c36b9954b3da71c0", func := "joinery/joinerylaw02.OrderTells", spec := "orderTells", unfollowed := true, recurses := true, named := ["joinery/mix.steps", "joinery/order.names"], apart := false, laid := [("joinery/mix.steps", laid_joinery_mix_steps), ("joinery/order.names", laid_joinery_order_names)] }
def OrderTellsSaid : Prop := orderTellsRow.holds Tryd.pinned (OpenSpec.ofChange orderTellsSpec)

/-- ITS FALSE NEIGHBOUR: 'it returns false'. Refute it at one input. -/
def orderTellsWrong : ChangeSpec := { name := "orderTells", fn := fun _ => fun
  | [d1, d2, d3, d4] => { results := [.lit (.bool false)], args := [d1, d2, d3, d4] }
  | _ => none }
def OrderTellsWrongFalsely : Prop := orderTellsRow.holds Tryd.pinned (OpenSpec.ofChange orderTellsWrong)

/-- 'joinerylaw02.OrderBack': WHATEVER THE INPUT: true; the input reads as it did. -/
def orderBackSpec : ChangeSpec := { name := "orderBack", fn := fun _ => fun
  | [d1, d2, d3] => { results := [.lit (.bool true)], args := [d1, d2, d3] }
  | _ => none }
def orderBackRow : OpenClaim := { program := "ytmiponffkhbniaadoor", sum := "5e51e6c9fef9b5b132c6a6853c866b80cdd4b5f76f9d7ea7c36b9954b3da71c0", func := "joinery/joinerylaw02.OrderBack", spec := "orderBack", unfollowed := true, recurses := true, named := ["joinery/mix.steps", "joinery/order.names"], apart := false, laid := [("joinery/mix.steps", laid_joinery_mix_steps), ("joinery/order.names", laid_joinery_order_names)] }
def OrderBackSaid : Prop := orderBackRow.holds Tryd.pinned (OpenSpec.ofChange orderBackSpec)

/-- ITS FALSE NEIGHBOUR: 'it returns false'. Refute it at one input. -/
def orderBackWrong : ChangeSpec := { name := "orderBack", fn := fun _ => fun
  | [d1, d2, d3] => { results := [.lit (.bool false)], args := [d1, d2, d3] }
  | _ => none }
def OrderBackWrongFalsely : Prop := orderBackRow.holds Tryd.pinned (OpenSpec.ofChange orderBackWrong)

/-- 'joinerylaw02.OrderRows': WHATEVER THE INPUT: true; the input reads as it did. -/
def orderRowsSpec : ChangeSpec := { name := "orderRows", fn := fun _ => fun
  | [d1, d2, d3, d4] => { results := [.lit (.bool true)], args := [d1, d2, d3, d4] }
  | _ => none }
def orderRowsRow : OpenClaim := { program := "ytmiponffkhbniaadoor", sum := "5e51e6c9fef9b5b132c6a6853c866b80cdd4b5f76f9d7ea7c36b9954b3da71c0", func := "joinery/joinerylaw02.OrderRows", spec := "orderRows", unfollowed := true, recurses := true, named := ["joinery/mix.steps", "joinery/order.names"], apart := false, laid := [("joinery/mix.steps", laid_joinery_mix_steps), ("joinery/order.names", laid_joinery_order_names)] }
def OrderRowsSaid : Prop := orderRowsRow.holds Tryd.pinned (OpenSpec.ofChange orderRowsSpec)

/-- ITS FALSE NEIGHBOUR: 'it returns false'. Refute it at one input. -/
def orderRowsWrong : ChangeSpec := { name := "orderRows", fn := fun _ => fun
  | [d1, d2, d3, d4] => { results := [.lit (.bool false)], args := [d1, d2, d3, d4] }
  | _ => none }
def OrderRowsWrongFalsely : Prop := orderRowsRow.holds Tryd.pinned (OpenSpec.ofChange orderRowsWrong)

/-- 'joinerylaw02.OrderMeans': WHATEVER THE INPUT: true; the input reads as it did. -/
def orderMeansSpec : ChangeSpec := { name := "orderMeans", fn := fun _ => fun
  | [d1, d2] => { results := [.lit (.bool true)], args := [d1, d2] }
  | _ => none }
def orderMeansRow : OpenClaim := { program := "ytmiponffkhbniaadoor", sum := "5e51e6c9fef9b5b132c6a6853c866b80cdd4b5f76f9d7ea7c36b9954b3da71c0", func := "joinery/joinerylaw02.OrderMeans", spec := "orderMeans", unfollowed := true, recurses := true, named := ["joinery/mix.steps", "joinery/order.names"], apart := false, laid := [("joinery/mix.steps", laid_joinery_mix_steps), ("joinery/order.names", laid_joinery_order_names)] }
def OrderMeansSaid : Prop := orderMeansRow.holds Tryd.pinned (OpenSpec.ofChange orderMeansSpec)

/-- ITS FALSE NEIGHBOUR: 'it returns false'. Refute it at one input. -/
def orderMeansWrong : ChangeSpec := { name := "orderMeans", fn := fun _ => fun
  | [d1, d2] => { results := [.lit (.bool false)], args := [d1, d2] }
  | _ => none }
def OrderMeansWrongFalsely : Prop := orderMeansRow.holds Tryd.pinned (OpenSpec.ofChange orderMeansWrong)

/- THE SECOND FORM. 'bulk': how many values and letters a reading holds, each counted each time it is reached (what is shared counts as often as it is met; a slice's spare places count too). A statement '..UptoSaid' is the law's where the arguments, and the package variables that the reading takes, are together of bulk at most 1048576: NARROWER than '..Said'. Prove '..Said' where nothing that the law and all that it calls make is longer than what came in: it says more and counts as full. Else prove '..UptoSaid'. A law counts once. -/
mutual
def uptoBulk {H : Type} : DataW H → Nat
  | .lit (.string bytes) => bytes.length + 1
  | .lit _ => 1
  | .nil => 1
  | .ptr d => uptoBulk d + 1
  | .slice elems spare => uptoBulkAll elems + uptoBulkAll spare + 1
  | .agg parts => uptoBulkAll parts + 1
  | .iface _ d => uptoBulk d + 1
  | .map entries => uptoBulkEntries entries + 1
  | .held _ => 1
def uptoBulkAll {H : Type} : List (DataW H) → Nat
  | [] => 0
  | d :: r => uptoBulk d + uptoBulkAll r
def uptoBulkEntries {H : Type} : List (Lit × DataW H) → Nat
  | [] => 0
  | x :: r => uptoBulkEntry x + uptoBulkEntries r
def uptoBulkEntry {H : Type} : Lit × DataW H → Nat
  | (.string bytes, d) => bytes.length + uptoBulk d + 1
  | (_, d) => uptoBulk d + 1
 end
def uptoSmall : (H : Type) → List (DataW H) → Bool := fun _ ds => decide (uptoBulkAll ds ≤ 1048576)
def OpenSpec.upto (s : _root_.Go.ChangeSpec) : _root_.Go.OpenSpec := { _root_.Go.OpenSpec.ofChange s with cond := some uptoSmall }

/-- 'joinerylaw02.OrderTells', WHERE WHAT IT READS IS OF BULK AT MOST 1048576: true; the input reads as it did. -/
def orderTellsUptoRow : OpenClaim := { program := "ytmiponffkhbniaadoor", sum := "5e51e6c9fef9b5b132c6a6853c866b80cdd4b5f76f9d7ea7c36b9954b3da71c0", func := "joinery/joinerylaw02.OrderTells", spec := "orderTells", unfollowed := true, recurses := true, named := ["joinery/mix.steps", "joinery/order.names"], apart := false, laid := [("joinery/mix.steps", laid_joinery_mix_steps), ("joinery/order.names", laid_joinery_order_names)], narrowed := true }
def OrderTellsUptoSaid : Prop := orderTellsUptoRow.holds Tryd.pinned (OpenSpec.upto orderTellsSpec)

/-- 'joinerylaw02.OrderBack', WHERE WHAT IT READS IS OF BULK AT MOST 1048576: true; the input reads as it did. -/
def orderBackUptoRow : OpenClaim := { program := "ytmiponffkhbniaadoor", sum := "5e51e6c9fef9b5b132c6a6853c866b80cdd4b5f76f9d7ea7c36b9954b3da71c0", func := "joinery/joinerylaw02.OrderBack", spec := "orderBack", unfollowed := true, recurses := true, named := ["joinery/mix.steps", "joinery/order.names"], apart := false, laid := [("joinery/mix.steps", laid_joinery_mix_steps), ("joinery/order.names", laid_joinery_order_names)], narrowed := true }
def OrderBackUptoSaid : Prop := orderBackUptoRow.holds Tryd.pinned (OpenSpec.upto orderBackSpec)

/-- 'joinerylaw02.OrderRows', WHERE WHAT IT READS IS OF BULK AT MOST 1048576: true; the input reads as it did. -/
def orderRowsUptoRow : OpenClaim := { program := "ytmiponffkhbniaadoor", sum := "5e51e6c9fef9b5b132c6a6853c866b80cdd4b5f76f9d7ea7c36b9954b3da71c0", func := "joinery/joinerylaw02.OrderRows", spec := "orderRows", unfollowed := true, recurses := true, named := ["joinery/mix.steps", "joinery/order.names"], apart := false, laid := [("joinery/mix.steps", laid_joinery_mix_steps), ("joinery/order.names", laid_joinery_order_names)], narrowed := true }
def OrderRowsUptoSaid : Prop := orderRowsUptoRow.holds Tryd.pinned (OpenSpec.upto orderRowsSpec)

/-- 'joinerylaw02.OrderMeans', WHERE WHAT IT READS IS OF BULK AT MOST 1048576: true; the input reads as it did. -/
def orderMeansUptoRow : OpenClaim := { program := "ytmiponffkhbniaadoor", sum := "5e51e6c9fef9b5b132c6a6853c866b80cdd4b5f76f9d7ea7c36b9954b3da71c0", func := "joinery/joinerylaw02.OrderMeans", spec := "orderMeans", unfollowed := true, recurses := true, named := ["joinery/mix.steps", "joinery/order.names"], apart := false, laid := [("joinery/mix.steps", laid_joinery_mix_steps), ("joinery/order.names", laid_joinery_order_names)], narrowed := true }
def OrderMeansUptoSaid : Prop := orderMeansUptoRow.holds Tryd.pinned (OpenSpec.upto orderMeansSpec)

end Rows
end Go.Proofs.YtmiponffkhbniaaDoor
