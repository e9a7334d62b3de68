/- What the listed table (package mix's steps) gives a walk; a start that meets it; arguments that are pairs, and slices of pairs, opened. -/
import Derived.Test.YtjnnfineebabaaaDoorRows
import Derived.Test.YtjnnfineebabaaaDoorL1Fwd
import Derived.Test.YtjnnfineebabaaaDoorL4Row
import Derived.Test.YtjnnfineebabaaaDoorGOpen
import Derived.ProofKit
import Derived.LaidMore
import Derived.OpenShut
import Derived.Stop.Joined
import Derived.Deep.Slices
import Derived.Deep.Fields
import Derived.ChangeSame
namespace Go.Proofs.YtjnnfineebabaaaDoor
open Go.ChangeShapes Go.WideShapes Go.ChangeAt Go.RowKit Go.Deep Go.Proofs.Mixm Go.Proofs.Rowm

set_option maxRecDepth 100000
theorem own : ownKnob Tryd.prog.godebug = none := by kernel_rfl
/-- the list of the rows: one variable -/
abbrev laid4 : List (String × DataW Unit) := Rows.rowsetTellsRow.laid
theorem gSteps : Tryd.prog.globalNamed laid4[0].1 = some 0 := by kernel_rfl
theorem tSteps : (Tryd.prog.globals[0]?).map (·.type) = some 113 := by kernel_rfl
theorem cellsS3 : Tryd.prog.cellsOf 113 = 6 := by kernel_rfl
theorem cellsSt : Tryd.prog.cellsOf 110 = 2 := by kernel_rfl
theorem cellsU : Tryd.prog.cellsOf 107 = 1 := by kernel_rfl
theorem cellsU64 : Tryd.prog.cellsOf 61 = 1 := by kernel_rfl

theorem door_met (os : Os) (args : Array Value) : laidMetH Tryd.prog laid4 ((World.doorLaid Tryd.prog 400 os).forCall (fun _ _ => 0) ⟨#[], args, []⟩).memory :=
  laidMetH_of_parts3 (fuel := 8) (laidMet_of_run' 8 (by kernel_rfl) (by kernel_rfl)) (by kernel_rfl) (by kernel_rfl)

section
variable {H : Type} {enc : TypeId × Value → H} {W : World}
/-- one step of the table: its two cells -/
theorem step_cells {base fuel : Nat} {sp : Nat → Bool} {held : Bool} {a b : Value} {x : DataW H × List MemPlace} {s f : Int} (h : DataW.trod enc Tryd.prog W base sp held fuel 110 [a, b] = some x) (hx : x.1 = .agg [.lit (.int .u64 s), .lit (.int .u64 f)]) :
    a = .int .u64 s ∧ b = .int .u64 f := by
  obtain ⟨y0, y1, n, rfl, _, h0, h1⟩ := trod_struct2 Tryd.underlying110 h
  simp only [DataW.agg.injEq, List.cons.injEq, and_true] at hx
  simp [cellsU] at h0
  simp [cellsU64] at h1
  obtain ⟨k, e1, e2, _⟩ := DataW.trod_int Tryd.underlying107 h0
  obtain ⟨k', e1', e2', _⟩ := DataW.trod_int Tryd.underlying61 h1
  simp at e1 e1'
  subst e1 e1' e2 e2'
  simp at hx
  exact ⟨by rw [hx.1], by rw [hx.2]⟩
end
theorem steps_of {W : World} (h : laidMetH Tryd.prog laid4 W) : 0 < W.heap.size ∧ Steps W := by
  rw [MakeChecks.laidMetH_plain _ _ _ (by kernel_rfl)] at h
  obtain ⟨ps, ⟨g0, t0, cs0, f0, p0, q0, hg0, ht0, hv0, hd0, _, _⟩, _, _⟩ := h
  obtain rfl := Option.some.inj (gSteps.symm.trans hg0)
  obtain rfl := Option.some.inj (tSteps.symm.trans ht0)
  obtain ⟨xs, m1, rfl, hx1, hlen, hn3, hel⟩ := DataW.trod_array Tryd.underlying113 hd0
  have hc := World.var?_cell hg0 hv0
  rw [cellsS3] at hlen
  obtain ⟨cs⟩ := cs0
  match cs, hlen with
  | [a0, a1, a2, a3, a4, a5], _ =>
    have hz : 0 < W.heap.size := by
      have := hc 0
      simp only [World.cell?] at this
      cases hh : W.heap[0]? with
      | none => rw [hh] at this; simp at this
      | some o => exact (Array.getElem?_eq_some_iff.1 hh).1
    match xs, hn3, hx1, hel with
    | [x0, x1, x2], _, hx1, hel =>
      have e0 := hel 0 (by decide)
      have e1 := hel 1 (by decide)
      have e2 := hel 2 (by decide)
      simp only [cellsSt] at e0 e1 e2
      simp at e0 e1 e2
      simp only [Prod.mk.injEq, Rows.laid_joinery_mix_steps, DataW.agg.injEq, List.map_cons, List.map_nil, List.cons.injEq, and_true] at hx1
      obtain ⟨⟨hx0, hx1, hx2⟩, _⟩ := hx1
      obtain ⟨rfl, rfl⟩ := step_cells e0 hx0.symm
      obtain ⟨rfl, rfl⟩ := step_cells e1 hx1.symm
      obtain ⟨rfl, rfl⟩ := step_cells e2 hx2.symm
      exact ⟨hz, hc 0, hc 1, hc 2, hc 3, hc 4, hc 5⟩

section
variable {H : Type} {enc : TypeId × Value → H} {P : Program} {W : World} {b0 : Nat} {spare : Nat → Bool} {held : Bool}
/-- one number of 64 bits that came in -/
theorem key_cell {T : TypeId} {fuel : Nat} {v : Value} {x : DataW H × List MemPlace} (ht : P.underlying T = some (.int .i64)) (h : DataW.trod enc P W b0 spare held fuel T [v] = some x) : ∃ b : BitVec 64, v = K b := by
  obtain ⟨k, e1, _, hw⟩ := DataW.trod_int ht h
  simp at e1
  obtain ⟨b, rfl⟩ := key_of k hw
  exact ⟨b, e1⟩
end
end Go.Proofs.YtjnnfineebabaaaDoor
