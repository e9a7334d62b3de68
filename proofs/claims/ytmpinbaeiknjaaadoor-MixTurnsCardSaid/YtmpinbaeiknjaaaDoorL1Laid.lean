/- What the listed table of package mix gives a walk: its six cells, and that memory is not empty; a start that meets it. -/
import Derived.Test.YtmpinbaeiknjaaaDoorRows
import Derived.Test.YtmpinbaeiknjaaaDoorL1Fwd
import Derived.ProofKit
import Derived.LaidMore
import Derived.OpenShut
import Derived.Stop.Joined
namespace Go.Proofs.YtmpinbaeiknjaaaDoor
open Go.ChangeShapes Go.WideShapes Go.ChangeAt Go.RowKit Go.Proofs.Mixm

theorem own : ownKnob Tryd.prog.godebug = none := by kernel_rfl
theorem gSteps : Tryd.prog.globalNamed (Rows.mixTellsRow.named.headD Rows.mixTellsRow.func) = some 0 := by kernel_rfl
theorem tSteps : (Tryd.prog.globals[0]?).map (·.type) = some 36 := by kernel_rfl
theorem cells36 : Tryd.prog.cellsOf 36 = 6 := by kernel_rfl
theorem cells33 : Tryd.prog.cellsOf 33 = 2 := by kernel_rfl
theorem cells31 : Tryd.prog.cellsOf 31 = 1 := by kernel_rfl
theorem cells22 : Tryd.prog.cellsOf 22 = 1 := by kernel_rfl
/-- the list of the rows: one variable -/
abbrev laid1 : List (String × DataW Unit) := Rows.mixTellsRow.laid

theorem door_met (os : Os) (args : Array Value) : laidMetH Tryd.prog laid1 ((World.doorLaid Tryd.prog 400 os).forCall (fun _ _ => 0) ⟨#[], args, []⟩).memory :=
  laidMetH_of_parts3 (fuel := 8) (laidMet_of_run' 8 (by kernel_rfl) (by kernel_rfl)) (by kernel_rfl) (by kernel_rfl)

section
variable {H : Type} {enc : TypeId × Value → H} {W : World}
/-- one step of the table: its two cells -/
theorem step_cells {base fuel : Nat} {sp : Nat → Bool} {held : Bool} {a b : Value} {x : DataW H × List MemPlace} {s f : Int} (h : DataW.trod enc Tryd.prog W base sp held fuel 33 [a, b] = some x) (hx : x.1 = .agg [.lit (.int .u64 s), .lit (.int .u64 f)]) :
    a = .int .u64 s ∧ b = .int .u64 f := by
  obtain ⟨y0, y1, n, rfl, _, h0, h1⟩ := trod_struct2 Tryd.underlying33 h
  simp only [DataW.agg.injEq, List.cons.injEq, and_true] at hx
  simp [cells31] at h0
  simp [cells22] at h1
  obtain ⟨k, e1, e2, _⟩ := DataW.trod_int Tryd.underlying31 h0
  obtain ⟨k', e1', e2', _⟩ := DataW.trod_int Tryd.underlying22 h1
  simp at e1 e1'
  subst e1 e1' e2 e2'
  simp at hx
  exact ⟨by rw [hx.1], by rw [hx.2]⟩
end

theorem of_laid {W : World} (h : laidMetH Tryd.prog laid1 W) : 0 < W.heap.size ∧ Steps W := by
  rw [MakeChecks.laidMetH_plain _ _ _ (by kernel_rfl)] at h
  obtain ⟨ps, ⟨g0, t0, cs0, f0, p0, q0, hg0, ht0, hv0, hd0, _, _⟩, _, _⟩ := h
  obtain rfl := Option.some.inj (gSteps.symm.trans hg0)
  obtain rfl := Option.some.inj (tSteps.symm.trans ht0)
  obtain ⟨xs, m1, rfl, hx1, hlen, hn3, hel⟩ := DataW.trod_array Tryd.underlying36 hd0
  have hc := World.var?_cell hg0 hv0
  rw [cells36] at hlen
  obtain ⟨cs⟩ := cs0
  match cs, hlen with
  | [a0, a1, a2, a3, a4, a5], _ =>
    have hz : 0 < W.heap.size := by
      have := hc 0
      simp only [World.cell?] at this
      cases hh : W.heap[0]? with
      | none => rw [hh] at this; simp at this
      | some o => exact (Array.getElem?_eq_some_iff.1 hh).1
    match xs, hn3, hx1, hel with
    | [x0, x1, x2], _, hx1, hel =>
      have e0 := hel 0 (by decide)
      have e1 := hel 1 (by decide)
      have e2 := hel 2 (by decide)
      simp only [cells33] at e0 e1 e2
      simp at e0 e1 e2
      simp only [Prod.mk.injEq, Rows.laid_joinery_mix_steps, DataW.agg.injEq, List.map_cons, List.map_nil, List.cons.injEq, and_true] at hx1
      obtain ⟨⟨hx0, hx1, hx2⟩, _⟩ := hx1
      obtain ⟨rfl, rfl⟩ := step_cells e0 hx0.symm
      obtain ⟨rfl, rfl⟩ := step_cells e1 hx1.symm
      obtain ⟨rfl, rfl⟩ := step_cells e2 hx2.symm
      exact ⟨hz, hc 0, hc 1, hc 2, hc 3, hc 4, hc 5⟩

/-- a number that its kind holds is a number of 64 bits -/
theorem num_of (a : Int) (h : (Lit.int .u64 a).wf = true) : ∃ b : BitVec 64, a = (b.toNat : Int) := by
  have hb := bounds_u64 h
  refine ⟨BitVec.ofInt 64 a, ?_⟩
  rw [BitVec.toNat_ofInt]; omega
end Go.Proofs.YtmpinbaeiknjaaaDoor
