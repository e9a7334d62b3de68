/- What the two listed tables (package mix's steps, package order's names) give a walk; a start that meets them. -/
import Derived.Test.YtmiponffkhbniaaDoorRows
import Derived.Test.YtmiponffkhbniaaDoorL1Fwd
import Derived.Test.YtmiponffkhbniaaDoorL2Names
import Derived.ProofKit
import Derived.LaidMore
import Derived.OpenShut
import Derived.Stop.Joined
namespace Go.Proofs.YtmiponffkhbniaaDoor
open Go.ChangeShapes Go.WideShapes Go.ChangeAt Go.RowKit Go.Proofs.Mixm

/-- a listed variable, by its place in the list -/
theorem laidVars_at {P : Program} {W : World} {n : String} {d : DataW Unit} : ∀ {laid : List (String × DataW Unit)} {ps : List MemPlace}, DataW.LaidVars P W laid ps → (n, d) ∈ laid →
    ∃ g t cs fuel p, P.globalNamed n = some g ∧ (P.globals[g]?).map (·.type) = some t ∧ W.var? P n = some cs ∧ DataW.trod (fun _ => ()) P W 0 (fun _ => true) false fuel t cs.toList = some (d, p)
  | [], _, _, hm => by cases hm
  | (n', d') :: r, _, h, hm => by
    obtain ⟨g, t, cs, fuel, p, q, h1, h2, h3, h4, h5, _⟩ := h
    rcases List.mem_cons.1 hm with e | e
    · cases e; exact ⟨g, t, cs, fuel, p, h1, h2, h3, h4⟩
    · exact laidVars_at h5 e

theorem own : ownKnob Tryd.prog.godebug = none := by kernel_rfl
/-- the list of the rows: two variables -/
abbrev laid2 : List (String × DataW Unit) := Rows.orderTellsRow.laid
theorem gSteps : Tryd.prog.globalNamed laid2[0].1 = some 1 := by kernel_rfl
theorem tSteps : (Tryd.prog.globals[1]?).map (·.type) = some 56 := by kernel_rfl
theorem gNames : Tryd.prog.globalNamed laid2[1].1 = some 0 := by kernel_rfl
theorem tNames : (Tryd.prog.globals[0]?).map (·.type) = some 45 := by kernel_rfl
theorem cellsS3 : Tryd.prog.cellsOf 56 = 6 := by kernel_rfl
theorem cellsSt : Tryd.prog.cellsOf 53 = 2 := by kernel_rfl
theorem cellsU : Tryd.prog.cellsOf 50 = 1 := by kernel_rfl
theorem cellsU64 : Tryd.prog.cellsOf 23 = 1 := by kernel_rfl
theorem cellsN8 : Tryd.prog.cellsOf 45 = 8 := by kernel_rfl
theorem cellsStr : Tryd.prog.cellsOf 9 = 1 := by kernel_rfl

theorem door_met (os : Os) (args : Array Value) : laidMetH Tryd.prog laid2 ((World.doorLaid Tryd.prog 400 os).forCall (fun _ _ => 0) ⟨#[], args, []⟩).memory :=
  laidMetH_of_parts3 (fuel := 8) (laidMet_of_run' 8 (by kernel_rfl) (by kernel_rfl)) (by kernel_rfl) (by kernel_rfl)

section
variable {H : Type} {enc : TypeId × Value → H} {W : World}
/-- one step of the table: its two cells -/
theorem step_cells {base fuel : Nat} {sp : Nat → Bool} {held : Bool} {a b : Value} {x : DataW H × List MemPlace} {s f : Int} (h : DataW.trod enc Tryd.prog W base sp held fuel 53 [a, b] = some x) (hx : x.1 = .agg [.lit (.int .u64 s), .lit (.int .u64 f)]) :
    a = .int .u64 s ∧ b = .int .u64 f := by
  obtain ⟨y0, y1, n, rfl, _, h0, h1⟩ := trod_struct2 Tryd.underlying53 h
  simp only [DataW.agg.injEq, List.cons.injEq, and_true] at hx
  simp [cellsU] at h0
  simp [cellsU64] at h1
  obtain ⟨k, e1, e2, _⟩ := DataW.trod_int Tryd.underlying50 h0
  obtain ⟨k', e1', e2', _⟩ := DataW.trod_int Tryd.underlying23 h1
  simp at e1 e1'
  subst e1 e1' e2 e2'
  simp at hx
  exact ⟨by rw [hx.1], by rw [hx.2]⟩
/-- one name of the table: its cell -/
theorem name_cell {base fuel : Nat} {sp : Nat → Bool} {held : Bool} {a : Value} {x : DataW H × List MemPlace} {l : List UInt8} (h : DataW.trod enc Tryd.prog W base sp held fuel 9 [a] = some x) (hx : x.1 = .lit (.string l)) :
    a = .string ⟨l.toArray⟩ := by
  obtain ⟨s, e1, e2, _⟩ := DataW.trod_string Tryd.underlying9 h
  simp at e1
  subst e1 e2
  simp at hx
  subst hx
  exact congrArg Value.string (WideShapes.bytes_inj (by simp))
end

theorem steps_of {W : World} (h : laidMetH Tryd.prog laid2 W) : 1 < W.heap.size ∧ Steps W := by
  rw [MakeChecks.laidMetH_plain _ _ _ (by kernel_rfl)] at h
  obtain ⟨ps, hv, _, _⟩ := h
  obtain ⟨g0, t0, cs0, f0, p0, hg0, ht0, hv0, hd0⟩ := laidVars_at (n := laid2[0].1) (d := laid2[0].2) hv (List.getElem_mem _)
  obtain rfl := Option.some.inj (gSteps.symm.trans hg0)
  obtain rfl := Option.some.inj (tSteps.symm.trans ht0)
  obtain ⟨xs, m1, rfl, hx1, hlen, hn3, hel⟩ := DataW.trod_array Tryd.underlying56 hd0
  have hc := World.var?_cell hg0 hv0
  rw [cellsS3] at hlen
  obtain ⟨cs⟩ := cs0
  match cs, hlen with
  | [a0, a1, a2, a3, a4, a5], _ =>
    have hz : 1 < W.heap.size := by
      have := hc 0
      simp only [World.cell?] at this
      cases hh : W.heap[1]? with
      | none => rw [hh] at this; simp at this
      | some o => exact (Array.getElem?_eq_some_iff.1 hh).1
    match xs, hn3, hx1, hel with
    | [x0, x1, x2], _, hx1, hel =>
      have e0 := hel 0 (by decide)
      have e1 := hel 1 (by decide)
      have e2 := hel 2 (by decide)
      simp only [cellsSt] at e0 e1 e2
      simp at e0 e1 e2
      have hx1 := congrArg Prod.fst hx1
      simp only [laid2, Rows.orderTellsRow, List.getElem_cons_zero, Rows.laid_joinery_mix_steps, DataW.agg.injEq, List.map_cons, List.map_nil, List.cons.injEq, and_true] at hx1
      obtain ⟨hx0, hx1, hx2⟩ := hx1
      obtain ⟨rfl, rfl⟩ := step_cells e0 hx0.symm
      obtain ⟨rfl, rfl⟩ := step_cells e1 hx1.symm
      obtain ⟨rfl, rfl⟩ := step_cells e2 hx2.symm
      exact ⟨hz, hc 0, hc 1, hc 2, hc 3, hc 4, hc 5⟩

theorem names_of {W : World} (h : laidMetH Tryd.prog laid2 W) : Names W := by
  rw [MakeChecks.laidMetH_plain _ _ _ (by kernel_rfl)] at h
  obtain ⟨ps, hv, _, _⟩ := h
  obtain ⟨g0, t0, cs0, f0, p0, hg0, ht0, hv0, hd0⟩ := laidVars_at (n := laid2[1].1) (d := laid2[1].2) hv (List.getElem_mem _)
  obtain rfl := Option.some.inj (gNames.symm.trans hg0)
  obtain rfl := Option.some.inj (tNames.symm.trans ht0)
  obtain ⟨xs, m1, rfl, hx1, hlen, hn3, hel⟩ := DataW.trod_array Tryd.underlying45 hd0
  have hc := World.var?_cell hg0 hv0
  rw [cellsN8] at hlen
  obtain ⟨cs⟩ := cs0
  match cs, hlen with
  | [a0, a1, a2, a3, a4, a5, a6, a7], _ =>
    have hz : 0 < W.heap.size := by
      have := hc 0
      simp only [World.cell?] at this
      cases hh : W.heap[0]? with
      | none => rw [hh] at this; simp at this
      | some o => exact (Array.getElem?_eq_some_iff.1 hh).1
    match xs, hn3, hx1, hel with
    | [x0, x1, x2, x3, x4, x5, x6, x7], _, hx1, hel =>
      have e0 := hel 0 (by decide)
      have e1 := hel 1 (by decide)
      have e2 := hel 2 (by decide)
      have e3 := hel 3 (by decide)
      have e4 := hel 4 (by decide)
      have e5 := hel 5 (by decide)
      have e6 := hel 6 (by decide)
      have e7 := hel 7 (by decide)
      simp only [cellsStr] at e0 e1 e2 e3 e4 e5 e6 e7
      simp at e0 e1 e2 e3 e4 e5 e6 e7
      have hx1 := congrArg Prod.fst hx1
      simp only [laid2, Rows.orderTellsRow, List.getElem_cons_zero, List.getElem_cons_succ, Rows.laid_joinery_order_names, DataW.agg.injEq, List.map_cons, List.map_nil, List.cons.injEq, and_true] at hx1
      obtain ⟨h0, h1, h2, h3, h4, h5, h6, h7⟩ := hx1
      obtain rfl := name_cell e0 h0.symm
      obtain rfl := name_cell e1 h1.symm
      obtain rfl := name_cell e2 h2.symm
      obtain rfl := name_cell e3 h3.symm
      obtain rfl := name_cell e4 h4.symm
      obtain rfl := name_cell e5 h5.symm
      obtain rfl := name_cell e6 h6.symm
      obtain rfl := name_cell e7 h7.symm
      exact ⟨hz, hc 0, hc 1, hc 2, hc 3, hc 4, hc 5, hc 6, hc 7⟩

/-- a number that its kind holds is a number of 64 bits -/
theorem num_of (a : Int) (h : (Lit.int .u64 a).wf = true) : ∃ b : BitVec 64, a = (b.toNat : Int) := by
  have hb := bounds_u64 h
  refine ⟨BitVec.ofInt 64 a, ?_⟩
  rw [BitVec.toNat_ofInt]; omega
theorem key_of (a : Int) (h : (Lit.int .i64 a).wf = true) : ∃ b : BitVec 64, a = b.toInt := by
  have hb := bounds_i64 h
  refine ⟨BitVec.ofInt 64 a, ?_⟩
  rw [BitVec.toInt_ofInt]
  exact (Int.bmod_eq_of_le (by omega) (by omega)).symm
theorem nat_of (a : Int) (h : (Lit.int .u8 a).wf = true) : ∃ o : Nat, a = (o : Int) := by
  have hb := bounds_u8 h
  exact ⟨a.toNat, by omega⟩
end Go.Proofs.YtmiponffkhbniaaDoor
