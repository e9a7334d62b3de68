/- What the listed table (package mix's steps) gives a walk; a start that meets it; arguments that are slices of uint64, opened. -/
import Derived.Test.YtmjlabnjgdiakaaDoorRows
import Derived.Test.YtmjlabnjgdiakaaDoorL1Fwd
import Derived.Test.YtmjlabnjgdiakaaDoorGOpen
import Derived.Test.YtmjlabnjgdiakaaDoorL8Ok
import Derived.ProofKit
import Derived.LaidMore
import Derived.OpenShut
import Derived.Stop.Joined
import Derived.Deep.Slices
import Derived.Deep.Fields
import Derived.ChangeSame
namespace Go.Proofs.YtmjlabnjgdiakaaDoor
open Go.ChangeShapes Go.WideShapes Go.ChangeAt Go.RowKit Go.Deep Go.Proofs.Mixm

theorem own : ownKnob Tryd.prog.godebug = none := by kernel_rfl
/-- the list of the rows: one variable -/
abbrev laid8 : List (String × DataW Unit) := Rows.drawTellsRow.laid
theorem gSteps : Tryd.prog.globalNamed laid8[0].1 = some 0 := by kernel_rfl
theorem tSteps : (Tryd.prog.globals[0]?).map (·.type) = some 51 := by kernel_rfl
theorem cellsS3 : Tryd.prog.cellsOf 51 = 6 := by kernel_rfl
theorem cellsSt : Tryd.prog.cellsOf 49 = 2 := by kernel_rfl
theorem cellsU : Tryd.prog.cellsOf 47 = 1 := by kernel_rfl
theorem cellsU64 : Tryd.prog.cellsOf 30 = 1 := by kernel_rfl

theorem door_met (os : Os) (args : Array Value) : laidMetH Tryd.prog laid8 ((World.doorLaid Tryd.prog 400 os).forCall (fun _ _ => 0) ⟨#[], args, []⟩).memory :=
  laidMetH_of_parts3 (fuel := 8) (laidMet_of_run' 8 (by kernel_rfl) (by kernel_rfl)) (by kernel_rfl) (by kernel_rfl)

section
variable {H : Type} {enc : TypeId × Value → H} {W : World}
/-- one step of the table: its two cells -/
theorem step_cells {base fuel : Nat} {sp : Nat → Bool} {held : Bool} {a b : Value} {x : DataW H × List MemPlace} {s f : Int} (h : DataW.trod enc Tryd.prog W base sp held fuel 49 [a, b] = some x) (hx : x.1 = .agg [.lit (.int .u64 s), .lit (.int .u64 f)]) :
    a = .int .u64 s ∧ b = .int .u64 f := by
  obtain ⟨y0, y1, n, rfl, _, h0, h1⟩ := trod_struct2 Tryd.underlying49 h
  simp only [DataW.agg.injEq, List.cons.injEq, and_true] at hx
  simp [cellsU] at h0
  simp [cellsU64] at h1
  obtain ⟨k, e1, e2, _⟩ := DataW.trod_int Tryd.underlying47 h0
  obtain ⟨k', e1', e2', _⟩ := DataW.trod_int Tryd.underlying30 h1
  simp at e1 e1'
  subst e1 e1' e2 e2'
  simp at hx
  exact ⟨by rw [hx.1], by rw [hx.2]⟩
end
theorem steps_of {W : World} (h : laidMetH Tryd.prog laid8 W) : 0 < W.heap.size ∧ Steps W := by
  rw [MakeChecks.laidMetH_plain _ _ _ (by kernel_rfl)] at h
  obtain ⟨ps, ⟨g0, t0, cs0, f0, p0, q0, hg0, ht0, hv0, hd0, _, _⟩, _, _⟩ := h
  obtain rfl := Option.some.inj (gSteps.symm.trans hg0)
  obtain rfl := Option.some.inj (tSteps.symm.trans ht0)
  obtain ⟨xs, m1, rfl, hx1, hlen, hn3, hel⟩ := DataW.trod_array Tryd.underlying51 hd0
  have hc := World.var?_cell hg0 hv0
  rw [cellsS3] at hlen
  obtain ⟨cs⟩ := cs0
  match cs, hlen with
  | [a0, a1, a2, a3, a4, a5], _ =>
    have hz : 0 < W.heap.size := by
      have := hc 0
      simp only [World.cell?] at this
      cases hh : W.heap[0]? with
      | none => rw [hh] at this; simp at this
      | some o => exact (Array.getElem?_eq_some_iff.1 hh).1
    match xs, hn3, hx1, hel with
    | [x0, x1, x2], _, hx1, hel =>
      have e0 := hel 0 (by decide)
      have e1 := hel 1 (by decide)
      have e2 := hel 2 (by decide)
      simp only [cellsSt] at e0 e1 e2
      simp at e0 e1 e2
      simp only [Prod.mk.injEq, Rows.laid_joinery_mix_steps, DataW.agg.injEq, List.map_cons, List.map_nil, List.cons.injEq, and_true] at hx1
      obtain ⟨⟨hx0, hx1, hx2⟩, _⟩ := hx1
      obtain ⟨rfl, rfl⟩ := step_cells e0 hx0.symm
      obtain ⟨rfl, rfl⟩ := step_cells e1 hx1.symm
      obtain ⟨rfl, rfl⟩ := step_cells e2 hx2.symm
      exact ⟨hz, hc 0, hc 1, hc 2, hc 3, hc 4, hc 5⟩

theorem laidOut : laidOutB Tryd.prog = true := by kernel_rfl
/-- what a slice of numbers of 64 bits without a sign that came in holds -/
theorem open_nums {H : Type} {enc : TypeId × Value → H} {P : Program} {W : World} {base b0 : Nat} {spare : Nat → Bool} {held : Bool} {T E : TypeId} {v : Value} {d : DataW H} {ps : List MemPlace}
    (ht : P.underlying T = some (.slice E)) (he : P.underlying E = some (.int .u64)) (hc : P.cellsOf E = 1) (hv : Value.okWide P W .any base T v) (h : DataW.Trod enc P W b0 spare held T v d ps) :
    ∃ A n c, ∃ l : List (BitVec 64), v = .slice A n c ∧ l.length = n ∧ n ≤ c ∧ c ≤ maxLen ∧ (A = none → c = 0) ∧ Row W W.heap.size A (l.map V) := by
  obtain ⟨A, n, c, rfl⟩ := okWide_slice ht hv
  obtain ⟨fuel, hf⟩ := h
  rcases open_ints ht he hc hf with ⟨hcs, _⟩ | ⟨x, len, cap, zs, hcs, _, hl, hm, hz, _, hcell, hwz⟩
  · simp [Value.cells] at hcs
    obtain ⟨rfl, rfl, rfl⟩ := hcs
    exact ⟨none, 0, 0, [], rfl, rfl, Nat.le_refl _, Nat.zero_le _, fun _ => rfl, Row.none_ _ _ _⟩
  · simp [Value.cells] at hcs
    obtain ⟨rfl, rfl, rfl⟩ := hcs
    have hzl : n ≤ zs.length := by rw [hz]; split <;> omega
    refine ⟨some x, n, c, (zs.take n).map (BitVec.ofInt 64), rfl, by rw [List.length_map, List.length_take]; omega, hl, hm, (fun e => by cases e), fun j u hu => ?_⟩
    rw [List.getElem?_map, List.getElem?_map, List.getElem?_take] at hu
    split at hu
    · next hj =>
      have hjz : j < zs.length := by omega
      rw [List.getElem?_eq_getElem hjz] at hu
      simp only [Option.map_some, Option.some.injEq] at hu
      have hc2 := hcell j hjz
      have hw := hwz zs[j] (List.getElem_mem _)
      have hb := bounds_u64 hw
      have e1 : zs.getD j 0 = zs[j] := by simp [hjz]
      rw [e1] at hc2
      have e2 : ((BitVec.ofInt 64 zs[j]).toNat : Int) = zs[j] := by rw [BitVec.toNat_ofInt]; omega
      refine ⟨x, rfl, ?_, ?_⟩
      · have := block_lt_of_cell hc2
        rw [add_block] at this
        exact this
      · rw [hc2, ← hu, V, e2]
    · simp at hu
theorem lieu_of {w : World} {A : Option Addr} {n c : Nat} {l : List (BitVec 64)} {f : BitVec 64 → Value} (hl : l.length = n) (h3 : n ≤ 3000) (hn : n ≤ c) (hc : c ≤ maxLen) (hz : A = none → c = 0) (hr : Row w w.heap.size A (l.map f)) : LieU w w.heap.size A n c (l.map f) :=
  ⟨by rw [List.length_map]; exact hl, h3, hn, hc, hz, hr⟩

end Go.Proofs.YtmjlabnjgdiakaaDoor
