/- What the listed table (package mix's steps) gives a walk; a start that meets it (layer 12). -/
import Derived.Test.YtfndaeocdgcaeaaDoorGNum
import Derived.Test.YtfndaeocdgcaeaaDoorGRow
import Derived.ProofKit
import Derived.OpenShut
import Derived.Test.YtfndaeocdgcaeaaDoorGBead
import Derived.Deep.Slices
import Derived.Deep.Fields
import Derived.Test.YtfndaeocdgcaeaaDoorRows
import Derived.Test.YtfndaeocdgcaeaaDoorL1Fwd
import Derived.LaidMore
import Derived.Stop.Joined
import Derived.ChangeSame
/- Arguments opened: numbers, and slices of numbers of 64 bits. -/
namespace Go.Proofs.YtfndaeocdgcaeaaDoor
open Go.ChangeShapes Go.WideShapes Go.ChangeAt Go.RowKit

/-- a number that its kind holds is one of 64 bits -/
theorem key_of (a : Int) (h : (Lit.int .i64 a).wf = true) : ∃ b : BitVec 64, a = b.toInt := by
  have hb := bounds_i64 h
  refine ⟨BitVec.ofInt 64 a, ?_⟩
  rw [BitVec.toInt_ofInt]
  exact (Int.bmod_eq_of_le (by omega) (by omega)).symm
theorem num_of (a : Int) (h : (Lit.int .u64 a).wf = true) : ∃ b : BitVec 64, a = (b.toNat : Int) := by
  have hb := bounds_u64 h
  refine ⟨BitVec.ofInt 64 a, ?_⟩
  rw [BitVec.toNat_ofInt]; omega
theorem nat_of (a : Int) (h : (Lit.int .u8 a).wf = true) : ∃ o : Nat, a = (o : Int) := by
  have hb := bounds_u8 h
  exact ⟨a.toNat, by omega⟩
theorem byte_of (a : Int) (h : (Lit.int .u8 a).wf = true) : ∃ o : Nat, a = (o : Int) ∧ o ≤ 255 := by
  have hb := bounds_u8 h
  exact ⟨a.toNat, by omega, by omega⟩

/-- what a slice of numbers of 64 bits that came in holds -/
theorem open_row {H : Type} {enc : TypeId × Value → H} {P : Program} {W : World} {base b0 : Nat} {spare : Nat → Bool} {held : Bool} {T E : TypeId} {v : Value} {d : DataW H} {ps : List MemPlace}
    (ht : P.underlying T = some (.slice E)) (he : P.underlying E = some (.int .i64)) (hc : P.cellsOf E = 1) (hv : Value.okWide P W .any base T v) (h : DataW.Trod enc P W b0 spare held T v d ps) :
    ∃ A n c, ∃ l : List (BitVec 64), v = .slice A n c ∧ l.length = n ∧ n ≤ c ∧ c ≤ maxLen ∧ (A = none → c = 0) ∧ Row W W.heap.size A (l.map K) := by
  obtain ⟨A, n, c, rfl⟩ := okWide_slice ht hv
  obtain ⟨fuel, hf⟩ := h
  rcases open_ints ht he hc hf with ⟨hcs, _⟩ | ⟨x, len, cap, zs, hcs, _, hl, hm, hz, _, hcell, hwz⟩
  · simp [Value.cells] at hcs
    obtain ⟨rfl, rfl, rfl⟩ := hcs
    exact ⟨none, 0, 0, [], rfl, rfl, Nat.le_refl _, Nat.zero_le _, fun _ => rfl, Row.none_ _ _ _⟩
  · simp [Value.cells] at hcs
    obtain ⟨rfl, rfl, rfl⟩ := hcs
    have hzl : n ≤ zs.length := by rw [hz]; split <;> omega
    refine ⟨some x, n, c, (zs.take n).map (BitVec.ofInt 64), rfl, by rw [List.length_map, List.length_take]; omega, hl, hm, (fun e => by cases e), fun j u hu => ?_⟩
    rw [List.getElem?_map, List.getElem?_map, List.getElem?_take] at hu
    split at hu
    · next hj =>
      have hjz : j < zs.length := by omega
      rw [List.getElem?_eq_getElem hjz] at hu
      simp only [Option.map_some, Option.some.injEq] at hu
      have hc2 := hcell j hjz
      have hw := hwz zs[j] (List.getElem_mem _)
      have hb := bounds_i64 hw
      have e1 : zs.getD j 0 = zs[j] := by simp [hjz]
      rw [e1] at hc2
      have e2 : (BitVec.ofInt 64 zs[j]).toInt = zs[j] := by rw [BitVec.toInt_ofInt]; exact Int.bmod_eq_of_le (by omega) (by omega)
      refine ⟨x, rfl, ?_, ?_⟩
      · have := block_lt_of_cell hc2
        rw [add_block] at this
        exact this
      · rw [hc2, ← hu, K, e2]
    · simp at hu
end Go.Proofs.YtfndaeocdgcaeaaDoor
/- Arguments that are slices of beads, opened. -/
namespace Go.Proofs.YtfndaeocdgcaeaaDoor
open Go.ChangeShapes Go.WideShapes Go.ChangeAt Go.RowKit Go.Deep Go.Proofs.Treem
set_option maxRecDepth 100000

section
variable {H : Type} {enc : TypeId × Value → H} {P : Program} {W : World} {b0 : Nat} {spare : Nat → Bool} {held : Bool}
theorem key_cell9 {T : TypeId} {fuel : Nat} {v : Value} {x : DataW H × List MemPlace} (ht : P.underlying T = some (.int .i64)) (h : DataW.trod enc P W b0 spare held fuel T [v] = some x) : ∃ b : BitVec 64, v = K b := by
  obtain ⟨k, e1, _, hw⟩ := DataW.trod_int ht h
  simp at e1
  obtain ⟨b, rfl⟩ := key_of k hw
  exact ⟨b, e1⟩
theorem num_cell9 {T : TypeId} {fuel : Nat} {v : Value} {x : DataW H × List MemPlace} (ht : P.underlying T = some (.int .u64)) (h : DataW.trod enc P W b0 spare held fuel T [v] = some x) : ∃ b : BitVec 64, v = G64 b := by
  obtain ⟨k, e1, _, hw⟩ := DataW.trod_int ht h
  simp at e1
  obtain ⟨b, rfl⟩ := num_of k hw
  exact ⟨b, e1⟩
theorem bool_cell9 {T : TypeId} {fuel : Nat} {v : Value} {x : DataW H × List MemPlace} (ht : P.underlying T = some .bool) (h : DataW.trod enc P W b0 spare held fuel T [v] = some x) : ∃ b : Bool, v = .bool b := by
  obtain ⟨b, e1, _⟩ := DataW.trod_bool ht h
  simp at e1
  exact ⟨b, e1⟩
end
theorem cells9I : Tryd.prog.cellsOf 2 = 1 := by kernel_rfl
theorem cells9N : Tryd.prog.cellsOf 3 = 1 := by kernel_rfl
theorem cells9U : Tryd.prog.cellsOf 42 = 1 := by kernel_rfl
theorem cells9B : Tryd.prog.cellsOf 4 = 1 := by kernel_rfl
theorem cellsD : Tryd.prog.cellsOf 46 = 7 := by kernel_rfl
section
variable {H : Type} {enc : TypeId × Value → H} {W : World} {b0 : Nat} {spare : Nat → Bool} {held : Bool}
/-- the seven cells of a bead in memory -/
theorem bead_cells {fuel : Nat} {cs : List Value} {x : DataW H × List MemPlace} (h : DataW.trod enc Tryd.prog W b0 spare held fuel 46 cs = some x) : ∃ p : Bd, cs = bdC p := by
  obtain ⟨xs, n, _, rfl, hl, hlen, hf⟩ := DataW.trod_struct Tryd.underlying46 h
  rw [cellsD] at hl
  match xs, hlen, cs, hl with
  | [y0, y1, y2, y3, y4, y5, y6], _, [u0, u1, u2, u3, u4, u5, u6], _ =>
    have h0 := hf 0 _ rfl
    have h1 := hf 1 _ rfl
    have h2 := hf 2 _ rfl
    have h3 := hf 3 _ rfl
    have h4 := hf 4 _ rfl
    have h5 := hf 5 _ rfl
    have h6 := hf 6 _ rfl
    simp [cells9I, cells9N, cells9U, cells9B] at h0 h1 h2 h3 h4 h5 h6
    obtain ⟨a0, rfl⟩ := key_cell9 Tryd.underlying2 h0
    obtain ⟨a1, rfl⟩ := key_cell9 Tryd.underlying2 h1
    obtain ⟨a2, rfl⟩ := key_cell9 Tryd.underlying2 h2
    obtain ⟨a3, rfl⟩ := key_cell9 Tryd.underlying3 h3
    obtain ⟨a4, rfl⟩ := num_cell9 Tryd.underlying42 h4
    obtain ⟨a5, rfl⟩ := bool_cell9 Tryd.underlying4 h5
    obtain ⟨a6, rfl⟩ := bool_cell9 Tryd.underlying4 h6
    exact ⟨⟨a0, a1, a2, a3, a4, a5, a6⟩, rfl⟩
/-- what a slice holds whose beads lie one by one -/
theorem row_of_beads {w : World} {ad : Addr} {n : Nat} (f : Fin n → Bd) (hb : 0 < n → ad.block < w.heap.size) (h : ∀ i : Fin n, ∀ j, j < 7 → ∀ u, (bdC (f i))[j]? = some u → w.cell? (ad.add (i.1 * 7 + j)) = some u) : Row w w.heap.size (some ad) (flat7 (List.ofFn f)) := by
  intro j u hu
  have hj : j < (flat7 (List.ofFn f)).length := by
    rcases Nat.lt_or_ge j (flat7 (List.ofFn f)).length with hl | hl
    · exact hl
    · rw [List.getElem?_eq_none hl] at hu; cases hu
  rw [flat7_length, List.length_ofFn] at hj
  obtain ⟨i, hi⟩ : ∃ i, i = j / 7 := ⟨_, rfl⟩
  obtain ⟨q, hq⟩ : ∃ q, q = j % 7 := ⟨_, rfl⟩
  have hin : i < n := by omega
  have hl : i < (List.ofFn f).length := by rw [List.length_ofFn]; exact hin
  have hq7 : q < 7 := by omega
  obtain rfl : j = i * 7 + q := by omega
  rw [flat7_at _ i q hl hq7, List.getElem_ofFn] at hu
  exact ⟨ad, rfl, hb (by omega), h ⟨i, hin⟩ q hq7 u hu⟩
/-- a slice of beads that came in -/
theorem open_beads {base : Nat} {v : Value} {d : DataW H} {ps : List MemPlace} (hv : Value.okWide Tryd.prog W .any base 22 v) (h : DataW.Trod enc Tryd.prog W b0 spare held 22 v d ps) :
    ∃ A n c, ∃ l : List Bd, v = .slice A n c ∧ l.length = n ∧ n ≤ c ∧ c ≤ maxLen ∧ (A = none → c = 0) ∧ Row W W.heap.size A (flat7 l) := by
  obtain ⟨A, n, c, rfl⟩ := okWide_slice Tryd.underlying22 hv
  obtain ⟨fuel, hf⟩ := h
  rcases open_slice Tryd.underlying22 hf with ⟨hcs, _⟩ | ⟨x, len, cap, m, k, D, Pl, hcs, _, hl, hm, hmm, _, hi⟩
  · simp [Value.cells] at hcs
    obtain ⟨rfl, rfl, rfl⟩ := hcs
    exact ⟨none, 0, 0, [], rfl, rfl, Nat.le_refl _, Nat.zero_le _, fun _ => rfl, Row.none_ _ _ _⟩
  · simp [Value.cells] at hcs
    obtain ⟨rfl, rfl, rfl⟩ := hcs
    have hnm : n ≤ m := by rw [hmm]; split <;> omega
    rw [cellsD] at hi
    have hex : ∀ i : Fin n, ∃ p : Bd, ∀ j, j < 7 → ∀ u, (bdC p)[j]? = some u → W.cell? (x.add (i.1 * 7 + j)) = some u := fun i => by
      obtain ⟨cs', hc, ht⟩ := hi i.1 (by have := i.2; omega)
      obtain ⟨p, rfl⟩ := bead_cells ht
      obtain ⟨_, _, hat⟩ := World.cells?_some hc
      refine ⟨p, fun j hj u hu => ?_⟩
      have e0 := hat j (by omega)
      rw [Go.Proofs.YtfndaeocdgcaeaaDoor.add_add] at e0
      rw [e0]
      exact hu
    obtain ⟨f, hf'⟩ := Classical.axiomOfChoice hex
    refine ⟨some x, n, c, List.ofFn f, rfl, List.length_ofFn, hl, hm, (fun e => by cases e), row_of_beads f (fun h0 => ?_) hf'⟩
    have := block_lt_of_cell (hf' ⟨0, h0⟩ 0 (by omega) _ rfl)
    rw [add_block] at this
    exact this
end
end Go.Proofs.YtfndaeocdgcaeaaDoor
namespace Go.Proofs.YtfndaeocdgcaeaaDoor
open Go.ChangeShapes Go.WideShapes Go.ChangeAt Go.RowKit Go.Deep Go.Proofs.Mixm
set_option maxRecDepth 100000

theorem own : ownKnob Tryd.prog.godebug = none := by kernel_rfl
/-- the list of the rows: one variable -/
abbrev laid12 : List (String × DataW Unit) := Rows.soundTellsRow.laid
theorem gSteps : Tryd.prog.globalNamed laid12[0].1 = some 0 := by kernel_rfl
theorem tSteps : (Tryd.prog.globals[0]?).map (·.type) = some 105 := by kernel_rfl
theorem cellsS3 : Tryd.prog.cellsOf 105 = 6 := by kernel_rfl
theorem cellsSt : Tryd.prog.cellsOf 102 = 2 := by kernel_rfl
theorem cellsU : Tryd.prog.cellsOf 97 = 1 := by kernel_rfl
theorem cellsU64 : Tryd.prog.cellsOf 42 = 1 := by kernel_rfl

theorem door_met (os : Os) (args : Array Value) : laidMetH Tryd.prog laid12 ((World.doorLaid Tryd.prog 400 os).forCall (fun _ _ => 0) ⟨#[], args, []⟩).memory :=
  laidMetH_of_parts3 (fuel := 8) (laidMet_of_run' 8 (by kernel_rfl) (by kernel_rfl)) (by kernel_rfl) (by kernel_rfl)

section
variable {H : Type} {enc : TypeId × Value → H} {W : World}
/-- one step of the table: its two cells -/
theorem step_cells {base fuel : Nat} {sp : Nat → Bool} {held : Bool} {a b : Value} {x : DataW H × List MemPlace} {s f : Int} (h : DataW.trod enc Tryd.prog W base sp held fuel 102 [a, b] = some x) (hx : x.1 = .agg [.lit (.int .u64 s), .lit (.int .u64 f)]) :
    a = .int .u64 s ∧ b = .int .u64 f := by
  obtain ⟨y0, y1, n, rfl, _, h0, h1⟩ := trod_struct2 Tryd.underlying102 h
  simp only [DataW.agg.injEq, List.cons.injEq, and_true] at hx
  simp [cellsU] at h0
  simp [cellsU64] at h1
  obtain ⟨k, e1, e2, _⟩ := DataW.trod_int Tryd.underlying97 h0
  obtain ⟨k', e1', e2', _⟩ := DataW.trod_int Tryd.underlying42 h1
  simp at e1 e1'
  subst e1 e1' e2 e2'
  simp at hx
  exact ⟨by rw [hx.1], by rw [hx.2]⟩
end
theorem steps_of {W : World} (h : laidMetH Tryd.prog laid12 W) : 0 < W.heap.size ∧ Steps W := by
  rw [MakeChecks.laidMetH_plain _ _ _ (by kernel_rfl)] at h
  obtain ⟨ps, ⟨g0, t0, cs0, f0, p0, q0, hg0, ht0, hv0, hd0, _, _⟩, _, _⟩ := h
  obtain rfl := Option.some.inj (gSteps.symm.trans hg0)
  obtain rfl := Option.some.inj (tSteps.symm.trans ht0)
  obtain ⟨xs, m1, rfl, hx1, hlen, hn3, hel⟩ := DataW.trod_array Tryd.underlying105 hd0
  have hc := World.var?_cell hg0 hv0
  rw [cellsS3] at hlen
  obtain ⟨cs⟩ := cs0
  match cs, hlen with
  | [a0, a1, a2, a3, a4, a5], _ =>
    have hz : 0 < W.heap.size := by
      have := hc 0
      simp only [World.cell?] at this
      cases hh : W.heap[0]? with
      | none => rw [hh] at this; simp at this
      | some o => exact (Array.getElem?_eq_some_iff.1 hh).1
    match xs, hn3, hx1, hel with
    | [x0, x1, x2], _, hx1, hel =>
      have e0 := hel 0 (by decide)
      have e1 := hel 1 (by decide)
      have e2 := hel 2 (by decide)
      simp only [cellsSt] at e0 e1 e2
      simp at e0 e1 e2
      simp only [Prod.mk.injEq, Rows.laid_joinery_mix_steps, DataW.agg.injEq, List.map_cons, List.map_nil, List.cons.injEq, and_true] at hx1
      obtain ⟨⟨hx0, hx1, hx2⟩, _⟩ := hx1
      obtain ⟨rfl, rfl⟩ := step_cells e0 hx0.symm
      obtain ⟨rfl, rfl⟩ := step_cells e1 hx1.symm
      obtain ⟨rfl, rfl⟩ := step_cells e2 hx2.symm
      exact ⟨hz, hc 0, hc 1, hc 2, hc 3, hc 4, hc 5⟩

theorem laidOut : laidOutB Tryd.prog = true := by kernel_rfl

end Go.Proofs.YtfndaeocdgcaeaaDoor
