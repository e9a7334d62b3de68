/- Arguments that are slices of beads, opened. -/
import Derived.Test.YtcnkgddldhkddaaDoorGBead
import Derived.Test.YtcnkgddldhkddaaDoorGOpen
import Derived.ProofKit
import Derived.OpenShut
import Derived.Deep.Slices
import Derived.Deep.Fields
namespace Go.Proofs.YtcnkgddldhkddaaDoor
open Go.ChangeShapes Go.WideShapes Go.ChangeAt Go.RowKit Go.Deep Go.Proofs.Treem
set_option maxRecDepth 100000

section
variable {H : Type} {enc : TypeId × Value → H} {P : Program} {W : World} {b0 : Nat} {spare : Nat → Bool} {held : Bool}
theorem key_cell9 {T : TypeId} {fuel : Nat} {v : Value} {x : DataW H × List MemPlace} (ht : P.underlying T = some (.int .i64)) (h : DataW.trod enc P W b0 spare held fuel T [v] = some x) : ∃ b : BitVec 64, v = K b := by
  obtain ⟨k, e1, _, hw⟩ := DataW.trod_int ht h
  simp at e1
  obtain ⟨b, rfl⟩ := key_of k hw
  exact ⟨b, e1⟩
theorem num_cell9 {T : TypeId} {fuel : Nat} {v : Value} {x : DataW H × List MemPlace} (ht : P.underlying T = some (.int .u64)) (h : DataW.trod enc P W b0 spare held fuel T [v] = some x) : ∃ b : BitVec 64, v = G64 b := by
  obtain ⟨k, e1, _, hw⟩ := DataW.trod_int ht h
  simp at e1
  obtain ⟨b, rfl⟩ := num_of k hw
  exact ⟨b, e1⟩
theorem bool_cell9 {T : TypeId} {fuel : Nat} {v : Value} {x : DataW H × List MemPlace} (ht : P.underlying T = some .bool) (h : DataW.trod enc P W b0 spare held fuel T [v] = some x) : ∃ b : Bool, v = .bool b := by
  obtain ⟨b, e1, _⟩ := DataW.trod_bool ht h
  simp at e1
  exact ⟨b, e1⟩
end
theorem cells9I : Tryd.prog.cellsOf 2 = 1 := by kernel_rfl
theorem cells9N : Tryd.prog.cellsOf 3 = 1 := by kernel_rfl
theorem cells9U : Tryd.prog.cellsOf 36 = 1 := by kernel_rfl
theorem cells9B : Tryd.prog.cellsOf 4 = 1 := by kernel_rfl
theorem cellsD : Tryd.prog.cellsOf 52 = 7 := by kernel_rfl
section
variable {H : Type} {enc : TypeId × Value → H} {W : World} {b0 : Nat} {spare : Nat → Bool} {held : Bool}
/-- the seven cells of a bead in memory -/
theorem bead_cells {fuel : Nat} {cs : List Value} {x : DataW H × List MemPlace} (h : DataW.trod enc Tryd.prog W b0 spare held fuel 52 cs = some x) : ∃ p : Bd, cs = bdC p := by
  obtain ⟨xs, n, _, rfl, hl, hlen, hf⟩ := DataW.trod_struct Tryd.underlying52 h
  rw [cellsD] at hl
  match xs, hlen, cs, hl with
  | [y0, y1, y2, y3, y4, y5, y6], _, [u0, u1, u2, u3, u4, u5, u6], _ =>
    have h0 := hf 0 _ rfl
    have h1 := hf 1 _ rfl
    have h2 := hf 2 _ rfl
    have h3 := hf 3 _ rfl
    have h4 := hf 4 _ rfl
    have h5 := hf 5 _ rfl
    have h6 := hf 6 _ rfl
    simp [cells9I, cells9N, cells9U, cells9B] at h0 h1 h2 h3 h4 h5 h6
    obtain ⟨a0, rfl⟩ := key_cell9 Tryd.underlying2 h0
    obtain ⟨a1, rfl⟩ := key_cell9 Tryd.underlying2 h1
    obtain ⟨a2, rfl⟩ := key_cell9 Tryd.underlying2 h2
    obtain ⟨a3, rfl⟩ := key_cell9 Tryd.underlying3 h3
    obtain ⟨a4, rfl⟩ := num_cell9 Tryd.underlying36 h4
    obtain ⟨a5, rfl⟩ := bool_cell9 Tryd.underlying4 h5
    obtain ⟨a6, rfl⟩ := bool_cell9 Tryd.underlying4 h6
    exact ⟨⟨a0, a1, a2, a3, a4, a5, a6⟩, rfl⟩
/-- what a slice holds whose beads lie one by one -/
theorem row_of_beads {w : World} {ad : Addr} {n : Nat} (f : Fin n → Bd) (hb : 0 < n → ad.block < w.heap.size) (h : ∀ i : Fin n, ∀ j, j < 7 → ∀ u, (bdC (f i))[j]? = some u → w.cell? (ad.add (i.1 * 7 + j)) = some u) : Row w w.heap.size (some ad) (flat7 (List.ofFn f)) := by
  intro j u hu
  have hj : j < (flat7 (List.ofFn f)).length := by
    rcases Nat.lt_or_ge j (flat7 (List.ofFn f)).length with hl | hl
    · exact hl
    · rw [List.getElem?_eq_none hl] at hu; cases hu
  rw [flat7_length, List.length_ofFn] at hj
  obtain ⟨i, hi⟩ : ∃ i, i = j / 7 := ⟨_, rfl⟩
  obtain ⟨q, hq⟩ : ∃ q, q = j % 7 := ⟨_, rfl⟩
  have hin : i < n := by omega
  have hl : i < (List.ofFn f).length := by rw [List.length_ofFn]; exact hin
  have hq7 : q < 7 := by omega
  obtain rfl : j = i * 7 + q := by omega
  rw [flat7_at _ i q hl hq7, List.getElem_ofFn] at hu
  exact ⟨ad, rfl, hb (by omega), h ⟨i, hin⟩ q hq7 u hu⟩
/-- a slice of beads that came in -/
theorem open_beads {base : Nat} {v : Value} {d : DataW H} {ps : List MemPlace} (hv : Value.okWide Tryd.prog W .any base 22 v) (h : DataW.Trod enc Tryd.prog W b0 spare held 22 v d ps) :
    ∃ A n c, ∃ l : List Bd, v = .slice A n c ∧ l.length = n ∧ n ≤ c ∧ c ≤ maxLen ∧ (A = none → c = 0) ∧ Row W W.heap.size A (flat7 l) := by
  obtain ⟨A, n, c, rfl⟩ := okWide_slice Tryd.underlying22 hv
  obtain ⟨fuel, hf⟩ := h
  rcases open_slice Tryd.underlying22 hf with ⟨hcs, _⟩ | ⟨x, len, cap, m, k, D, Pl, hcs, _, hl, hm, hmm, _, hi⟩
  · simp [Value.cells] at hcs
    obtain ⟨rfl, rfl, rfl⟩ := hcs
    exact ⟨none, 0, 0, [], rfl, rfl, Nat.le_refl _, Nat.zero_le _, fun _ => rfl, Row.none_ _ _ _⟩
  · simp [Value.cells] at hcs
    obtain ⟨rfl, rfl, rfl⟩ := hcs
    have hnm : n ≤ m := by rw [hmm]; split <;> omega
    rw [cellsD] at hi
    have hex : ∀ i : Fin n, ∃ p : Bd, ∀ j, j < 7 → ∀ u, (bdC p)[j]? = some u → W.cell? (x.add (i.1 * 7 + j)) = some u := fun i => by
      obtain ⟨cs', hc, ht⟩ := hi i.1 (by have := i.2; omega)
      obtain ⟨p, rfl⟩ := bead_cells ht
      obtain ⟨_, _, hat⟩ := World.cells?_some hc
      refine ⟨p, fun j hj u hu => ?_⟩
      have e0 := hat j (by omega)
      rw [Go.Proofs.YtcnkgddldhkddaaDoor.add_add] at e0
      rw [e0]
      exact hu
    obtain ⟨f, hf'⟩ := Classical.axiomOfChoice hex
    refine ⟨some x, n, c, List.ofFn f, rfl, List.length_ofFn, hl, hm, (fun e => by cases e), row_of_beads f (fun h0 => ?_) hf'⟩
    have := block_lt_of_cell (hf' ⟨0, h0⟩ 0 (by omega) _ rfl)
    rw [add_block] at this
    exact this
end
end Go.Proofs.YtcnkgddldhkddaaDoor
