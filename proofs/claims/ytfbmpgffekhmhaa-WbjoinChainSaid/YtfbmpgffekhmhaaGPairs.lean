/- Arguments that are pairs, and slices of pairs, opened. -/
import Derived.Test.YtfbmpgffekhmhaaGPair
import Derived.Test.YtfbmpgffekhmhaaGOpen
import Derived.ProofKit
import Derived.OpenShut
import Derived.Deep.Slices
import Derived.Deep.Fields
import Derived.Lib.SmallJoins
namespace Go.Proofs.Ytfbmpgffekhmhaa
open Go.ChangeShapes Go.WideShapes Go.ChangeAt Go.RowKit Go.Deep Go.Joins Go.Proofs.Rowm
set_option maxRecDepth 100000

section
variable {H : Type} {enc : TypeId × Value → H} {P : Program} {W : World} {b0 : Nat} {spare : Nat → Bool} {held : Bool}
/-- one number of 64 bits that came in -/
theorem key_cell {T : TypeId} {fuel : Nat} {v : Value} {x : DataW H × List MemPlace} (ht : P.underlying T = some (.int .i64)) (h : DataW.trod enc P W b0 spare held fuel T [v] = some x) : ∃ b : BitVec 64, v = K b := by
  obtain ⟨k, e1, _, hw⟩ := DataW.trod_int ht h
  simp at e1
  obtain ⟨b, rfl⟩ := key_of k hw
  exact ⟨b, e1⟩
end
theorem cellsI : Try.prog.cellsOf 2 = 1 := by kernel_rfl
theorem cellsP : Try.prog.cellsOf 40 = 2 := by kernel_rfl
section
variable {H : Type} {enc : TypeId × Value → H} {W : World} {b0 : Nat} {spare : Nat → Bool} {held : Bool}
/-- a pair that came in, by value -/
theorem open_pair {base : Nat} {v : Value} {d : DataW H} {p : List MemPlace} (hv : Value.okWide Try.prog W .any base 40 v) (h : DataW.Trod enc Try.prog W b0 spare held 40 v d p) : ∃ x : Pr, v = pV x := by
  obtain ⟨v0, v1, y0, y1, n, rfl, _, _, h0, h1⟩ := open_agg2 Try.underlying40 (by kernel_rfl) cellsP hv h
  obtain ⟨a, rfl⟩ := key_cell Try.underlying2 h0
  obtain ⟨b, rfl⟩ := key_cell Try.underlying2 h1
  exact ⟨(a, b), rfl⟩
/-- the two cells of a pair in memory -/
theorem pair_cells {fuel : Nat} {cs : List Value} {x : DataW H × List MemPlace} (h : DataW.trod enc Try.prog W b0 spare held fuel 40 cs = some x) : ∃ p : Pr, cs = [K p.1, K p.2] := by
  obtain ⟨y0, y1, n, _, hl, h0, h1⟩ := trod_struct2 Try.underlying40 h
  rw [cellsP] at hl
  match cs, hl with
  | [u, v], _ =>
    simp [cellsI] at h0 h1
    obtain ⟨a, rfl⟩ := key_cell Try.underlying2 h0
    obtain ⟨b, rfl⟩ := key_cell Try.underlying2 h1
    exact ⟨(a, b), rfl⟩
/-- what a slice holds whose pairs lie one by one -/
theorem row_of_pairs {w : World} {ad : Addr} {n : Nat} (f : Fin n → Pr) (hb : 0 < n → ad.block < w.heap.size) (h : ∀ i : Fin n, w.cell? (ad.add (i.1 * 2)) = some (K (f i).1) ∧ w.cell? (ad.add (i.1 * 2 + 1)) = some (K (f i).2)) : Row w w.heap.size (some ad) (flat (List.ofFn f)) := by
  intro j u hu
  have hj : j < (flat (List.ofFn f)).length := by
    rcases Nat.lt_or_ge j (flat (List.ofFn f)).length with hl | hl
    · exact hl
    · rw [List.getElem?_eq_none hl] at hu; cases hu
  rw [flat_length, List.length_ofFn] at hj
  obtain ⟨i, hi⟩ : ∃ i, i = j / 2 := ⟨_, rfl⟩
  have hin : i < n := by omega
  have hl : i < (List.ofFn f).length := by rw [List.length_ofFn]; exact hin
  refine ⟨ad, rfl, hb (by omega), ?_⟩
  rcases Nat.mod_two_eq_zero_or_one j with h0 | h0
  · obtain rfl : j = i * 2 := by omega
    rw [flat_key _ i hl, List.getElem_ofFn] at hu
    rw [(h ⟨i, hin⟩).1, ← hu]
  · obtain rfl : j = i * 2 + 1 := by omega
    rw [flat_val _ i hl, List.getElem_ofFn] at hu
    rw [(h ⟨i, hin⟩).2, ← hu]
/-- a slice of pairs that came in -/
theorem open_pairs {base : Nat} {v : Value} {d : DataW H} {ps : List MemPlace} (hv : Value.okWide Try.prog W .any base 37 v) (h : DataW.Trod enc Try.prog W b0 spare held 37 v d ps) :
    ∃ A n c, ∃ l : List Pr, v = .slice A n c ∧ l.length = n ∧ n ≤ c ∧ c ≤ maxLen ∧ (A = none → c = 0) ∧ Row W W.heap.size A (flat l) := by
  obtain ⟨A, n, c, rfl⟩ := okWide_slice Try.underlying37 hv
  obtain ⟨fuel, hf⟩ := h
  rcases open_slice Try.underlying37 hf with ⟨hcs, _⟩ | ⟨x, len, cap, m, k, D, Pl, hcs, _, hl, hm, hmm, _, hi⟩
  · simp [Value.cells] at hcs
    obtain ⟨rfl, rfl, rfl⟩ := hcs
    exact ⟨none, 0, 0, [], rfl, rfl, Nat.le_refl _, Nat.zero_le _, fun _ => rfl, Row.none_ _ _ _⟩
  · simp [Value.cells] at hcs
    obtain ⟨rfl, rfl, rfl⟩ := hcs
    have hnm : n ≤ m := by rw [hmm]; split <;> omega
    rw [cellsP] at hi
    have hex : ∀ i : Fin n, ∃ p : Pr, W.cell? (x.add (i.1 * 2)) = some (K p.1) ∧ W.cell? (x.add (i.1 * 2 + 1)) = some (K p.2) := fun i => by
      obtain ⟨cs', hc, ht⟩ := hi i.1 (by have := i.2; omega)
      obtain ⟨p, rfl⟩ := pair_cells ht
      obtain ⟨_, _, hat⟩ := World.cells?_some hc
      have e0 := hat 0 (by omega)
      have e1 := hat 1 (by omega)
      refine ⟨p, ?_, ?_⟩
      · rw [Go.Proofs.Ytfbmpgffekhmhaa.add_add, Nat.add_zero] at e0
        exact e0
      · rw [Go.Proofs.Ytfbmpgffekhmhaa.add_add] at e1
        exact e1
    obtain ⟨f, hf'⟩ := Classical.axiomOfChoice hex
    refine ⟨some x, n, c, List.ofFn f, rfl, List.length_ofFn, hl, hm, (fun e => by cases e), row_of_pairs f (fun h0 => ?_) hf'⟩
    have := block_lt_of_cell (hf' ⟨0, h0⟩).1
    rw [add_block] at this
    exact this
end
end Go.Proofs.Ytfbmpgffekhmhaa
