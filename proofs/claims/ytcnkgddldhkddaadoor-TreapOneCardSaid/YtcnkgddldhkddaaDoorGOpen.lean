/- Arguments opened: numbers, and slices of numbers of 64 bits. -/
import Derived.Test.YtcnkgddldhkddaaDoorGNum
import Derived.Test.YtcnkgddldhkddaaDoorGRow
import Derived.ProofKit
import Derived.OpenShut
namespace Go.Proofs.YtcnkgddldhkddaaDoor
open Go.ChangeShapes Go.WideShapes Go.ChangeAt Go.RowKit

/-- a number that its kind holds is one of 64 bits -/
theorem key_of (a : Int) (h : (Lit.int .i64 a).wf = true) : ∃ b : BitVec 64, a = b.toInt := by
  have hb := bounds_i64 h
  refine ⟨BitVec.ofInt 64 a, ?_⟩
  rw [BitVec.toInt_ofInt]
  exact (Int.bmod_eq_of_le (by omega) (by omega)).symm
theorem num_of (a : Int) (h : (Lit.int .u64 a).wf = true) : ∃ b : BitVec 64, a = (b.toNat : Int) := by
  have hb := bounds_u64 h
  refine ⟨BitVec.ofInt 64 a, ?_⟩
  rw [BitVec.toNat_ofInt]; omega
theorem nat_of (a : Int) (h : (Lit.int .u8 a).wf = true) : ∃ o : Nat, a = (o : Int) := by
  have hb := bounds_u8 h
  exact ⟨a.toNat, by omega⟩
theorem byte_of (a : Int) (h : (Lit.int .u8 a).wf = true) : ∃ o : Nat, a = (o : Int) ∧ o ≤ 255 := by
  have hb := bounds_u8 h
  exact ⟨a.toNat, by omega, by omega⟩

/-- what a slice of numbers of 64 bits that came in holds -/
theorem open_row {H : Type} {enc : TypeId × Value → H} {P : Program} {W : World} {base b0 : Nat} {spare : Nat → Bool} {held : Bool} {T E : TypeId} {v : Value} {d : DataW H} {ps : List MemPlace}
    (ht : P.underlying T = some (.slice E)) (he : P.underlying E = some (.int .i64)) (hc : P.cellsOf E = 1) (hv : Value.okWide P W .any base T v) (h : DataW.Trod enc P W b0 spare held T v d ps) :
    ∃ A n c, ∃ l : List (BitVec 64), v = .slice A n c ∧ l.length = n ∧ n ≤ c ∧ c ≤ maxLen ∧ (A = none → c = 0) ∧ Row W W.heap.size A (l.map K) := by
  obtain ⟨A, n, c, rfl⟩ := okWide_slice ht hv
  obtain ⟨fuel, hf⟩ := h
  rcases open_ints ht he hc hf with ⟨hcs, _⟩ | ⟨x, len, cap, zs, hcs, _, hl, hm, hz, _, hcell, hwz⟩
  · simp [Value.cells] at hcs
    obtain ⟨rfl, rfl, rfl⟩ := hcs
    exact ⟨none, 0, 0, [], rfl, rfl, Nat.le_refl _, Nat.zero_le _, fun _ => rfl, Row.none_ _ _ _⟩
  · simp [Value.cells] at hcs
    obtain ⟨rfl, rfl, rfl⟩ := hcs
    have hzl : n ≤ zs.length := by rw [hz]; split <;> omega
    refine ⟨some x, n, c, (zs.take n).map (BitVec.ofInt 64), rfl, by rw [List.length_map, List.length_take]; omega, hl, hm, (fun e => by cases e), fun j u hu => ?_⟩
    rw [List.getElem?_map, List.getElem?_map, List.getElem?_take] at hu
    split at hu
    · next hj =>
      have hjz : j < zs.length := by omega
      rw [List.getElem?_eq_getElem hjz] at hu
      simp only [Option.map_some, Option.some.injEq] at hu
      have hc2 := hcell j hjz
      have hw := hwz zs[j] (List.getElem_mem _)
      have hb := bounds_i64 hw
      have e1 : zs.getD j 0 = zs[j] := by simp [hjz]
      rw [e1] at hc2
      have e2 : (BitVec.ofInt 64 zs[j]).toInt = zs[j] := by rw [BitVec.toInt_ofInt]; exact Int.bmod_eq_of_le (by omega) (by omega)
      refine ⟨x, rfl, ?_, ?_⟩
      · have := block_lt_of_cell hc2
        rw [add_block] at this
        exact this
      · rw [hc2, ← hu, K, e2]
    · simp at hu
end Go.Proofs.YtcnkgddldhkddaaDoor
