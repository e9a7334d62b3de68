/- Arguments opened: slices of uint32, numbers of 16 and of 64 bits without a sign. -/
import Derived.Test.YtmndfncogkjjpaaDoorGInts
import Derived.ProofKit
import Derived.OpenShut
namespace Go.Proofs.YtmndfncogkjjpaaDoor
open Go.ChangeShapes Go.WideShapes Go.ChangeAt Go.RowKit

theorem nat64_of (a : Int) (h : (Lit.int .u64 a).wf = true) : ∃ o : Nat, a = (o : Int) ∧ o < 18446744073709551616 := by
  have hb := bounds_u64 h
  exact ⟨a.toNat, by omega, by omega⟩
theorem nat16_of (a : Int) (h : (Lit.int .u16 a).wf = true) : ∃ o : Nat, a = (o : Int) ∧ o ≤ 65535 := by
  have hb := bounds_u16 h
  exact ⟨a.toNat, by omega, by omega⟩
/-- what a slice of words that came in holds -/
theorem open_words {H : Type} {enc : TypeId × Value → H} {P : Program} {W : World} {base b0 : Nat} {spare : Nat → Bool} {held : Bool} {T E : TypeId} {v : Value} {d : DataW H} {ps : List MemPlace}
    (ht : P.underlying T = some (.slice E)) (he : P.underlying E = some (.int .u32)) (hc : P.cellsOf E = 1) (hv : Value.okWide P W .any base T v) (h : DataW.Trod enc P W b0 spare held T v d ps) :
    ∃ A n c, ∃ l : List Nat, v = .slice A n c ∧ l.length = n ∧ n ≤ c ∧ c ≤ maxLen ∧ (A = none → c = 0) ∧ Row W W.heap.size A (l.map U) ∧ ∀ x ∈ l, x < 4294967296 := by
  obtain ⟨A, n, c, rfl⟩ := okWide_slice ht hv
  obtain ⟨fuel, hf⟩ := h
  rcases open_ints ht he hc hf with ⟨hcs, _⟩ | ⟨x, len, cap, zs, hcs, _, hl, hm, hz, _, hcell, hwz⟩
  · simp [Value.cells] at hcs
    obtain ⟨rfl, rfl, rfl⟩ := hcs
    exact ⟨none, 0, 0, [], rfl, rfl, Nat.le_refl _, Nat.zero_le _, fun _ => rfl, Row.none_ _ _ _, fun _ h => by cases h⟩
  · simp [Value.cells] at hcs
    obtain ⟨rfl, rfl, rfl⟩ := hcs
    have hzl : n ≤ zs.length := by rw [hz]; split <;> omega
    refine ⟨some x, n, c, (zs.take n).map Int.toNat, rfl, by rw [List.length_map, List.length_take]; omega, hl, hm, (fun e => by cases e), (fun j u hu => ?_), fun y hy => ?_⟩
    · rw [List.getElem?_map, List.getElem?_map, List.getElem?_take] at hu
      split at hu
      · next hj =>
        have hjz : j < zs.length := by omega
        rw [List.getElem?_eq_getElem hjz] at hu
        simp only [Option.map_some, Option.some.injEq] at hu
        have hc2 := hcell j hjz
        have hb := bounds_u32 (hwz zs[j] (List.getElem_mem _))
        have e1 : zs.getD j 0 = zs[j] := by simp [hjz]
        rw [e1] at hc2
        have e2 : ((zs[j].toNat : Nat) : Int) = zs[j] := by omega
        refine ⟨x, rfl, ?_, ?_⟩
        · have := block_lt_of_cell hc2
          rw [add_block] at this
          exact this
        · rw [hc2, ← hu, U, e2]
      · simp at hu
    · rw [List.mem_map] at hy
      obtain ⟨z, hz2, rfl⟩ := hy
      have hb := bounds_u32 (hwz z (List.mem_of_mem_take hz2))
      omega
end Go.Proofs.YtmndfncogkjjpaaDoor
