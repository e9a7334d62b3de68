/- What is cut out of a slice: the equations of the three cuts, and what the cut slice holds. Laid ahead of a walk, they spare it the parting at the capacity. -/
import Derived.Test.YtcnkgddldhkddaaDoorGRow
namespace Go.Proofs.YtcnkgddldhkddaaDoor
open Go.RowKit

section
variable {P : Program} {T E : TypeId} {size : Nat} (ht : P.underlying T = some (.slice E)) (hz : ∀ W, (sizeOf E).run P W = .ok size W)
include ht hz
/-- s[i:] -/
theorem cut_from (A : Option Addr) (n c i : Nat) (z : Int) (he : z = (i : Int)) (hi : i ≤ n) (hn : n ≤ c) :
    ∃ A', (∀ W, (Instr.slice T (.slice A n c) (some (.int .i64 z)) none none).run P W = .ok (.slice A' (n - i) (c - i)) W) ∧ ∀ w B xs, Row w B A xs → xs.length ≤ n * size → Row w B A' (xs.drop (i * size)) := by
  subst he
  refine ⟨if c = i then A else A.map (·.add (i * size)), fun W => ?_, fun w B xs h hl => h.drop _ rfl (Nat.le_trans hl (Nat.mul_le_mul_right _ hn))⟩
  have hi' : (i : Int) ≤ (n : Int) := by omega
  simp [Instr.slice, run_underlying ht, Instr.sliceBounds, run_sliceBound, hz, hi', Result.andThen]
/-- s[:k] -/
theorem cut_to (A : Option Addr) (n c k : Nat) (z : Int) (he : z = (k : Int)) (hk : k ≤ c) :
    ∀ W, (Instr.slice T (.slice A n c) none (some (.int .i64 z)) none).run P W = .ok (.slice A k c) W := by
  subst he
  intro W
  have hk' : (k : Int) ≤ (c : Int) := by omega
  have e : (A.map (·.add 0)) = A := by cases A <;> simp [Addr.add]
  simp [Instr.slice, run_underlying ht, Instr.sliceBounds, run_sliceBound, hz, hk', Result.andThen, e]
/-- s[i:k] -/
theorem cut_mid (A : Option Addr) (n c i k : Nat) (y z : Int) (hy : y = (i : Int)) (he : z = (k : Int)) (hi : i ≤ k) (hk : k ≤ n) (hn : n ≤ c) :
    ∃ A', (∀ W, (Instr.slice T (.slice A n c) (some (.int .i64 y)) (some (.int .i64 z)) none).run P W = .ok (.slice A' (k - i) (c - i)) W) ∧ ∀ w B xs, Row w B A xs → xs.length ≤ n * size → Row w B A' ((xs.take (k * size)).drop (i * size)) := by
  subst he hy
  refine ⟨if c = i then A else A.map (·.add (i * size)), fun W => ?_, fun w B xs h hl => (h.take _).drop _ rfl (Nat.le_trans (by rw [List.length_take]; omega) (Nat.mul_le_mul_right _ hn))⟩
  have hi' : (i : Int) ≤ (k : Int) := by omega
  have hk' : (k : Int) ≤ (c : Int) := by omega
  simp [Instr.slice, run_underlying ht, Instr.sliceBounds, run_sliceBound, hz, hi', hk', Result.andThen]
/-- s[i:], and that there is no memory only if there was none -/
theorem cut_from2 (A : Option Addr) (n c i : Nat) (z : Int) (he : z = (i : Int)) (hi : i ≤ n) (hn : n ≤ c) :
    ∃ A', (∀ W, (Instr.slice T (.slice A n c) (some (.int .i64 z)) none none).run P W = .ok (.slice A' (n - i) (c - i)) W) ∧ (∀ w B xs, Row w B A xs → xs.length ≤ n * size → Row w B A' (xs.drop (i * size))) ∧ (A' = none → A = none) := by
  subst he
  refine ⟨if c = i then A else A.map (·.add (i * size)), fun W => ?_, fun w B xs h hl => h.drop _ rfl (Nat.le_trans hl (Nat.mul_le_mul_right _ hn)), fun e => by cases A with | none => rfl | some a => split at e <;> cases e⟩
  have hi' : (i : Int) ≤ (n : Int) := by omega
  simp [Instr.slice, run_underlying ht, Instr.sliceBounds, run_sliceBound, hz, hi', Result.andThen]
/-- s[i:k], likewise -/
theorem cut_mid2 (A : Option Addr) (n c i k : Nat) (y z : Int) (hy : y = (i : Int)) (he : z = (k : Int)) (hi : i ≤ k) (hk : k ≤ n) (hn : n ≤ c) :
    ∃ A', (∀ W, (Instr.slice T (.slice A n c) (some (.int .i64 y)) (some (.int .i64 z)) none).run P W = .ok (.slice A' (k - i) (c - i)) W) ∧ (∀ w B xs, Row w B A xs → xs.length ≤ n * size → Row w B A' ((xs.take (k * size)).drop (i * size))) ∧ (A' = none → A = none) := by
  subst he hy
  refine ⟨if c = i then A else A.map (·.add (i * size)), fun W => ?_, fun w B xs h hl => (h.take _).drop _ rfl (Nat.le_trans (by rw [List.length_take]; omega) (Nat.mul_le_mul_right _ hn)), fun e => by cases A with | none => rfl | some a => split at e <;> cases e⟩
  have hi' : (i : Int) ≤ (k : Int) := by omega
  have hk' : (k : Int) ≤ (c : Int) := by omega
  simp [Instr.slice, run_underlying ht, Instr.sliceBounds, run_sliceBound, hz, hi', hk', Result.andThen]
end
end Go.Proofs.YtcnkgddldhkddaaDoor
