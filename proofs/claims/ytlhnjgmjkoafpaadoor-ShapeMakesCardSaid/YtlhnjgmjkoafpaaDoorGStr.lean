/- Strings as lists of bytes: what the walk reads of them. No program. -/
import Derived.WalkKit
import Derived.WalkSpells
import Derived.Lib.Hide
namespace Go.Proofs.YtlhnjgmjkoafpaaDoor
open Go.RowKit

/-- a text, as a value -/
abbrev sV (s : List UInt8) : Value := .string ⟨s.toArray⟩
theorem bytes_cut (s : List UInt8) (i j : Nat) : (⟨s.toArray⟩ : ByteArray).extract i j = ⟨((s.take j).drop i).toArray⟩ := by
  apply ByteArray.ext
  rw [ByteArray.data_extract]
  simp [List.drop_take]
theorem bytes_app (x y : List UInt8) : (⟨x.toArray⟩ : ByteArray) ++ ⟨y.toArray⟩ = ⟨(x ++ y).toArray⟩ := by
  apply ByteArray.ext
  rw [ByteArray.data_append]
  simp
/-- two texts, one behind the other, as the walk reads it -/
theorem str_add (P : Program) (x y z : List UInt8) (hz : x ++ y = z) (h : z.length ≤ 9223372036854775807) : ∀ W, (Op.stringOp .add ⟨x.toArray⟩ ⟨y.toArray⟩).run P W = .ok (sV z) W := by
  intro W
  subst hz
  rw [List.length_append] at h
  simp [Op.stringOp, go_sem, bytes_app]
  omega
section
variable {P : Program} {T : TypeId} (ht : P.underlying T = some .string)
include ht
theorem str_at (s : List UInt8) (k : Nat) (h : k < s.length) (z : Int) (hz : z = (k : Int)) : ∀ W, (Instr.index T (sV s) (.int .i64 z)).run P W = .ok (.int .u8 (s[k].toNat : Int)) W := by
  subst hz
  intro W
  rw [run_index_string W T _ _ _ ht, dif_pos ⟨by omega, by show (k : Int) < (s.toArray.size : Int); simp; omega⟩]
  rfl
theorem str_to (s : List UInt8) (k : Nat) (h : k ≤ s.length) (z : Int) (hz : z = (k : Int)) : ∀ W, (Instr.slice T (sV s) none (some (.int .i64 z)) none).run P W = .ok (sV (s.take k)) W := by
  subst hz
  intro W
  rw [run_slice_string_h W T _ ht _ _ (by omega) (by show (k : Int) ≤ (s.toArray.size : Int); simp; omega), bytes_cut]
  rfl
theorem str_from (s : List UInt8) (k : Nat) (h : k ≤ s.length) (z : Int) (hz : z = (k : Int)) : ∀ W, (Instr.slice T (sV s) (some (.int .i64 z)) none none).run P W = .ok (sV (s.drop k)) W := by
  subst hz
  intro W
  rw [run_slice_string_l W T _ ht _ _ (by omega) (by show (k : Int) ≤ (s.toArray.size : Int); simp; omega), bytes_cut, show (⟨s.toArray⟩ : ByteArray).size = s.length from List.size_toArray, List.take_length]
  rfl
end
end Go.Proofs.YtlhnjgmjkoafpaaDoor
