/- Numbers of 64 bits with a sign as the model has them: sums and differences of the walk are the plain ones. -/
import Derived.WalkKit
import Derived.WalkSpells
import Derived.Lib.Hide
namespace Go.Proofs.YtcnkgddldhkddaaDoor
open Go.RowKit

/-- a number of 64 bits with a sign, as the model has it -/
abbrev K (b : BitVec 64) : Value := .int .i64 b.toInt
theorem ret_int {k : IntKind} {a b : Int} (h : a = b) : Ending.returned (.int k a) = .returned (.int k b) := by rw [h]

theorem wrap_bmod (n : Int) : wrap64 n = n.bmod (2 ^ 64) := by
  unfold wrap64
  rw [Int.bmod_def]
  split <;> omega
theorem i_add (a b : BitVec 64) : wrap64 (a.toInt + b.toInt) = (a + b).toInt := by rw [wrap_bmod, BitVec.toInt_add]
theorem i_sub (a b : BitVec 64) : wrap64 (a.toInt - b.toInt) = (a - b).toInt := by rw [wrap_bmod, BitVec.toInt_sub]
theorem i_beq (a b : BitVec 64) : (a.toInt == b.toInt) = decide (a = b) := by
  rw [Bool.eq_iff_iff]; simp [BitVec.toInt_inj]
theorem i_bne (a b : BitVec 64) : (a.toInt != b.toInt) = decide (a ≠ b) := by
  rw [Bool.eq_iff_iff]; simp [BitVec.toInt_inj]

end Go.Proofs.YtcnkgddldhkddaaDoor
