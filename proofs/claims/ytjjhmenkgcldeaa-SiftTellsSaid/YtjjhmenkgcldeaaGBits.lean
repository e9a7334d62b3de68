/- Bits of numbers of 64 bits, with a sign and without, as the model has them. -/
import Derived.Test.YtjjhmenkgcldeaaGNum
import Derived.IntWalk
import Derived.Laws.Bits64b
namespace Go.Proofs.Ytjjhmenkgcldeaa
open Go.RowKit

theorem b_wrap (c : BitVec 64) : IntKind.i64.wrap (c.toNat : Int) = c.toInt := by
  rw [IntWalk.i64_left, wrap_bmod, BitVec.toInt_eq_toNat_bmod]
theorem b_and (a b : BitVec 64) : bits .and .i64 a.toInt b.toInt = (a &&& b).toInt := by
  show IntKind.i64.wrap ((BitVec.ofInt 64 a.toInt &&& BitVec.ofInt 64 b.toInt).toNat : Int) = _
  rw [BitVec.ofInt_toInt, BitVec.ofInt_toInt, b_wrap]
theorem b_andNot (a b : BitVec 64) : bits .andNot .i64 a.toInt b.toInt = (a &&& ~~~b).toInt := by
  show IntKind.i64.wrap ((BitVec.ofInt 64 a.toInt &&& ~~~ BitVec.ofInt 64 b.toInt).toNat : Int) = _
  rw [BitVec.ofInt_toInt, BitVec.ofInt_toInt, b_wrap]
theorem b_u (a : BitVec 64) : IntKind.u64.wrap a.toInt = (a.toNat : Int) := by
  rw [IntKind.wrap_u64, BitVec.toInt_eq_toNat_cond]
  have := a.isLt
  split <;> omega
theorem b_uand (a b : BitVec 64) : bits .and .u64 (a.toNat : Int) (b.toNat : Int) = ((a &&& b).toNat : Int) := by
  rw [bits_and_u64_nat _ _ a.isLt b.isLt, BitVec.toNat_and]
theorem b_uwrap (c : BitVec 64) : IntKind.u64.wrap (c.toNat : Int) = (c.toNat : Int) := by
  rw [IntKind.wrap_u64]
  have := c.isLt
  omega
theorem b_uandNot (a b : BitVec 64) : bits .andNot .u64 (a.toNat : Int) (b.toNat : Int) = ((a &&& ~~~b).toNat : Int) := by
  show IntKind.u64.wrap ((BitVec.ofInt 64 (a.toNat : Int) &&& ~~~ BitVec.ofInt 64 (b.toNat : Int)).toNat : Int) = _
  rw [BitVec.ofInt_natCast, BitVec.ofInt_natCast, BitVec.ofNat_toNat, BitVec.ofNat_toNat, BitVec.setWidth_eq, BitVec.setWidth_eq, b_uwrap]
theorem b_ueq (a b : BitVec 64) : ((a.toNat : Int) == (b.toNat : Int)) = decide (a = b) := by
  rw [Bool.eq_iff_iff]
  simp [Int.ofNat_inj, BitVec.toNat_inj]
end Go.Proofs.Ytjjhmenkgcldeaa
