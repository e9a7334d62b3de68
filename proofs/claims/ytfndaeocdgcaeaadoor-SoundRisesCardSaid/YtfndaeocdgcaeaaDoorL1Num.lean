/- Numbers of 64 bits as the model has them: each operation of the walk is the plain one. -/
import Derived.Test.YtfndaeocdgcaeaaDoorGNum
import Derived.Test.YtfndaeocdgcaeaaDoorL1Math
namespace Go.Proofs.YtfndaeocdgcaeaaDoor
open Go.RowKit Go.Proofs.Mixm

/-- a number of 64 bits, as the model has it -/
abbrev V (b : BitVec 64) : Value := .int .u64 (b.toNat : Int)

theorem d30 (a : BitVec 64) : (a.toNat : Int) / (1073741824 : Int) = ((a >>> 30).toNat : Int) := v_shr a 30
theorem t27 (a : BitVec 64) : IntKind.u64.wrap ((a.toNat : Int).tdiv (134217728 : Int)) = ((a >>> 27).toNat : Int) := by
  rw [Int.tdiv_eq_ediv_of_nonneg (by omega)]; exact (congrArg IntKind.u64.wrap (v_shr a 27)).trans (v_wrap _)
theorem t31 (a : BitVec 64) : IntKind.u64.wrap ((a.toNat : Int).tdiv (2147483648 : Int)) = ((a >>> 31).toNat : Int) := by
  rw [Int.tdiv_eq_ediv_of_nonneg (by omega)]; exact (congrArg IntKind.u64.wrap (v_shr a 31)).trans (v_wrap _)
theorem m1 (a : BitVec 64) : IntKind.u64.wrap ((a.toNat : Int) * (13787848793156543929 : Int)) = ((a * c1).toNat : Int) := v_mul a c1
theorem m2 (a : BitVec 64) : IntKind.u64.wrap ((a.toNat : Int) * (10723151780598845931 : Int)) = ((a * c2).toNat : Int) := v_mul a c2

theorem v_fold (b : BitVec 64) (s : Nat) : bits .xor .u64 (b.toNat : Int) ((b.toNat : Int) / 2 ^ s) = ((fold s b).toNat : Int) := by
  rw [v_shr, v_xor]; rfl

theorem v_two (a : BitVec 64) : IntKind.u64.wrap (2 - (a.toNat : Int)) = ((2#64 - a).toNat : Int) := v_sub 2#64 a

theorem s63 (n : Int) : bits .and .u64 (IntKind.u64.wrap n) 63 = (by64 n : Int) := by
  have h0 : (IntKind.u64.wrap n) = (((n % 18446744073709551616).toNat : Nat) : Int) := by rw [IntKind.wrap_u64]; omega
  have h1 := bits_and_u64_nat (n % 18446744073709551616).toNat 63 (by omega) (by omega)
  rw [h0]
  refine h1.trans ?_
  have h2 := Nat.and_two_pow_sub_one_eq_mod (n % 18446744073709551616).toNat 6
  have h3 : (n % 18446744073709551616).toNat &&& 63 = (n % 18446744073709551616).toNat % 64 := h2
  rw [h3]
  unfold by64
  omega

theorem a8 (a : BitVec 64) : bits .and .u64 (a.toNat : Int) (71777214294589695 : Int) = ((a &&& 0x00ff00ff00ff00ff#64).toNat : Int) := v_and a 0x00ff00ff00ff00ff#64
theorem a16 (a : BitVec 64) : bits .and .u64 (a.toNat : Int) (281470681808895 : Int) = ((a &&& 0x0000ffff0000ffff#64).toNat : Int) := v_and a 0x0000ffff0000ffff#64
theorem a1 (a : BitVec 64) : bits .and .u64 (a.toNat : Int) (6148914691236517205 : Int) = ((a &&& 0x5555555555555555#64).toNat : Int) := v_and a 0x5555555555555555#64
theorem a2 (a : BitVec 64) : bits .and .u64 (a.toNat : Int) (3689348814741910323 : Int) = ((a &&& 0x3333333333333333#64).toNat : Int) := v_and a 0x3333333333333333#64
theorem a4 (a : BitVec 64) : bits .and .u64 (a.toNat : Int) (1085102592571150095 : Int) = ((a &&& 0x0f0f0f0f0f0f0f0f#64).toNat : Int) := v_and a 0x0f0f0f0f0f0f0f0f#64
theorem q1 (a : BitVec 64) : (a.toNat : Int) / (2 : Int) = ((a >>> 1).toNat : Int) := v_shr a 1
theorem q2 (a : BitVec 64) : (a.toNat : Int) / (4 : Int) = ((a >>> 2).toNat : Int) := v_shr a 2
theorem q4 (a : BitVec 64) : (a.toNat : Int) / (16 : Int) = ((a >>> 4).toNat : Int) := v_shr a 4
theorem q8 (a : BitVec 64) : (a.toNat : Int) / (256 : Int) = ((a >>> 8).toNat : Int) := v_shr a 8
theorem q16 (a : BitVec 64) : (a.toNat : Int) / (65536 : Int) = ((a >>> 16).toNat : Int) := v_shr a 16
theorem q32 (a : BitVec 64) : (a.toNat : Int) / (4294967296 : Int) = ((a >>> 32).toNat : Int) := v_shr a 32
theorem p1 (a : BitVec 64) : IntKind.u64.wrap ((a.toNat : Int) * (2 : Int)) = ((a <<< 1).toNat : Int) := v_shl a 1
theorem p2 (a : BitVec 64) : IntKind.u64.wrap ((a.toNat : Int) * (4 : Int)) = ((a <<< 2).toNat : Int) := v_shl a 2
theorem p4 (a : BitVec 64) : IntKind.u64.wrap ((a.toNat : Int) * (16 : Int)) = ((a <<< 4).toNat : Int) := v_shl a 4
theorem p8 (a : BitVec 64) : IntKind.u64.wrap ((a.toNat : Int) * (256 : Int)) = ((a <<< 8).toNat : Int) := v_shl a 8
theorem p16 (a : BitVec 64) : IntKind.u64.wrap ((a.toNat : Int) * (65536 : Int)) = ((a <<< 16).toNat : Int) := v_shl a 16
theorem p32 (a : BitVec 64) : IntKind.u64.wrap ((a.toNat : Int) * (4294967296 : Int)) = ((a <<< 32).toNat : Int) := v_shl a 32

theorem n64 (n : Int) : (n.tmod 64 + 64).tmod 64 = (by64 n : Int) := by
  unfold by64
  rcases Int.le_total 0 n with h | h
  · rw [Int.tmod_eq_emod_of_nonneg h, Int.tmod_eq_emod_of_nonneg (by omega)]; omega
  · have e : n.tmod 64 = -((-n) % 64) := by
      have := Int.neg_tmod (-n) 64
      rw [Int.neg_neg] at this
      rw [this, Int.tmod_eq_emod_of_nonneg (by omega)]
    rw [e, Int.tmod_eq_emod_of_nonneg (by omega)]; omega

theorem r2 (a : BitVec 64) : (a.toNat : Int) % (2 : Int) = ((bitOf a 0).toNat : Int) := by
  unfold bitOf
  rw [BitVec.toNat_and, BitVec.ushiftRight_zero, show (1#64).toNat = 1 from rfl, Nat.and_one_is_mod]; omega
theorem bitOf_shift (a : BitVec 64) (k : Nat) : bitOf (a >>> k) 0 = bitOf a k := by
  unfold bitOf; rw [BitVec.ushiftRight_zero]

theorem r2k (a : BitVec 64) (k : Nat) : ((a.toNat : Int) / 2 ^ k).tmod 2 = ((bitOf a k).toNat : Int) := by
  rw [v_shr, Int.tmod_eq_emod_of_nonneg (by omega), r2, bitOf_shift]

theorem n64w (n : Int) : (wrap64 (n.tmod 64 + 64)).tmod 64 = (by64 n : Int) := by
  have h1 : n.tmod 64 < 64 := Int.tmod_lt_of_pos n (by omega)
  have h2 : -64 < n.tmod 64 := Int.lt_tmod_of_pos n (by omega)
  rw [IntWalk.wrap64_in _ ⟨by omega, by omega⟩, n64]

theorem g64 (a : BitVec 64) (x : Int) (h : BitVec.ofInt 64 x = a) : IntKind.u64.wrap x = (a.toNat : Int) := by
  subst h
  rw [IntKind.wrap_u64, BitVec.toNat_ofInt]; omega
theorem gold (x : Int) : IntKind.u64.wrap (IntKind.u64.wrap x + (11400714819323198485 : Int)) = ((BitVec.ofInt 64 x + 0x9e3779b97f4a7c15#64).toNat : Int) := by
  rw [g64 _ x rfl]; exact v_add _ 0x9e3779b97f4a7c15#64

/-- what is nearer to the inverse of f, k times -/
def inv (f : BitVec 64) : Nat → BitVec 64
  | 0 => f
  | k + 1 => inv f k * (2#64 - f * inv f k)
theorem inv_one : inv 1#64 5 = 1#64 := by decide
theorem inv_c1 : inv c1 5 = i1 := by decide
theorem inv_c2 : inv c2 5 = i2 := by decide

end Go.Proofs.YtfndaeocdgcaeaaDoor
