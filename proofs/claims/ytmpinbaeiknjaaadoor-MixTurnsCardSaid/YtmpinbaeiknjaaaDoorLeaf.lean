/- The contracts of the functions below Mix and Unmix (the document's answers, turning, flipping, unfolding, the inverse of a factor): each returns what the plain mathematics says, whatever the number. -/
import Derived.WalkKit
import Derived.WalkSpells
import Derived.Lib.Hide
import Derived.Test.YtmpinbaeiknjaaaDoorMath
import Derived.Test.YtmpinbaeiknjaaaDoorProg
namespace Go.Proofs.YtmpinbaeiknjaaaDoor
open Go.RowKit Go.Proofs.Mixm

/-- a number of 64 bits, as the model has it -/
abbrev V (b : BitVec 64) : Value := .int .u64 (b.toNat : Int)
theorem ret_int {k : IntKind} {a b : Int} (h : a = b) : Ending.returned (.int k a) = .returned (.int k b) := by rw [h]

theorem d30 (a : BitVec 64) : (a.toNat : Int) / (1073741824 : Int) = ((a >>> 30).toNat : Int) := v_shr a 30
theorem t27 (a : BitVec 64) : IntKind.u64.wrap ((a.toNat : Int).tdiv (134217728 : Int)) = ((a >>> 27).toNat : Int) := by
  rw [Int.tdiv_eq_ediv_of_nonneg (by omega)]; exact (congrArg IntKind.u64.wrap (v_shr a 27)).trans (v_wrap _)
theorem t31 (a : BitVec 64) : IntKind.u64.wrap ((a.toNat : Int).tdiv (2147483648 : Int)) = ((a >>> 31).toNat : Int) := by
  rw [Int.tdiv_eq_ediv_of_nonneg (by omega)]; exact (congrArg IntKind.u64.wrap (v_shr a 31)).trans (v_wrap _)
theorem m1 (a : BitVec 64) : IntKind.u64.wrap ((a.toNat : Int) * (13787848793156543929 : Int)) = ((a * c1).toNat : Int) := v_mul a c1
theorem m2 (a : BitVec 64) : IntKind.u64.wrap ((a.toNat : Int) * (10723151780598845931 : Int)) = ((a * c2).toNat : Int) := v_mul a c2

set_option maxHeartbeats 400000 in
theorem refMix_any (b : BitVec 64) (w : World) : Calls Tryd.prog 7 #[V b] w fun e w' => e = .returned (V (mix b)) ∧ w = w' := by
  go_enter Tryd.func7, Tryd.ntmps7
  go_wp2
  go_ret
  refine ⟨ret_int ?_, rfl⟩
  simp only [d30, t27, t31, m1, m2, v_xor]
  rfl

theorem v_fold (b : BitVec 64) (s : Nat) : bits .xor .u64 (b.toNat : Int) ((b.toNat : Int) / 2 ^ s) = ((fold s b).toNat : Int) := by
  rw [v_shr, v_xor]; rfl

set_option maxHeartbeats 400000 in
theorem unfold_any (b : BitVec 64) (s : Nat) (h1 : 16 ≤ s) (h2 : s < 32) (w : World) : Calls Tryd.prog 20 #[V b, .int .u64 (s : Int)] w fun e w' => e = .returned (V (unf s b)) ∧ w = w' := by
  go_enter Tryd.func20, Tryd.ntmps20
  go_wp2
  go_loop [0, 5] (fun x n => (x = V b ∧ n = .int .u64 (s : Int)) ∨ (x = V (fold s b) ∧ n = .int .u64 ((2 * s : Nat) : Int)) ∨ (x = V (unf s b) ∧ n = .int .u64 ((4 * s : Nat) : Int))) (fun _ n => 64 - (intOf n).toNat)
  case atStart => exact .inl ⟨rfl, rfl⟩
  case round =>
    rcases hrel with ⟨rfl, rfl⟩ | ⟨rfl, rfl⟩ | ⟨rfl, rfl⟩
    · go_wp2
      go_round
      case rel => exact .inr (.inl ⟨by rw [v_fold], by go_num⟩)
      case measure => simp [intOf]; omega
    · go_wp2
      go_round
      case rel => exact .inr (.inr ⟨by rw [v_fold]; rfl, by go_num⟩)
      case measure => simp [intOf]; omega
    · go_wp2
      go_ret
      exact ⟨rfl, rfl⟩

theorem v_two (a : BitVec 64) : IntKind.u64.wrap (2 - (a.toNat : Int)) = ((2#64 - a).toNat : Int) := v_sub 2#64 a

set_option maxHeartbeats 400000 in
theorem nearer_any (x f : BitVec 64) (a : Addr) (w : World) (hc : w.cell? a = some (V f)) : Calls Tryd.prog 23 #[V x, .pointer (some a)] w fun e w' => e = .returned (V (x * (2#64 - f * x))) ∧ w = w' := by
  go_enter Tryd.func23, Tryd.ntmps23
  go_wp2
  go_ret
  refine ⟨ret_int ?_, rfl⟩
  simp only [v_mul, v_two]

/-- what is nearer to the inverse of f, k times -/
def inv (f : BitVec 64) : Nat → BitVec 64
  | 0 => f
  | k + 1 => inv f k * (2#64 - f * inv f k)
theorem inv_one : inv 1#64 5 = 1#64 := by decide
theorem inv_c1 : inv c1 5 = i1 := by decide
theorem inv_c2 : inv c2 5 = i2 := by decide

set_option maxHeartbeats 400000 in
theorem inverse_any (f : BitVec 64) (w : World) : Calls Tryd.prog 21 #[V f] w fun e w' => e = .returned (V (inv f 5)) ∧ w.alloc (.cells #[V f] 22) = w' := by
  go_enter Tryd.func21, Tryd.ntmps21
  go_wp2
  have hc : (w.alloc (.cells #[V f] 22)).cell? ⟨w.heap.size, 0, none⟩ = some (V f) := by simp
  go_loop [4, 7] (fun x i => ∃ k : Nat, k ≤ 5 ∧ i = .int .i64 k ∧ x = V (inv f k)) (fun _ i => 5 - (intOf i).toNat)
  case atStart => exact ⟨0, by omega, rfl, rfl⟩
  case round =>
    obtain ⟨k, hk, rfl, rfl⟩ := hrel
    by_cases hlt : k < 5
    · go_wp2_with (go_at_call 23; refine (nearer_any _ _ _ _ hc).mono ?_; rintro e w' ⟨rfl, rfl⟩)
      go_round
      case rel => exact ⟨k + 1, by omega, by go_num, rfl⟩
      case measure => simp [intOf]; omega
    · obtain rfl : k = 5 := by omega
      go_wp2
      go_ret
      exact ⟨rfl, rfl⟩

theorem s63 (n : Int) : bits .and .u64 (IntKind.u64.wrap n) 63 = (by64 n : Int) := by
  have h0 : (IntKind.u64.wrap n) = (((n % 18446744073709551616).toNat : Nat) : Int) := by rw [IntKind.wrap_u64]; omega
  have h1 := bits_and_u64_nat (n % 18446744073709551616).toNat 63 (by omega) (by omega)
  rw [h0]
  refine h1.trans ?_
  have h2 := Nat.and_two_pow_sub_one_eq_mod (n % 18446744073709551616).toNat 6
  have h3 : (n % 18446744073709551616).toNat &&& 63 = (n % 18446744073709551616).toNat % 64 := h2
  rw [h3]
  unfold by64
  omega

set_option maxHeartbeats 400000 in
theorem rotate_any (b : BitVec 64) (n : Int) (w : World) : Calls Tryd.prog 17 #[V b, .int .i64 n] w fun e w' => e = .returned (V (rot b (by64 n))) ∧ w = w' := by
  have hs := s63 n
  obtain ⟨s, hs0⟩ : ∃ s, by64 n = s := ⟨_, rfl⟩
  have hs1 := by64_lt n
  rw [hs0] at hs hs1 ⊢
  clear hs0
  go_enter Tryd.func17, Tryd.ntmps17
  go_wp2
  go_ret
  refine ⟨ret_int ?_, rfl⟩
  rw [v_shl, v_shr, v_or]
  rfl

set_option maxHeartbeats 400000 in
theorem turn_any (b : BitVec 64) (n : Int) (w : World) : Calls Tryd.prog 8 #[V b, .int .i64 n] w fun e w' => e = .returned (V (rot b (by64 n))) ∧ w = w' := by
  go_enter Tryd.func8, Tryd.ntmps8
  go_wp2_with (go_at_call 17; refine (rotate_any _ _ _).mono ?_; rintro e w' ⟨rfl, rfl⟩)
  go_ret
  exact ⟨rfl, rfl⟩

theorem a8 (a : BitVec 64) : bits .and .u64 (a.toNat : Int) (71777214294589695 : Int) = ((a &&& 0x00ff00ff00ff00ff#64).toNat : Int) := v_and a 0x00ff00ff00ff00ff#64
theorem a16 (a : BitVec 64) : bits .and .u64 (a.toNat : Int) (281470681808895 : Int) = ((a &&& 0x0000ffff0000ffff#64).toNat : Int) := v_and a 0x0000ffff0000ffff#64
theorem a1 (a : BitVec 64) : bits .and .u64 (a.toNat : Int) (6148914691236517205 : Int) = ((a &&& 0x5555555555555555#64).toNat : Int) := v_and a 0x5555555555555555#64
theorem a2 (a : BitVec 64) : bits .and .u64 (a.toNat : Int) (3689348814741910323 : Int) = ((a &&& 0x3333333333333333#64).toNat : Int) := v_and a 0x3333333333333333#64
theorem a4 (a : BitVec 64) : bits .and .u64 (a.toNat : Int) (1085102592571150095 : Int) = ((a &&& 0x0f0f0f0f0f0f0f0f#64).toNat : Int) := v_and a 0x0f0f0f0f0f0f0f0f#64
theorem q1 (a : BitVec 64) : (a.toNat : Int) / (2 : Int) = ((a >>> 1).toNat : Int) := v_shr a 1
theorem q2 (a : BitVec 64) : (a.toNat : Int) / (4 : Int) = ((a >>> 2).toNat : Int) := v_shr a 2
theorem q4 (a : BitVec 64) : (a.toNat : Int) / (16 : Int) = ((a >>> 4).toNat : Int) := v_shr a 4
theorem q8 (a : BitVec 64) : (a.toNat : Int) / (256 : Int) = ((a >>> 8).toNat : Int) := v_shr a 8
theorem q16 (a : BitVec 64) : (a.toNat : Int) / (65536 : Int) = ((a >>> 16).toNat : Int) := v_shr a 16
theorem q32 (a : BitVec 64) : (a.toNat : Int) / (4294967296 : Int) = ((a >>> 32).toNat : Int) := v_shr a 32
theorem p1 (a : BitVec 64) : IntKind.u64.wrap ((a.toNat : Int) * (2 : Int)) = ((a <<< 1).toNat : Int) := v_shl a 1
theorem p2 (a : BitVec 64) : IntKind.u64.wrap ((a.toNat : Int) * (4 : Int)) = ((a <<< 2).toNat : Int) := v_shl a 2
theorem p4 (a : BitVec 64) : IntKind.u64.wrap ((a.toNat : Int) * (16 : Int)) = ((a <<< 4).toNat : Int) := v_shl a 4
theorem p8 (a : BitVec 64) : IntKind.u64.wrap ((a.toNat : Int) * (256 : Int)) = ((a <<< 8).toNat : Int) := v_shl a 8
theorem p16 (a : BitVec 64) : IntKind.u64.wrap ((a.toNat : Int) * (65536 : Int)) = ((a <<< 16).toNat : Int) := v_shl a 16
theorem p32 (a : BitVec 64) : IntKind.u64.wrap ((a.toNat : Int) * (4294967296 : Int)) = ((a <<< 32).toNat : Int) := v_shl a 32

set_option maxHeartbeats 400000 in
theorem reverseBytes_any (b : BitVec 64) (w : World) : Calls Tryd.prog 22 #[V b] w fun e w' => e = .returned (V (flipB b)) ∧ w = w' := by
  go_enter Tryd.func22, Tryd.ntmps22
  go_wp2
  go_ret
  refine ⟨ret_int ?_, rfl⟩
  simp only [a8, a16, q8, q16, q32, p8, p16, p32, v_or]
  rfl

set_option maxHeartbeats 400000 in
theorem reverse_any (b : BitVec 64) (w : World) : Calls Tryd.prog 18 #[V b] w fun e w' => e = .returned (V (flip b)) ∧ w = w' := by
  go_enter Tryd.func18, Tryd.ntmps18
  go_wp2_with (go_at_call 22; simp only [a1, a2, a4, q1, q2, q4, p1, p2, p4, v_or]; refine (reverseBytes_any _ _).mono ?_; rintro e w' ⟨rfl, rfl⟩)
  go_ret
  exact ⟨rfl, rfl⟩

set_option maxHeartbeats 400000 in
theorem flip_any (b : BitVec 64) (w : World) : Calls Tryd.prog 10 #[V b] w fun e w' => e = .returned (V (flip b)) ∧ w = w' := by
  go_enter Tryd.func10, Tryd.ntmps10
  go_wp2_with (go_at_call 18; refine (reverse_any _ _).mono ?_; rintro e w' ⟨rfl, rfl⟩)
  go_ret
  exact ⟨rfl, rfl⟩

theorem n64 (n : Int) : (n.tmod 64 + 64).tmod 64 = (by64 n : Int) := by
  unfold by64
  rcases Int.le_total 0 n with h | h
  · rw [Int.tmod_eq_emod_of_nonneg h, Int.tmod_eq_emod_of_nonneg (by omega)]; omega
  · have e : n.tmod 64 = -((-n) % 64) := by
      have := Int.neg_tmod (-n) 64
      rw [Int.neg_neg] at this
      rw [this, Int.tmod_eq_emod_of_nonneg (by omega)]
    rw [e, Int.tmod_eq_emod_of_nonneg (by omega)]; omega

theorem r2 (a : BitVec 64) : (a.toNat : Int) % (2 : Int) = ((bitOf a 0).toNat : Int) := by
  unfold bitOf
  rw [BitVec.toNat_and, BitVec.ushiftRight_zero, show (1#64).toNat = 1 from rfl, Nat.and_one_is_mod]; omega
theorem bitOf_shift (a : BitVec 64) (k : Nat) : bitOf (a >>> k) 0 = bitOf a k := by
  unfold bitOf; rw [BitVec.ushiftRight_zero]

set_option maxHeartbeats 400000 in
theorem refFlip_any (b : BitVec 64) (w : World) : Calls Tryd.prog 11 #[V b] w fun e w' => e = .returned (V (flip b)) ∧ w = w' := by
  go_enter Tryd.func11, Tryd.ntmps11
  go_wp2
  go_loop [0, 3, 4] (fun x y i => ∃ (k : Nat) (z : BitVec 64), k ≤ 64 ∧ i = .int .i64 k ∧ x = V z ∧ y = V (refFlip b k) ∧ Hid (z = b >>> k)) (fun _ _ i => 64 - (intOf i).toNat)
  case atStart => exact ⟨0, b, by omega, rfl, rfl, rfl, Lib.hid (by simp)⟩
  case round =>
    obtain ⟨k, z, hk, rfl, rfl, rfl, hz⟩ := hrel
    by_cases hlt : k < 64
    · go_wp2
      go_round
      case rel => exact ⟨k + 1, z >>> 1, by omega, by go_num, by rw [q1], by rw [r2, p1, v_add, hz.out, bitOf_shift]; rfl, Lib.hid (by rw [hz.out, BitVec.shiftRight_add])⟩
      case measure => simp [intOf]; omega
    · obtain rfl : k = 64 := by omega
      go_wp2
      go_ret
      exact ⟨by rw [← refFlip_all]; rfl, rfl⟩

theorem r2k (a : BitVec 64) (k : Nat) : ((a.toNat : Int) / 2 ^ k).tmod 2 = ((bitOf a k).toNat : Int) := by
  rw [v_shr, Int.tmod_eq_emod_of_nonneg (by omega), r2, bitOf_shift]

theorem n64w (n : Int) : (wrap64 (n.tmod 64 + 64)).tmod 64 = (by64 n : Int) := by
  have h1 : n.tmod 64 < 64 := Int.tmod_lt_of_pos n (by omega)
  have h2 : -64 < n.tmod 64 := Int.lt_tmod_of_pos n (by omega)
  rw [IntWalk.wrap64_in _ ⟨by omega, by omega⟩, n64]

set_option maxHeartbeats 400000 in
theorem refTurn_any (b : BitVec 64) (n : Int) (w : World) : Calls Tryd.prog 9 #[V b, .int .i64 n] w fun e w' => e = .returned (V (rot b (by64 n))) ∧ w = w' := by
  have hs := n64w n
  obtain ⟨s, hs0⟩ : ∃ s, by64 n = s := ⟨_, rfl⟩
  have hs1 := by64_lt n
  rw [hs0] at hs hs1 ⊢
  clear hs0
  go_enter Tryd.func9, Tryd.ntmps9
  go_wp2
  go_loop [5, 6] (fun y i => ∃ k : Nat, k ≤ 64 ∧ i = .int .i64 k ∧ y = V (refTurn b s k)) (fun _ i => 64 - (intOf i).toNat)
  case atStart => exact ⟨0, by omega, rfl, rfl⟩
  case round =>
    obtain ⟨k, hk, rfl, rfl⟩ := hrel
    by_cases hlt : k < 64
    · have hm : (k + s) % 64 < 64 := by omega
      go_wp2
      go_round
      case rel => exact ⟨k + 1, by omega, by go_num, by rw [r2k, v_shl, v_add]; rfl⟩
      case measure => simp [intOf]; omega
    · obtain rfl : k = 64 := by omega
      go_wp2
      go_ret
      exact ⟨by rw [← refTurn_all b s hs1]; rfl, rfl⟩

theorem g64 (a : BitVec 64) (x : Int) (h : BitVec.ofInt 64 x = a) : IntKind.u64.wrap x = (a.toNat : Int) := by
  subst h
  rw [IntKind.wrap_u64, BitVec.toNat_ofInt]; omega
theorem gold (x : Int) : IntKind.u64.wrap (IntKind.u64.wrap x + (11400714819323198485 : Int)) = ((BitVec.ofInt 64 x + 0x9e3779b97f4a7c15#64).toNat : Int) := by
  rw [g64 _ x rfl]; exact v_add _ 0x9e3779b97f4a7c15#64

set_option maxHeartbeats 400000 in
theorem refOf_any (n : Int) (z : BitVec 64) (hz : IntKind.u64.wrap (IntKind.u64.wrap n + (11400714819323198485 : Int)) = (z.toNat : Int)) (w : World) : Calls Tryd.prog 13 #[.int .i64 n] w fun e w' => e = .returned (V (mix z)) ∧ w = w' := by
  go_enter Tryd.func13, Tryd.ntmps13
  go_wp2_with (go_at_call 7; refine (refMix_any _ _).mono ?_; rintro e w' ⟨rfl, rfl⟩)
  go_ret
  exact ⟨rfl, rfl⟩
end Go.Proofs.YtmpinbaeiknjaaaDoor
