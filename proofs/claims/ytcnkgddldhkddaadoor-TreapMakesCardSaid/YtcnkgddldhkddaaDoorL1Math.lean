/- The plain mathematics of package mix: numbers of 64 bits, mixed and unmixed, turned and flipped, with no program in it. -/
import Derived.Laws.Entries
import Derived.Laws.Bits64b
namespace Go.Proofs.Mixm

/-! ### folding and mixing -/
def fold (s : Nat) (x : BitVec 64) : BitVec 64 := x ^^^ x >>> s
def c1 : BitVec 64 := 0xbf58476d1ce4e5b9#64
def c2 : BitVec 64 := 0x94d049bb133111eb#64
def i1 : BitVec 64 := 0x96de1b173f119089#64
def i2 : BitVec 64 := 0x319642b2d24d8ec3#64
def mix (x : BitVec 64) : BitVec 64 := fold 31 (fold 27 (fold 30 x * c1) * c2)
def unf (s : Nat) (x : BitVec 64) : BitVec 64 := fold (2 * s) (fold s x)
def unmix (x : BitVec 64) : BitVec 64 := unf 30 (unf 27 (unf 31 x * i2) * i1)

theorem fold_fold (s t : Nat) (x : BitVec 64) : fold s (fold t x) = fold t (fold s x) := by
  unfold fold
  apply BitVec.eq_of_getLsbD_eq
  intro i hi
  simp only [BitVec.getLsbD_xor, BitVec.getLsbD_ushiftRight]
  rw [show t + (s + i) = s + (t + i) by omega]
  cases x.getLsbD i <;> cases x.getLsbD (s + i) <;> cases x.getLsbD (t + i) <;> simp
theorem fold_twice (s : Nat) (x : BitVec 64) : fold s (fold s x) = fold (2 * s) x := by
  unfold fold
  apply BitVec.eq_of_getLsbD_eq
  intro i hi
  simp only [BitVec.getLsbD_xor, BitVec.getLsbD_ushiftRight]
  rw [show s + (s + i) = 2 * s + i by omega]
  cases x.getLsbD i <;> cases x.getLsbD (s + i) <;> simp
theorem fold_big (s : Nat) (h : 64 ≤ s) (x : BitVec 64) : fold s x = x := by
  unfold fold
  apply BitVec.eq_of_getLsbD_eq
  intro i hi
  simp only [BitVec.getLsbD_xor, BitVec.getLsbD_ushiftRight]
  rw [BitVec.getLsbD_of_ge x (s + i) (by omega)]
  simp
theorem unf_fold (s : Nat) (h : 16 ≤ s) (x : BitVec 64) : unf s (fold s x) = x := by
  unfold unf
  rw [fold_twice, fold_twice, fold_big _ (by omega)]
theorem fold_unf (s : Nat) (h : 16 ≤ s) (x : BitVec 64) : fold s (unf s x) = x := by
  unfold unf
  rw [fold_fold, fold_twice, fold_twice, fold_big _ (by omega)]
theorem c1_i1 : c1 * i1 = 1#64 := by decide
theorem c2_i2 : c2 * i2 = 1#64 := by decide
theorem unmix_mix (x : BitVec 64) : unmix (mix x) = x := by
  unfold unmix mix
  rw [unf_fold 31 (by omega), BitVec.mul_assoc, c2_i2, BitVec.mul_one, unf_fold 27 (by omega), BitVec.mul_assoc, c1_i1, BitVec.mul_one, unf_fold 30 (by omega)]
theorem mix_unmix (x : BitVec 64) : mix (unmix x) = x := by
  unfold unmix mix
  rw [fold_unf 30 (by omega), BitVec.mul_assoc, BitVec.mul_comm i1, c1_i1, BitVec.mul_one, fold_unf 27 (by omega), BitVec.mul_assoc, BitVec.mul_comm i2, c2_i2, BitVec.mul_one, fold_unf 31 (by omega)]
theorem mix_inj (x y : BitVec 64) : mix x = mix y ↔ x = y :=
  ⟨fun h => by rw [← unmix_mix x, h, unmix_mix], fun h => by rw [h]⟩
theorem unmix_inj (x y : BitVec 64) : unmix x = unmix y ↔ x = y :=
  ⟨fun h => by rw [← mix_unmix x, h, mix_unmix], fun h => by rw [h]⟩

/-! ### turning -/
def rot (x : BitVec 64) (s : Nat) : BitVec 64 := x <<< s ||| x >>> (64 - s)
theorem bit_rot (x : BitVec 64) (s i : Nat) (hs : s < 64) (hi : i < 64) : (rot x s).getLsbD i = x.getLsbD ((i + 64 - s) % 64) := by
  unfold rot
  simp only [BitVec.getLsbD_or, BitVec.getLsbD_shiftLeft, BitVec.getLsbD_ushiftRight, hi, decide_true, Bool.true_and]
  by_cases h : i < s
  · rw [show (i + 64 - s) % 64 = 64 - s + i by omega]; simp [h]
  · rw [show (i + 64 - s) % 64 = i - s by omega, BitVec.getLsbD_of_ge x (64 - s + i) (by omega)]; simp [h]
theorem rot_rot (x : BitVec 64) (s t : Nat) (hs : s < 64) (ht : t < 64) : rot (rot x s) t = rot x ((s + t) % 64) := by
  apply BitVec.eq_of_getLsbD_eq
  intro i hi
  rw [bit_rot _ _ _ ht hi, bit_rot _ _ _ hs (by omega), bit_rot _ _ _ (by omega) hi]
  congr 1; omega
theorem rot_zero (x : BitVec 64) : rot x 0 = x := by
  apply BitVec.eq_of_getLsbD_eq
  intro i hi
  rw [bit_rot _ _ _ (by omega) hi]
  congr 1; omega
/-- how far n turns -/
def by64 (n : Int) : Nat := (n % 64).toNat
theorem by64_lt (n : Int) : by64 n < 64 := by unfold by64; omega

/-! ### flipping -/
def swap (m : BitVec 64) (s : Nat) (x : BitVec 64) : BitVec 64 := (x >>> s &&& m) ||| ((x &&& m) <<< s)
def flipA (x : BitVec 64) : BitVec 64 := swap 0x0f0f0f0f0f0f0f0f#64 4 (swap 0x3333333333333333#64 2 (swap 0x5555555555555555#64 1 x))
def flipB (x : BitVec 64) : BitVec 64 :=
  let y := swap 0x0000ffff0000ffff#64 16 (swap 0x00ff00ff00ff00ff#64 8 x)
  y >>> 32 ||| y <<< 32
def flip (x : BitVec 64) : BitVec 64 := flipB (flipA x)
def swaps (m : BitVec 64) (s : Nat) : Prop := ∀ i, i < 64 → (m.getLsbD i = true ∧ (s ≤ i → m.getLsbD (i - s) = false) ∧ i ^^^ s = i + s) ∨ (m.getLsbD i = false ∧ s ≤ i ∧ m.getLsbD (i - s) = true ∧ i ^^^ s = i - s)
instance (m : BitVec 64) (s : Nat) : Decidable (swaps m s) := by unfold swaps; exact inferInstance
theorem bit_swap {m : BitVec 64} {s : Nat} (h : swaps m s) (x : BitVec 64) (i : Nat) (hi : i < 64) : (swap m s x).getLsbD i = x.getLsbD (i ^^^ s) := by
  unfold swap
  simp only [BitVec.getLsbD_or, BitVec.getLsbD_and, BitVec.getLsbD_shiftLeft, BitVec.getLsbD_ushiftRight, hi, decide_true, Bool.true_and]
  rcases h i hi with ⟨h1, h2, h3⟩ | ⟨h1, h2, h3, h4⟩
  · rw [h3, h1, Nat.add_comm s i]
    by_cases hs : s ≤ i
    · simp [h2 hs]
    · simp; omega
  · rw [h4, h1, h3]; simp; omega
theorem sw1 : swaps 0x5555555555555555#64 1 := by decide
theorem sw2 : swaps 0x3333333333333333#64 2 := by decide
theorem sw4 : swaps 0x0f0f0f0f0f0f0f0f#64 4 := by decide
theorem sw8 : swaps 0x00ff00ff00ff00ff#64 8 := by decide
theorem sw16 : swaps 0x0000ffff0000ffff#64 16 := by decide
theorem xors : ∀ i, i < 64 → i ^^^ 1 < 64 ∧ i ^^^ 2 < 64 ∧ i ^^^ 4 < 64 ∧ i ^^^ 8 < 64 ∧ i ^^^ 16 < 64 ∧ ((i < 32 → (i + 32) ^^^ 16 ^^^ 8 ^^^ 4 ^^^ 2 ^^^ 1 = 63 - i) ∧ (32 ≤ i → (i - 32) ^^^ 16 ^^^ 8 ^^^ 4 ^^^ 2 ^^^ 1 = 63 - i)) := by decide
theorem bit_five (x : BitVec 64) (i : Nat) (hi : i < 64) : (swap 0x0000ffff0000ffff#64 16 (swap 0x00ff00ff00ff00ff#64 8 (flipA x))).getLsbD i = x.getLsbD (i ^^^ 16 ^^^ 8 ^^^ 4 ^^^ 2 ^^^ 1) := by
  have h16 := (xors i hi).2.2.2.2.1
  have h8 := (xors _ h16).2.2.2.1
  have h4 := (xors _ h8).2.2.1
  have h2 := (xors _ h4).2.1
  unfold flipA
  rw [bit_swap sw16 _ _ hi, bit_swap sw8 _ _ h16, bit_swap sw4 _ _ h8, bit_swap sw2 _ _ h4, bit_swap sw1 _ _ h2]
theorem bit_flip (x : BitVec 64) (i : Nat) (hi : i < 64) : (flip x).getLsbD i = x.getLsbD (63 - i) := by
  unfold flip flipB
  simp only [BitVec.getLsbD_or, BitVec.getLsbD_shiftLeft, BitVec.getLsbD_ushiftRight, hi, decide_true, Bool.true_and]
  by_cases h : i < 32
  · rw [Nat.add_comm 32 i, bit_five x (i + 32) (by omega), (xors i hi).2.2.2.2.2.1 h]; simp [h]
  · rw [BitVec.getLsbD_of_ge _ (32 + i) (by omega), bit_five x (i - 32) (by omega), (xors i hi).2.2.2.2.2.2 (by omega)]; simp [h]
theorem flip_flip (x : BitVec 64) : flip (flip x) = x := by
  apply BitVec.eq_of_getLsbD_eq
  intro i hi
  rw [bit_flip _ _ hi, bit_flip _ _ (by omega)]
  congr 1; omega
theorem flip_rot (x : BitVec 64) (s t : Nat) (hs : s < 64) (ht : t < 64) (h : (s + t) % 64 = 0) : flip (rot x s) = rot (flip x) t := by
  apply BitVec.eq_of_getLsbD_eq
  intro i hi
  rw [bit_flip _ _ hi, bit_rot _ _ _ hs (by omega), bit_rot _ _ _ ht hi, bit_flip _ _ (by omega)]
  congr 1; omega

/-! ### the document's answers, bit by bit -/
/-- one bit of x, as a number -/
def bitOf (x : BitVec 64) (k : Nat) : BitVec 64 := (x >>> k) &&& 1#64
theorem bit_bitOf (x : BitVec 64) (k i : Nat) : (bitOf x k).getLsbD i = (decide (i = 0) && x.getLsbD k) := by
  unfold bitOf
  simp only [BitVec.getLsbD_and, BitVec.getLsbD_ushiftRight, BitVec.getLsbD_one]
  by_cases h : i = 0 <;> simp [h]
/-- what the document's Flip has behind k rounds -/
def refFlip (x : BitVec 64) : Nat → BitVec 64
  | 0 => 0#64
  | k + 1 => refFlip x k <<< 1 + bitOf x k
theorem bit_refFlip (x : BitVec 64) : ∀ (k i : Nat), i < 64 → (refFlip x k).getLsbD i = (decide (i < k) && x.getLsbD (k - 1 - i))
  | 0, i, _ => by simp [refFlip]
  | k + 1, i, hi => by
    have hd : refFlip x k <<< 1 &&& bitOf x k = 0#64 := by
      apply BitVec.eq_of_getLsbD_eq
      intro i hi
      simp only [BitVec.getLsbD_and, BitVec.getLsbD_shiftLeft, bit_bitOf]
      by_cases h : i = 0 <;> simp [h]
    unfold refFlip
    rw [BitVec.add_eq_or_of_and_eq_zero _ _ hd, BitVec.getLsbD_or, BitVec.getLsbD_shiftLeft, bit_bitOf]
    by_cases h : i = 0
    · subst h; simp
    · rw [bit_refFlip x k _ (by omega)]
      have e1 : decide (i < 1) = false := by simp; omega
      have e2 : decide (i - 1 < k) = decide (i < k + 1) := by simp; omega
      rw [e1, e2, show k - 1 - (i - 1) = k + 1 - 1 - i by omega]
      simp [h, hi]
theorem refFlip_all (x : BitVec 64) : refFlip x 64 = flip x := by
  apply BitVec.eq_of_getLsbD_eq
  intro i hi
  rw [bit_refFlip _ _ _ hi, bit_flip _ _ hi]
  simp [hi]
/-- what the document's Turn has behind k rounds -/
def refTurn (x : BitVec 64) (s : Nat) : Nat → BitVec 64
  | 0 => 0#64
  | k + 1 => refTurn x s k + bitOf x k <<< ((k + s) % 64)
theorem bit_refTurn (x : BitVec 64) (s : Nat) (hs : s < 64) : ∀ (k i : Nat), k ≤ 64 → i < 64 → (refTurn x s k).getLsbD i = (decide ((i + 64 - s) % 64 < k) && x.getLsbD ((i + 64 - s) % 64))
  | 0, i, _, _ => by simp [refTurn]
  | k + 1, i, hk, hi => by
    have hm : ((k + s) % 64 + 64 - s) % 64 = k := by omega
    have hb : ∀ i, i < 64 → (bitOf x k <<< ((k + s) % 64)).getLsbD i = (decide (i = (k + s) % 64) && x.getLsbD k) := by
      intro i hi
      rw [BitVec.getLsbD_shiftLeft, bit_bitOf]
      by_cases h : i = (k + s) % 64
      · subst h; simp [Nat.mod_lt]
      · by_cases h2 : i < (k + s) % 64
        · simp [h2, h]
        · have : ¬ (i - (k + s) % 64 = 0) := by omega
          simp [this, h]
    have hd : refTurn x s k &&& bitOf x k <<< ((k + s) % 64) = 0#64 := by
      apply BitVec.eq_of_getLsbD_eq
      intro i hi
      rw [BitVec.getLsbD_and, hb i hi, bit_refTurn x s hs k i (by omega) hi]
      by_cases h : i = (k + s) % 64
      · subst h; rw [hm]; simp
      · simp [h]
    unfold refTurn
    rw [BitVec.add_eq_or_of_and_eq_zero _ _ hd, BitVec.getLsbD_or, hb i hi, bit_refTurn x s hs k i (by omega) hi]
    by_cases h : i = (k + s) % 64
    · subst h; rw [hm]; simp
    · have : (i + 64 - s) % 64 ≠ k := by omega
      have e : decide ((i + 64 - s) % 64 < k + 1) = decide ((i + 64 - s) % 64 < k) := by simp; omega
      rw [e]; simp [h]
theorem refTurn_all (x : BitVec 64) (s : Nat) (hs : s < 64) : refTurn x s 64 = rot x s := by
  apply BitVec.eq_of_getLsbD_eq
  intro i hi
  rw [bit_refTurn _ _ hs _ _ (by omega) hi, bit_rot _ _ _ hs hi]
  simp [Nat.mod_lt]

/-! ### how the model says it -/
theorem toInt_lt (a : BitVec 64) : (a.toNat : Int) < 18446744073709551616 := by have := a.isLt; omega
theorem v_xor (a b : BitVec 64) : bits .xor .u64 (a.toNat : Int) (b.toNat : Int) = ((a ^^^ b).toNat : Int) := by
  rw [bits_xor_u64_nat _ _ a.isLt b.isLt, BitVec.toNat_xor]
theorem v_and (a b : BitVec 64) : bits .and .u64 (a.toNat : Int) (b.toNat : Int) = ((a &&& b).toNat : Int) := by
  rw [bits_and_u64_nat _ _ a.isLt b.isLt, BitVec.toNat_and]
theorem v_or (a b : BitVec 64) : bits .or .u64 (a.toNat : Int) (b.toNat : Int) = ((a ||| b).toNat : Int) := by
  rw [bits_or_u64_nat _ _ a.isLt b.isLt, BitVec.toNat_or]
theorem v_mul (a b : BitVec 64) : IntKind.u64.wrap ((a.toNat : Int) * (b.toNat : Int)) = ((a * b).toNat : Int) := by
  rw [IntKind.wrap_u64, BitVec.toNat_mul]
  simp only [Int.natCast_emod, Int.natCast_mul]
  rfl
theorem v_add (a b : BitVec 64) : IntKind.u64.wrap ((a.toNat : Int) + (b.toNat : Int)) = ((a + b).toNat : Int) := by
  rw [IntKind.wrap_u64, BitVec.toNat_add]; omega
theorem v_sub (a b : BitVec 64) : IntKind.u64.wrap ((a.toNat : Int) - (b.toNat : Int)) = ((a - b).toNat : Int) := by
  have := a.isLt; have := b.isLt
  rw [IntKind.wrap_u64, BitVec.toNat_sub]; omega
theorem v_shr (a : BitVec 64) (s : Nat) : (a.toNat : Int) / 2 ^ s = ((a >>> s).toNat : Int) := by
  rw [BitVec.toNat_ushiftRight, Nat.shiftRight_eq_div_pow]; simp
theorem v_shl (a : BitVec 64) (s : Nat) : IntKind.u64.wrap ((a.toNat : Int) * 2 ^ s) = ((a <<< s).toNat : Int) := by
  rw [IntKind.wrap_u64, BitVec.toNat_shiftLeft, Nat.shiftLeft_eq]
  simp only [Int.natCast_emod, Int.natCast_mul, Int.natCast_pow]
  rfl
theorem v_wrap (a : BitVec 64) : IntKind.u64.wrap (a.toNat : Int) = (a.toNat : Int) := by
  have := a.isLt
  rw [IntKind.wrap_u64]; omega
theorem v_eq (a b : BitVec 64) : ((a.toNat : Int) == (b.toNat : Int)) = decide (a = b) := by
  by_cases h : a = b
  · subst h; simp
  · have : a.toNat ≠ b.toNat := fun e => h (BitVec.eq_of_toNat_eq e)
    simp [h]; omega
end Go.Proofs.Mixm
