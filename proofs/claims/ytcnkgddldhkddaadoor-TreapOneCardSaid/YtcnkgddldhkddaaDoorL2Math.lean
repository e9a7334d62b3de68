/- The plain mathematics of package order: seven codes of a number of 64 bits, each with its inverse, and how they stand; no program in it. -/
import Derived.Test.YtcnkgddldhkddaaDoorL1Math
namespace Go.Proofs.Ordm
open Go.Proofs.Mixm

def up (b : BitVec 64) : BitVec 64 := b + 0x8000000000000000#64
def unUp (c : BitVec 64) : BitVec 64 := c - 0x8000000000000000#64
def down (b : BitVec 64) : BitVec 64 := ~~~ (up b)
def unDown (c : BitVec 64) : BitVec 64 := unUp (~~~ c)
def size (b : BitVec 64) : BitVec 64 := b <<< 1 ^^^ b.sshiftRight 63
def unSize (c : BitVec 64) : BitVec 64 := c >>> 1 ^^^ (0#64 - (c &&& 1#64))
def even (b : BitVec 64) : BitVec 64 := rot (up b) 63
def unEven (c : BitVec 64) : BitVec 64 := unUp (rot c 1)
def low (b : BitVec 64) : BitVec 64 := rot (up b) 32
def unLow (c : BitVec 64) : BitVec 64 := unUp (rot c 32)
/-- the code of a key, by an order -/
def code : Nat → BitVec 64 → BitVec 64
  | 1 => up
  | 2 => down
  | 3 => size
  | 4 => flip
  | 5 => even
  | 6 => low
  | _ => mix
/-- the key of a code, by an order -/
def key : Nat → BitVec 64 → BitVec 64
  | 1 => unUp
  | 2 => unDown
  | 3 => unSize
  | 4 => flip
  | 5 => unEven
  | 6 => unLow
  | _ => unmix

theorem unUp_up (b : BitVec 64) : unUp (up b) = b := by unfold unUp up; rw [BitVec.add_sub_cancel]
theorem up_unUp (c : BitVec 64) : up (unUp c) = c := by unfold unUp up; rw [BitVec.sub_add_cancel]
theorem unDown_down (b : BitVec 64) : unDown (down b) = b := by unfold unDown down; rw [BitVec.not_not, unUp_up]
theorem down_unDown (c : BitVec 64) : down (unDown c) = c := by unfold unDown down; rw [up_unUp, BitVec.not_not]
theorem unEven_even (b : BitVec 64) : unEven (even b) = b := by
  unfold unEven even; rw [rot_rot _ _ _ (by omega) (by omega), rot_zero, unUp_up]
theorem even_unEven (c : BitVec 64) : even (unEven c) = c := by
  unfold unEven even; rw [up_unUp, rot_rot _ _ _ (by omega) (by omega), rot_zero]
theorem unLow_low (b : BitVec 64) : unLow (low b) = b := by
  unfold unLow low; rw [rot_rot _ _ _ (by omega) (by omega), rot_zero, unUp_up]
theorem low_unLow (c : BitVec 64) : low (unLow c) = c := by
  unfold unLow low; rw [up_unUp, rot_rot _ _ _ (by omega) (by omega), rot_zero]

/-! ### by size -/
theorem sar_pos (b : BitVec 64) (h : b.msb = false) : b.sshiftRight 63 = 0#64 := by
  apply BitVec.eq_of_getLsbD_eq
  intro i hi
  rw [BitVec.getLsbD_sshiftRight]
  simp only [BitVec.getLsbD_zero, h]
  by_cases h0 : i = 0
  · subst h0
    have : b.getLsbD 63 = false := by rw [← h, BitVec.msb_eq_getLsbD_last]
    simpa using this
  · rw [if_neg (by omega)]; simp
theorem sar_neg (b : BitVec 64) (h : b.msb = true) : b.sshiftRight 63 = BitVec.allOnes 64 := by
  apply BitVec.eq_of_getLsbD_eq
  intro i hi
  rw [BitVec.getLsbD_sshiftRight]
  simp only [BitVec.getLsbD_allOnes, h]
  by_cases h0 : i = 0
  · subst h0
    have : b.getLsbD 63 = true := by rw [← h, BitVec.msb_eq_getLsbD_last]
    simpa using this
  · rw [if_neg (by omega), decide_eq_false (show ¬ 64 ≤ i by omega), decide_eq_true hi]; rfl
theorem toInt_pos (b : BitVec 64) (h : b.msb = false) : b.toInt = (b.toNat : Int) ∧ b.toNat < 2 ^ 63 := by
  have := BitVec.msb_eq_false_iff_two_mul_lt.1 h
  rw [BitVec.toInt_eq_toNat_cond, if_pos this]
  exact ⟨rfl, by omega⟩
theorem toInt_neg (b : BitVec 64) (h : b.msb = true) : b.toInt = (b.toNat : Int) - 2 ^ 64 ∧ 2 ^ 63 ≤ b.toNat := by
  have := BitVec.msb_eq_true_iff_two_mul_ge.1 h
  rw [BitVec.toInt_eq_toNat_cond, if_neg (by omega)]
  exact ⟨by simp, by omega⟩
theorem size_pos (b : BitVec 64) (h : b.msb = false) : ((size b).toNat : Int) = 2 * b.toInt := by
  obtain ⟨e, l⟩ := toInt_pos b h
  unfold size
  rw [sar_pos b h, BitVec.xor_zero, BitVec.toNat_shiftLeft, Nat.shiftLeft_eq, e]
  omega
theorem size_neg (b : BitVec 64) (h : b.msb = true) : ((size b).toNat : Int) = - 2 * b.toInt - 1 := by
  obtain ⟨e, l⟩ := toInt_neg b h
  unfold size
  have := b.isLt
  rw [sar_neg b h, BitVec.xor_allOnes, BitVec.toNat_not, BitVec.toNat_shiftLeft, Nat.shiftLeft_eq, e]
  omega
theorem and_one (c : BitVec 64) : (c &&& 1#64).toNat = c.toNat % 2 := by
  rw [BitVec.toNat_and, show (1#64).toNat = 1 from rfl, Nat.and_one_is_mod]
theorem unSize_even (c : BitVec 64) (h : c.toNat % 2 = 0) : (unSize c).toInt = (c.toNat : Int) / 2 := by
  have e : c &&& 1#64 = 0#64 := BitVec.eq_of_toNat_eq (by rw [and_one, h]; rfl)
  unfold unSize
  have hc := c.isLt
  rw [e, show 0#64 - 0#64 = 0#64 from rfl, BitVec.xor_zero, BitVec.toInt_eq_toNat_of_lt (by rw [BitVec.toNat_ushiftRight, Nat.shiftRight_eq_div_pow]; omega), BitVec.toNat_ushiftRight, Nat.shiftRight_eq_div_pow]
  omega
theorem unSize_odd (c : BitVec 64) (h : c.toNat % 2 = 1) : (unSize c).toInt = - ((c.toNat : Int) / 2) - 1 := by
  have e : c &&& 1#64 = 1#64 := BitVec.eq_of_toNat_eq (by rw [and_one, h]; rfl)
  unfold unSize
  have hc := c.isLt
  rw [e, show 0#64 - 1#64 = BitVec.allOnes 64 from rfl, BitVec.xor_allOnes, BitVec.toInt_eq_toNat_cond, if_neg (by rw [BitVec.toNat_not, BitVec.toNat_ushiftRight, Nat.shiftRight_eq_div_pow]; omega), BitVec.toNat_not, BitVec.toNat_ushiftRight, Nat.shiftRight_eq_div_pow]
  omega
theorem msb_or (b : BitVec 64) : (b.msb = false ∧ 0 ≤ b.toInt) ∨ (b.msb = true ∧ b.toInt < 0) := by
  cases h : b.msb
  · have := toInt_pos b h; exact .inl ⟨rfl, by omega⟩
  · have := toInt_neg b h; have := b.isLt; exact .inr ⟨rfl, by omega⟩
theorem unSize_size (b : BitVec 64) : unSize (size b) = b := by
  apply BitVec.eq_of_toInt_eq
  rcases msb_or b with ⟨h, l⟩ | ⟨h, l⟩
  · have e := size_pos b h
    rw [unSize_even _ (by omega), e]; omega
  · have e := size_neg b h
    rw [unSize_odd _ (by omega), e]; omega
theorem size_unSize (c : BitVec 64) : size (unSize c) = c := by
  apply BitVec.eq_of_toNat_eq
  rcases Nat.mod_two_eq_zero_or_one c.toNat with h | h
  · have e := unSize_even c h
    rcases msb_or (unSize c) with ⟨h', l⟩ | ⟨h', l⟩
    · have := size_pos _ h'; omega
    · omega
  · have e := unSize_odd c h
    rcases msb_or (unSize c) with ⟨h', l⟩ | ⟨h', l⟩
    · omega
    · have := size_neg _ h'; omega

/-! ### each number is the code of just one key -/
theorem key_code (o : Nat) (b : BitVec 64) : key o (code o b) = b := by
  match o with
  | 0 => exact unmix_mix b
  | 1 => exact unUp_up b
  | 2 => exact unDown_down b
  | 3 => exact unSize_size b
  | 4 => exact flip_flip b
  | 5 => exact unEven_even b
  | 6 => exact unLow_low b
  | n + 7 => exact unmix_mix b
theorem code_key (o : Nat) (c : BitVec 64) : code o (key o c) = c := by
  match o with
  | 0 => exact mix_unmix c
  | 1 => exact up_unUp c
  | 2 => exact down_unDown c
  | 3 => exact size_unSize c
  | 4 => exact flip_flip c
  | 5 => exact even_unEven c
  | 6 => exact low_unLow c
  | n + 7 => exact mix_unmix c
theorem code_inj (o : Nat) (a b : BitVec 64) : code o a = code o b ↔ a = b :=
  ⟨fun h => by rw [← key_code o a, h, key_code], fun h => by rw [h]⟩

/-! ### how two numbers stand -/
def cmp (x y : BitVec 64) : Int := if x.toNat < y.toNat then -1 else if y.toNat < x.toNat then 1 else 0
theorem cmp_lt {x y : BitVec 64} (h : x.toNat < y.toNat) : cmp x y = -1 := by unfold cmp; rw [if_pos h]
theorem cmp_gt {x y : BitVec 64} (h : y.toNat < x.toNat) : cmp x y = 1 := by unfold cmp; rw [if_neg (by omega), if_pos h]
theorem cmp_eq {x y : BitVec 64} (h : x = y) : cmp x y = 0 := by subst h; unfold cmp; simp
theorem cmp_cases (x y : BitVec 64) : (x.toNat < y.toNat ∧ cmp x y = -1) ∨ (y.toNat < x.toNat ∧ cmp x y = 1) ∨ (x = y ∧ cmp x y = 0) := by
  rcases Nat.lt_trichotomy x.toNat y.toNat with h | h | h
  · exact .inl ⟨h, cmp_lt h⟩
  · exact .inr (.inr ⟨BitVec.eq_of_toNat_eq h, cmp_eq (BitVec.eq_of_toNat_eq h)⟩)
  · exact .inr (.inl ⟨h, cmp_gt h⟩)
/-- how two keys stand, by an order -/
def stand (o : Nat) (a b : BitVec 64) : Int := cmp (code o a) (code o b)

theorem up_toNat (b : BitVec 64) : ((up b).toNat : Int) = b.toInt + 2 ^ 63 := by
  unfold up
  have := b.isLt
  rcases msb_or b with ⟨h, _⟩ | ⟨h, _⟩
  · obtain ⟨e, l⟩ := toInt_pos b h
    rw [BitVec.toNat_add, e, show (0x8000000000000000#64).toNat = 2 ^ 63 from rfl]; omega
  · obtain ⟨e, l⟩ := toInt_neg b h
    rw [BitVec.toNat_add, e, show (0x8000000000000000#64).toNat = 2 ^ 63 from rfl]; omega
theorem down_toNat (b : BitVec 64) : ((down b).toNat : Int) = 2 ^ 63 - 1 - b.toInt := by
  unfold down
  have := up_toNat b
  have := (up b).isLt
  rw [BitVec.toNat_not]; omega
theorem size_toNat (b : BitVec 64) : ((size b).toNat : Int) = if b.toInt < 0 then - 2 * b.toInt - 1 else 2 * b.toInt := by
  rcases msb_or b with ⟨h, l⟩ | ⟨h, l⟩
  · rw [size_pos b h, if_neg (by omega)]
  · rw [size_neg b h, if_pos l]
theorem rot63 (x : BitVec 64) : (rot x 63).toNat = x.toNat / 2 + 2 ^ 63 * (x.toNat % 2) := by
  have hd : x <<< 63 &&& x >>> 1 = 0#64 := by
    apply BitVec.eq_of_getLsbD_eq
    intro i hi
    simp only [BitVec.getLsbD_and, BitVec.getLsbD_shiftLeft, BitVec.getLsbD_ushiftRight, BitVec.getLsbD_zero]
    by_cases h : i = 63
    · subst h; simp
    · have : i < 63 := by omega
      simp [this]
  have e : rot x 63 = x <<< 63 + x >>> 1 := by
    unfold rot
    rw [BitVec.add_eq_or_of_and_eq_zero _ _ hd]
  have hx := x.isLt
  rw [e, BitVec.toNat_add, BitVec.toNat_shiftLeft, BitVec.toNat_ushiftRight, Nat.shiftLeft_eq, Nat.shiftRight_eq_div_pow]
  have h2 : x.toNat * 2 ^ 63 % 2 ^ 64 = 2 ^ 63 * (x.toNat % 2) := by omega
  rw [h2]
  have := Nat.mod_lt x.toNat (show 0 < 2 by omega)
  omega
theorem even_toNat (b : BitVec 64) : ((even b).toNat : Int) = (b.toInt + 2 ^ 63) / 2 + 2 ^ 63 * (b.toInt % 2) := by
  have h := up_toNat b
  have e := rot63 (up b)
  unfold even
  rw [e]
  have h2 : (((up b).toNat % 2 : Nat) : Int) = b.toInt % 2 := by omega
  have h3 : (((up b).toNat / 2 : Nat) : Int) = (b.toInt + 2 ^ 63) / 2 := by omega
  rw [← h2, ← h3]
  simp
end Go.Proofs.Ordm
