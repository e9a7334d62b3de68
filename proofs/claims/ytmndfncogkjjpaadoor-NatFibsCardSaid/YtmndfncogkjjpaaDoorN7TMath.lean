/- How a number's digits are written, group by group: the plain mathematics. -/
import Derived.Test.YtmndfncogkjjpaaDoorL7Text
import Derived.Lib.ItoaNum
import Derived.Lib.TrimByte
namespace Go.Proofs.YtmndfncogkjjpaaDoor
open Go.Proofs.Natm

abbrev ch (d : Nat) : UInt8 := UInt8.ofNat (48 + d)
/-- the text of L places behind k groups, by its places from the left -/
def place (N L k p : Nat) : UInt8 := if L - 1 - p < 9 * k then ch (N / 10 ^ (L - 1 - p) % 10) else ch 0
def written (N L k : Nat) : List UInt8 := (List.range L).map (place N L k)
theorem written_len (N L k : Nat) : (written N L k).length = L := by simp [written]
theorem written_get (N L k p : Nat) (h : p < L) : (written N L k)[p]? = some (place N L k p) := by simp [written, h]
theorem written_none (N L : Nat) : written N L 0 = List.replicate L 48 := by
  unfold written
  apply List.ext_getElem?
  intro j
  by_cases h : j < L
  · simp [h, place]
  · simp [h]
theorem nd_le : ∀ (m u : Nat), 1 ≤ m → u < 10 ^ m → Lib.nDigits u ≤ m
  | 0, _, h, _ => absurd h (by decide)
  | m + 1, u, _, h => by
    by_cases h10 : u < 10
    · rw [Lib.nDigits_small h10]; omega
    · rw [Lib.nDigits_big h10]
      rcases Nat.eq_zero_or_pos m with h0 | h0
      · subst h0; omega
      · have := nd_le m (u / 10) h0 (by rw [Nat.pow_succ] at h; omega)
        omega
theorem pow_ten (k : Nat) : 1000000000 ^ k = 10 ^ (9 * k) := by rw [Nat.pow_mul]
theorem group_digit {N k d m : Nat} (hd : N / 1000000000 ^ k % 1000000000 = d) (hm : m < 9) : N / 10 ^ (9 * k + m) % 10 = d / 10 ^ m % 10 := by
  rw [Nat.pow_add, ← Nat.div_div_eq_div_mul, ← pow_ten, ← hd]
  generalize N / 1000000000 ^ k = M
  have h : m = 0 ∨ m = 1 ∨ m = 2 ∨ m = 3 ∨ m = 4 ∨ m = 5 ∨ m = 6 ∨ m = 7 ∨ m = 8 := by omega
  rcases h with rfl | rfl | rfl | rfl | rfl | rfl | rfl | rfl | rfl <;> simp only [Nat.reducePow] <;> omega
/-- one group more: what it writes, and what it leaves -/
theorem place_next {N L k d ld o p : Nat} (hd : N / 1000000000 ^ k % 1000000000 = d) (hl : Lib.nDigits d = ld) (ho : o + ld + 9 * k = L) (h9 : ld ≤ 9) (hp : p < L) :
    place N L (k + 1) p = if p < o then place N L k p else if p < o + ld then Lib.dg d (ld - 1 - (p - o)) else place N L k p := by
  have hlt := Lib.lt_pow_nDigits d
  rw [hl] at hlt
  unfold place
  by_cases h1 : p < o
  · rw [if_pos h1]
    obtain ⟨x, hx⟩ : ∃ x, L - 1 - p = x := ⟨_, rfl⟩
    rw [hx, if_neg (by omega : ¬ x < 9 * k)]
    by_cases h2 : x < 9 * (k + 1)
    · rw [if_pos h2]
      obtain ⟨m, rfl⟩ : ∃ m, x = 9 * k + m := ⟨x - 9 * k, by omega⟩
      rw [group_digit hd (by omega), Nat.div_eq_of_lt (Nat.lt_of_lt_of_le hlt (Nat.pow_le_pow_right (by decide) (by omega)))]
    · rw [if_neg h2]
  · rw [if_neg h1]
    by_cases h2 : p < o + ld
    · rw [if_pos h2]
      obtain ⟨m, hm⟩ : ∃ m, ld - 1 - (p - o) = m := ⟨_, rfl⟩
      have hx : L - 1 - p = 9 * k + m := by omega
      rw [hm, hx, if_pos (by omega), group_digit hd (by omega)]
      rfl
    · rw [if_neg h2, if_pos (by omega), if_pos (by omega)]
theorem dec_get {d ld i : Nat} (hl : Lib.nDigits d = ld) (hi : i < ld) : (Lib.decDigits d)[i]? = some (Lib.dg d (ld - 1 - i)) := by
  rw [Lib.decDigits_eq, hl]
  simp [hi]
theorem ch_zero : ch 0 = 48 := rfl
theorem ch_ne {d : Nat} (h1 : d ≠ 0) (h2 : d < 10) : ch d ≠ 48 := fun h => by
  have := congrArg UInt8.toNat h
  simp only [ch, UInt8.toNat_ofNat'] at this
  have h3 : (48 : UInt8).toNat = 48 := rfl
  rw [h3] at this
  omega
/-- behind all groups: without the noughts ahead it is the number's digits -/
theorem written_all {N q : Nat} (h0 : N ≠ 0) (hN : N < 1000000000 ^ q) : Lib.trimLeftB (written N (9 * q) q) 48 = ((ten N).reverse.map ch) := by
  obtain ⟨L, hL⟩ : ∃ L, 9 * q = L := ⟨_, rfl⟩
  obtain ⟨t, ht⟩ : ∃ t, Natm.size 10 N = t := ⟨_, rfl⟩
  have hNL : N < 10 ^ L := by rw [← hL, ← pow_ten]; exact hN
  have htL : t ≤ L := by rw [← ht]; exact size_le (by decide) hNL
  have ht1 : 1 ≤ t := by rw [← ht, size_pos (by decide) h0]; omega
  have hw : ∀ p, p < L → (written N L q)[p]? = some (ch (N / 10 ^ (L - 1 - p) % 10)) := fun p hp => by
    rw [written_get _ _ _ _ hp]
    unfold place
    rw [if_pos (by omega)]
  rw [hL, Lib.trimLeftB_drop _ _ (L - t) (by rw [written_len]; omega) (fun j b hj hb => ?_) (fun b hb => ?_)]
  · apply List.ext_getElem?
    intro i
    have hten : ten N = digs 10 N t := by unfold ten dig; rw [if_neg h0, ht]
    rw [List.getElem?_drop, hten]
    by_cases hi : i < t
    · rw [hw _ (by omega), List.getElem?_map, List.getElem?_reverse (by rw [digs_len]; exact hi), digs_len, digs_get _ _ _ _ (by omega)]
      rw [show L - 1 - (L - t + i) = t - 1 - i by omega]
      rfl
    · rw [List.getElem?_eq_none (by rw [written_len]; omega), List.getElem?_eq_none (by rw [List.length_map, List.length_reverse, digs_len]; omega)]
  · rw [hw _ (by omega), beyond (by decide) (by rw [ht]; omega)] at hb
    exact (Option.some.inj hb).symm
  · rw [hw _ (by omega), show L - 1 - (L - t) = t - 1 by omega] at hb
    obtain ⟨s, rfl⟩ : ∃ s, t = s + 1 := ⟨t - 1, by omega⟩
    have h3 := top (B := 10) (by decide) ht
    rw [← Option.some.inj hb]
    exact ch_ne h3 (Nat.mod_lt _ (by decide))
end Go.Proofs.YtmndfncogkjjpaaDoor
