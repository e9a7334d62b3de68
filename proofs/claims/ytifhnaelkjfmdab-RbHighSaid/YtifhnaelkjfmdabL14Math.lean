/- The plain mathematics of layer 14: trees in balance by heights, the first node that is wrong, the least tree of a height; no program in it. -/
import Derived.Test.YtifhnaelkjfmdabL10Math
namespace Go.Proofs.Treem

def Tr.tag : Tr → BitVec 64
  | .e => 0#64
  | .n _ _ _ g _ => g
/-- what is wrong with a node of this tag, above two of those: 140, 8, or nothing -/
def oneA (g p q : Nat) : Nat := if g ≠ max p q + 1 then 140 else if 1 < max p q - min p q then 8 else 0
theorem oneA_zero {g p q : Nat} : oneA g p q = 0 ↔ g = max p q + 1 ∧ max p q ≤ min p q + 1 := by
  unfold oneA
  split
  · constructor
    · intro h; cases h
    · rintro ⟨h, _⟩; contradiction
  · split
    · constructor
      · intro h; cases h
      · rintro ⟨_, h⟩; omega
    · constructor
      · intro _; exact ⟨by omega, by omega⟩
      · intro _; rfl
theorem oneA_cases (g p q : Nat) : (oneA g p q = 140 ∧ g ≠ max p q + 1) ∨ (oneA g p q = 8 ∧ g = max p q + 1 ∧ 1 < max p q - min p q) ∨ (oneA g p q = 0 ∧ g = max p q + 1 ∧ max p q - min p q ≤ 1) := by
  unfold oneA
  split
  · exact .inl ⟨rfl, by assumption⟩
  · split
    · exact .inr (.inl ⟨rfl, by omega, by assumption⟩)
    · exact .inr (.inr ⟨rfl, by omega, by omega⟩)
def rootA : Tr → Nat
  | .e => 0
  | .n l _ _ g r => oneA g.toNat l.tag.toNat r.tag.toNat
/-- how the first node is wrong (0: none is) -/
def errA : Tr → Nat
  | .e => 0
  | .n l k v g r => if rootA (.n l k v g r) ≠ 0 then rootA (.n l k v g r) else if errA l ≠ 0 then errA l else errA r
/-- its place among the beads; how many there are, if none is -/
def placeA : Tr → Nat
  | .e => 0
  | .n l k v g r => if rootA (.n l k v g r) ≠ 0 then 0 else if errA l ≠ 0 then 1 + placeA l else 1 + placeA l + placeA r
/-- a tree may be -/
def mayA (t : Tr) : Bool := errA t == 0
theorem err_cases : ∀ t : Tr, errA t = 140 ∨ errA t = 8 ∨ errA t = 0
  | .e => .inr (.inr rfl)
  | .n l k v g r => by
    have h1 := err_cases l
    have h2 := err_cases r
    have h3 : rootA (.n l k v g r) = 140 ∨ rootA (.n l k v g r) = 8 ∨ rootA (.n l k v g r) = 0 := by
      rcases oneA_cases g.toNat l.tag.toNat r.tag.toNat with ⟨h, _⟩ | ⟨h, _⟩ | ⟨h, _⟩
      · exact .inl h
      · exact .inr (.inl h)
      · exact .inr (.inr h)
    rw [errA]
    split
    · exact h3
    · split
      · exact h1
      · exact h2
theorem err_n (l : Tr) (k v g : BitVec 64) (r : Tr) : errA (.n l k v g r) = 0 ↔ rootA (.n l k v g r) = 0 ∧ errA l = 0 ∧ errA r = 0 := by
  rw [errA]
  by_cases h : rootA (.n l k v g r) = 0
  · rw [if_neg (by simp [h])]
    by_cases h1 : errA l = 0
    · rw [if_neg (by simp [h1])]; simp [h, h1]
    · rw [if_pos h1]; simp [h1]
  · rw [if_pos h]; simp [h]
theorem place_le : ∀ t : Tr, placeA t ≤ t.size
  | .e => Nat.le_refl _
  | .n l k v g r => by
    have h1 := place_le l
    have h2 := place_le r
    rw [placeA, Tr.size]
    split
    · omega
    · split <;> omega
theorem place_all : ∀ t : Tr, errA t = 0 → placeA t = t.size
  | .e, _ => rfl
  | .n l k v g r, h => by
    obtain ⟨h0, h1, h2⟩ := (err_n l k v g r).1 h
    rw [placeA, if_neg (by simp [h0]), if_neg (by simp [h1]), place_all l h1, place_all r h2, Tr.size]
/-- .. of trees that are still to be gone by, one behind the other -/
def errS : List Tr → Nat
  | [] => 0
  | t :: ts => if errA t ≠ 0 then errA t else errS ts
def placeS : List Tr → Nat
  | [] => 0
  | t :: ts => if errA t ≠ 0 then placeA t else placeA t + placeS ts
def sizeS : List Tr → Nat
  | [] => 0
  | t :: ts => t.size + sizeS ts
theorem errS_one (t : Tr) : errS [t] = errA t := by
  simp only [errS]; split <;> omega
theorem placeS_one (t : Tr) : placeS [t] = placeA t := by
  simp only [placeS]; split <;> omega
theorem errS_none (ts : List Tr) : errS (.e :: ts) = errS ts := by simp [errS, errA]
theorem placeS_none (ts : List Tr) : placeS (.e :: ts) = placeS ts := by simp [placeS, errA, placeA]
theorem errS_no {l : Tr} {k v g : BitVec 64} {r : Tr} (ts : List Tr) (h : rootA (.n l k v g r) ≠ 0) : errS (.n l k v g r :: ts) = rootA (.n l k v g r) := by
  have : errA (.n l k v g r) = rootA (.n l k v g r) := by rw [errA, if_pos h]
  rw [errS, this, if_pos h]
theorem placeS_no {l : Tr} {k v g : BitVec 64} {r : Tr} (ts : List Tr) (h : rootA (.n l k v g r) ≠ 0) : placeS (.n l k v g r :: ts) = 0 := by
  have : errA (.n l k v g r) = rootA (.n l k v g r) := by rw [errA, if_pos h]
  rw [placeS, this, if_pos h, placeA, if_pos h]
theorem errS_yes {l : Tr} {k v g : BitVec 64} {r : Tr} (ts : List Tr) (h : rootA (.n l k v g r) = 0) : errS (.n l k v g r :: ts) = errS (l :: r :: ts) := by
  simp only [errS]
  rw [show errA (.n l k v g r) = if errA l ≠ 0 then errA l else errA r from by rw [errA, if_neg (by simp [h])]]
  by_cases h1 : errA l = 0
  · simp [h1]
  · simp [h1]
theorem placeS_yes {l : Tr} {k v g : BitVec 64} {r : Tr} (ts : List Tr) (h : rootA (.n l k v g r) = 0) : placeS (.n l k v g r :: ts) = 1 + placeS (l :: r :: ts) := by
  simp only [placeS]
  rw [show errA (.n l k v g r) = if errA l ≠ 0 then errA l else errA r from by rw [errA, if_neg (by simp [h])], show placeA (.n l k v g r) = if errA l ≠ 0 then 1 + placeA l else 1 + placeA l + placeA r from by rw [placeA, if_neg (by simp [h])]]
  by_cases h1 : errA l = 0
  · by_cases h2 : errA r = 0
    · simp [h1, h2]; omega
    · simp [h1, h2]; omega
  · simp [h1]
/-- a tree that may be is as high as its tag -/
theorem may_high : ∀ t : Tr, errA t = 0 → t.tag.toNat = t.high
  | .e, _ => rfl
  | .n l k v g r, h => by
    obtain ⟨h0, h1, h2⟩ := (err_n l k v g r).1 h
    have k1 := may_high l h1
    have k2 := may_high r h2
    have k3 := (oneA_zero.1 h0).1
    rw [k1, k2] at k3
    rw [show (Tr.n l k v g r).tag = g from rfl, k3, Tr.high]; omega
/-- the fewest nodes of a height -/
def leastN : Nat → Nat
  | 0 => 0
  | 1 => 1
  | h + 2 => leastN h + leastN (h + 1) + 1
theorem least_up : ∀ h : Nat, leastN h < leastN (h + 1)
  | 0 => by simp [leastN]
  | h + 1 => by
    have := least_up h
    rw [show leastN (h + 1 + 1) = leastN h + leastN (h + 1) + 1 from rfl]; omega
theorem least_le {a b : Nat} (h : a ≤ b) : leastN a ≤ leastN b := by
  induction h with
  | refl => exact Nat.le_refl _
  | step _ ih => exact Nat.le_trans ih (Nat.le_of_lt (least_up _))
theorem may_least : ∀ t : Tr, errA t = 0 → leastN t.high ≤ t.size
  | .e, _ => Nat.le_refl _
  | .n l k v g r, h => by
    obtain ⟨h0, h1, h2⟩ := (err_n l k v g r).1 h
    have k1 := may_least l h1
    have k2 := may_least r h2
    have k3 := (oneA_zero.1 h0).2
    rw [may_high l h1, may_high r h2] at k3
    simp only [Tr.high, Tr.size]
    by_cases hz : max l.high r.high = 0
    · rw [hz]; simp [leastN]; omega
    · obtain ⟨m, hm⟩ : ∃ m, max l.high r.high = m + 1 := ⟨max l.high r.high - 1, by omega⟩
      rw [hm, show 1 + (m + 1) = m + 2 by omega, show leastN (m + 2) = leastN m + leastN (m + 1) + 1 from rfl]
      have hmin : m ≤ min l.high r.high := by omega
      rcases Nat.le_total l.high r.high with hc | hc
      · rw [Nat.max_eq_right hc] at hm
        rw [Nat.min_eq_left hc] at hmin
        rw [hm] at k2
        have := least_le hmin
        omega
      · rw [Nat.max_eq_left hc] at hm
        rw [Nat.min_eq_right hc] at hmin
        rw [hm] at k1
        have := least_le hmin
        omega
/-- few nodes, few levels -/
theorem may_levels {t : Tr} (h : errA t = 0) {m : Nat} (hs : t.size < leastN (m + 1)) : t.high ≤ m := by
  have h1 := may_least t h
  by_cases hm : t.high ≤ m
  · exact hm
  · have := least_le (show m + 1 ≤ t.high by omega)
    omega
theorem may_12 {t : Tr} (h : errA t = 0) (hs : t.size ≤ 400) : t.high ≤ 12 := may_levels h (m := 12) (by rw [show leastN (12 + 1) = 609 by decide]; omega)
/-- what is made of two -/
def tagA (l r : Tr) : BitVec 64 := BitVec.ofNat 64 (max l.tag.toNat r.tag.toNat + 1)
def makeA (l : Tr) (k v : BitVec 64) (r : Tr) : Tr := .n l k v (tagA l r) r
theorem make_may (l : Tr) (k v : BitVec 64) (r : Tr) (h1 : l.tag.toNat ≤ 1000 ∨ errA l ≠ 0) (h2 : r.tag.toNat ≤ 1000 ∨ errA r ≠ 0) : errA (makeA l k v r) = 0 ↔ errA l = 0 ∧ errA r = 0 ∧ max l.tag.toNat r.tag.toNat ≤ min l.tag.toNat r.tag.toNat + 1 := by
  rw [makeA, err_n]
  constructor
  · rintro ⟨h0, k1, k2⟩
    exact ⟨k1, k2, (oneA_zero.1 h0).2⟩
  · rintro ⟨k1, k2, k3⟩
    refine ⟨oneA_zero.2 ⟨?_, k3⟩, k1, k2⟩
    have a1 := h1.resolve_right (fun h => h k1)
    have a2 := h2.resolve_right (fun h => h k2)
    rw [tagA, BitVec.toNat_ofNat, Nat.mod_eq_of_lt (by omega)]
/-- the least tree of a height -/
def leastT : Nat → Tr
  | 0 => .e
  | 1 => makeA .e 1#64 1#64 .e
  | h + 2 => makeA (leastT h) (BitVec.ofNat 64 (h + 2)) 1#64 (leastT (h + 1))
theorem leastT_is : ∀ h : Nat, h ≤ 100 → (leastT h).tag.toNat = h ∧ errA (leastT h) = 0 ∧ (leastT h).size = leastN h
  | 0, _ => ⟨rfl, rfl, rfl⟩
  | 1, _ => ⟨by decide, by decide, rfl⟩
  | h + 2, hh => by
    obtain ⟨a1, a2, a3⟩ := leastT_is h (by omega)
    obtain ⟨b1, b2, b3⟩ := leastT_is (h + 1) (by omega)
    refine ⟨?_, ?_, ?_⟩
    · rw [leastT, makeA, Tr.tag, tagA, a1, b1, BitVec.toNat_ofNat, Nat.mod_eq_of_lt (by omega)]; omega
    · rw [leastT, make_may _ _ _ _ (.inl (by omega)) (.inl (by omega)), a1, b1]
      exact ⟨a2, b2, by omega⟩
    · rw [leastT, makeA, Tr.size, a3, b3, leastN]; omega
/-- how a tree leans -/
def leanA : Tr → BitVec 64
  | .e => 0#64
  | .n l _ _ _ r => r.tag - l.tag
theorem lean_may : ∀ t : Tr, errA t = 0 → t.size ≤ 400 → -1 ≤ (leanA t).toInt ∧ (leanA t).toInt ≤ 1
  | .e, _, _ => by decide
  | .n l k v g r, h, hs => by
    obtain ⟨h0, h1, h2⟩ := (err_n l k v g r).1 h
    have k3 := (oneA_zero.1 h0).2
    simp only [Tr.size] at hs
    have b1 := may_12 h1 (by omega)
    have b2 := may_12 h2 (by omega)
    rw [← may_high l h1] at b1
    rw [← may_high r h2] at b2
    rw [leanA, BitVec.toInt_sub, BitVec.toInt_eq_toNat_of_lt (by omega), BitVec.toInt_eq_toNat_of_lt (by omega), Int.bmod_eq_of_le (by omega) (by omega)]
    omega
theorem may_side {l : Tr} {k v g : BitVec 64} {r : Tr} (h : errA (.n l k v g r) = 0) : errA l = 0 ∧ errA r = 0 := ((err_n l k v g r).1 h).2
end Go.Proofs.Treem
