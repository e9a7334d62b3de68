/- Joins, either way round: a tree by its outer and its inner side, its pairs from the outer end, the way inward; what of it is new. -/
import Derived.Test.YtfbmpgffekhmhaaL10Math
import Derived.Test.YtfbmpgffekhmhaaL9Stand
import Derived.Test.YtfbmpgffekhmhaaL9Steps
import Derived.Test.YtfbmpgffekhmhaaL9High
import Derived.IntWalk
import Derived.Test.YtfbmpgffekhmhaaL9Make
import Derived.Test.YtfbmpgffekhmhaaL4Row
import Derived.Test.YtfbmpgffekhmhaaGApp
import Derived.Deep.QuietTactic
import Derived.BigQuiet
import Derived.Outline
import Derived.Test.YtfbmpgffekhmhaaL9Of
import Derived.Deep.RegionLaw
import Derived.Test.YtfbmpgffekhmhaaL9Math
import Derived.Test.YtfbmpgffekhmhaaL9At
import Derived.Test.YtfbmpgffekhmhaaGOwn
import Derived.Test.YtfbmpgffekhmhaaL9Tells
import Derived.Test.YtfbmpgffekhmhaaGPtrOld
import Derived.Test.YtfbmpgffekhmhaaGFrom
import Derived.Test.YtfbmpgffekhmhaaGApart
import Derived.Shelf.Abstract
/- The plain mathematics of layer 14: trees in balance by heights, the first node that is wrong, the least tree of a height; no program in it. -/
namespace Go.Proofs.Treem

def Tr.tag : Tr → BitVec 64
  | .e => 0#64
  | .n _ _ _ g _ => g
/-- what is wrong with a node of this tag, above two of those: 140, 8, or nothing -/
def oneA (g p q : Nat) : Nat := if g ≠ max p q + 1 then 140 else if 1 < max p q - min p q then 8 else 0
theorem oneA_zero {g p q : Nat} : oneA g p q = 0 ↔ g = max p q + 1 ∧ max p q ≤ min p q + 1 := by
  unfold oneA
  split
  · constructor
    · intro h; cases h
    · rintro ⟨h, _⟩; contradiction
  · split
    · constructor
      · intro h; cases h
      · rintro ⟨_, h⟩; omega
    · constructor
      · intro _; exact ⟨by omega, by omega⟩
      · intro _; rfl
theorem oneA_cases (g p q : Nat) : (oneA g p q = 140 ∧ g ≠ max p q + 1) ∨ (oneA g p q = 8 ∧ g = max p q + 1 ∧ 1 < max p q - min p q) ∨ (oneA g p q = 0 ∧ g = max p q + 1 ∧ max p q - min p q ≤ 1) := by
  unfold oneA
  split
  · exact .inl ⟨rfl, by assumption⟩
  · split
    · exact .inr (.inl ⟨rfl, by omega, by assumption⟩)
    · exact .inr (.inr ⟨rfl, by omega, by omega⟩)
def rootA : Tr → Nat
  | .e => 0
  | .n l _ _ g r => oneA g.toNat l.tag.toNat r.tag.toNat
/-- how the first node is wrong (0: none is) -/
def errA : Tr → Nat
  | .e => 0
  | .n l k v g r => if rootA (.n l k v g r) ≠ 0 then rootA (.n l k v g r) else if errA l ≠ 0 then errA l else errA r
/-- its place among the beads; how many there are, if none is -/
def placeA : Tr → Nat
  | .e => 0
  | .n l k v g r => if rootA (.n l k v g r) ≠ 0 then 0 else if errA l ≠ 0 then 1 + placeA l else 1 + placeA l + placeA r
/-- a tree may be -/
def mayA (t : Tr) : Bool := errA t == 0
theorem err_cases : ∀ t : Tr, errA t = 140 ∨ errA t = 8 ∨ errA t = 0
  | .e => .inr (.inr rfl)
  | .n l k v g r => by
    have h1 := err_cases l
    have h2 := err_cases r
    have h3 : rootA (.n l k v g r) = 140 ∨ rootA (.n l k v g r) = 8 ∨ rootA (.n l k v g r) = 0 := by
      rcases oneA_cases g.toNat l.tag.toNat r.tag.toNat with ⟨h, _⟩ | ⟨h, _⟩ | ⟨h, _⟩
      · exact .inl h
      · exact .inr (.inl h)
      · exact .inr (.inr h)
    rw [errA]
    split
    · exact h3
    · split
      · exact h1
      · exact h2
theorem err_n (l : Tr) (k v g : BitVec 64) (r : Tr) : errA (.n l k v g r) = 0 ↔ rootA (.n l k v g r) = 0 ∧ errA l = 0 ∧ errA r = 0 := by
  rw [errA]
  by_cases h : rootA (.n l k v g r) = 0
  · rw [if_neg (by simp [h])]
    by_cases h1 : errA l = 0
    · rw [if_neg (by simp [h1])]; simp [h, h1]
    · rw [if_pos h1]; simp [h1]
  · rw [if_pos h]; simp [h]
theorem place_le : ∀ t : Tr, placeA t ≤ t.size
  | .e => Nat.le_refl _
  | .n l k v g r => by
    have h1 := place_le l
    have h2 := place_le r
    rw [placeA, Tr.size]
    split
    · omega
    · split <;> omega
theorem place_all : ∀ t : Tr, errA t = 0 → placeA t = t.size
  | .e, _ => rfl
  | .n l k v g r, h => by
    obtain ⟨h0, h1, h2⟩ := (err_n l k v g r).1 h
    rw [placeA, if_neg (by simp [h0]), if_neg (by simp [h1]), place_all l h1, place_all r h2, Tr.size]
/-- .. of trees that are still to be gone by, one behind the other -/
def errS : List Tr → Nat
  | [] => 0
  | t :: ts => if errA t ≠ 0 then errA t else errS ts
def placeS : List Tr → Nat
  | [] => 0
  | t :: ts => if errA t ≠ 0 then placeA t else placeA t + placeS ts
def sizeS : List Tr → Nat
  | [] => 0
  | t :: ts => t.size + sizeS ts
theorem errS_one (t : Tr) : errS [t] = errA t := by
  simp only [errS]; split <;> omega
theorem placeS_one (t : Tr) : placeS [t] = placeA t := by
  simp only [placeS]; split <;> omega
theorem errS_none (ts : List Tr) : errS (.e :: ts) = errS ts := by simp [errS, errA]
theorem placeS_none (ts : List Tr) : placeS (.e :: ts) = placeS ts := by simp [placeS, errA, placeA]
theorem errS_no {l : Tr} {k v g : BitVec 64} {r : Tr} (ts : List Tr) (h : rootA (.n l k v g r) ≠ 0) : errS (.n l k v g r :: ts) = rootA (.n l k v g r) := by
  have : errA (.n l k v g r) = rootA (.n l k v g r) := by rw [errA, if_pos h]
  rw [errS, this, if_pos h]
theorem placeS_no {l : Tr} {k v g : BitVec 64} {r : Tr} (ts : List Tr) (h : rootA (.n l k v g r) ≠ 0) : placeS (.n l k v g r :: ts) = 0 := by
  have : errA (.n l k v g r) = rootA (.n l k v g r) := by rw [errA, if_pos h]
  rw [placeS, this, if_pos h, placeA, if_pos h]
theorem errS_yes {l : Tr} {k v g : BitVec 64} {r : Tr} (ts : List Tr) (h : rootA (.n l k v g r) = 0) : errS (.n l k v g r :: ts) = errS (l :: r :: ts) := by
  simp only [errS]
  rw [show errA (.n l k v g r) = if errA l ≠ 0 then errA l else errA r from by rw [errA, if_neg (by simp [h])]]
  by_cases h1 : errA l = 0
  · simp [h1]
  · simp [h1]
theorem placeS_yes {l : Tr} {k v g : BitVec 64} {r : Tr} (ts : List Tr) (h : rootA (.n l k v g r) = 0) : placeS (.n l k v g r :: ts) = 1 + placeS (l :: r :: ts) := by
  simp only [placeS]
  rw [show errA (.n l k v g r) = if errA l ≠ 0 then errA l else errA r from by rw [errA, if_neg (by simp [h])], show placeA (.n l k v g r) = if errA l ≠ 0 then 1 + placeA l else 1 + placeA l + placeA r from by rw [placeA, if_neg (by simp [h])]]
  by_cases h1 : errA l = 0
  · by_cases h2 : errA r = 0
    · simp [h1, h2]; omega
    · simp [h1, h2]; omega
  · simp [h1]
/-- a tree that may be is as high as its tag -/
theorem may_high : ∀ t : Tr, errA t = 0 → t.tag.toNat = t.high
  | .e, _ => rfl
  | .n l k v g r, h => by
    obtain ⟨h0, h1, h2⟩ := (err_n l k v g r).1 h
    have k1 := may_high l h1
    have k2 := may_high r h2
    have k3 := (oneA_zero.1 h0).1
    rw [k1, k2] at k3
    rw [show (Tr.n l k v g r).tag = g from rfl, k3, Tr.high]; omega
/-- the fewest nodes of a height -/
def leastN : Nat → Nat
  | 0 => 0
  | 1 => 1
  | h + 2 => leastN h + leastN (h + 1) + 1
theorem least_up : ∀ h : Nat, leastN h < leastN (h + 1)
  | 0 => by simp [leastN]
  | h + 1 => by
    have := least_up h
    rw [show leastN (h + 1 + 1) = leastN h + leastN (h + 1) + 1 from rfl]; omega
theorem least_le {a b : Nat} (h : a ≤ b) : leastN a ≤ leastN b := by
  induction h with
  | refl => exact Nat.le_refl _
  | step _ ih => exact Nat.le_trans ih (Nat.le_of_lt (least_up _))
theorem may_least : ∀ t : Tr, errA t = 0 → leastN t.high ≤ t.size
  | .e, _ => Nat.le_refl _
  | .n l k v g r, h => by
    obtain ⟨h0, h1, h2⟩ := (err_n l k v g r).1 h
    have k1 := may_least l h1
    have k2 := may_least r h2
    have k3 := (oneA_zero.1 h0).2
    rw [may_high l h1, may_high r h2] at k3
    simp only [Tr.high, Tr.size]
    by_cases hz : max l.high r.high = 0
    · rw [hz]; simp [leastN]; omega
    · obtain ⟨m, hm⟩ : ∃ m, max l.high r.high = m + 1 := ⟨max l.high r.high - 1, by omega⟩
      rw [hm, show 1 + (m + 1) = m + 2 by omega, show leastN (m + 2) = leastN m + leastN (m + 1) + 1 from rfl]
      have hmin : m ≤ min l.high r.high := by omega
      rcases Nat.le_total l.high r.high with hc | hc
      · rw [Nat.max_eq_right hc] at hm
        rw [Nat.min_eq_left hc] at hmin
        rw [hm] at k2
        have := least_le hmin
        omega
      · rw [Nat.max_eq_left hc] at hm
        rw [Nat.min_eq_right hc] at hmin
        rw [hm] at k1
        have := least_le hmin
        omega
/-- few nodes, few levels -/
theorem may_levels {t : Tr} (h : errA t = 0) {m : Nat} (hs : t.size < leastN (m + 1)) : t.high ≤ m := by
  have h1 := may_least t h
  by_cases hm : t.high ≤ m
  · exact hm
  · have := least_le (show m + 1 ≤ t.high by omega)
    omega
theorem may_12 {t : Tr} (h : errA t = 0) (hs : t.size ≤ 400) : t.high ≤ 12 := may_levels h (m := 12) (by rw [show leastN (12 + 1) = 609 by decide]; omega)
/-- what is made of two -/
def tagA (l r : Tr) : BitVec 64 := BitVec.ofNat 64 (max l.tag.toNat r.tag.toNat + 1)
def makeA (l : Tr) (k v : BitVec 64) (r : Tr) : Tr := .n l k v (tagA l r) r
theorem make_may (l : Tr) (k v : BitVec 64) (r : Tr) (h1 : l.tag.toNat ≤ 1000 ∨ errA l ≠ 0) (h2 : r.tag.toNat ≤ 1000 ∨ errA r ≠ 0) : errA (makeA l k v r) = 0 ↔ errA l = 0 ∧ errA r = 0 ∧ max l.tag.toNat r.tag.toNat ≤ min l.tag.toNat r.tag.toNat + 1 := by
  rw [makeA, err_n]
  constructor
  · rintro ⟨h0, k1, k2⟩
    exact ⟨k1, k2, (oneA_zero.1 h0).2⟩
  · rintro ⟨k1, k2, k3⟩
    refine ⟨oneA_zero.2 ⟨?_, k3⟩, k1, k2⟩
    have a1 := h1.resolve_right (fun h => h k1)
    have a2 := h2.resolve_right (fun h => h k2)
    rw [tagA, BitVec.toNat_ofNat, Nat.mod_eq_of_lt (by omega)]
/-- the least tree of a height -/
def leastT : Nat → Tr
  | 0 => .e
  | 1 => makeA .e 1#64 1#64 .e
  | h + 2 => makeA (leastT h) (BitVec.ofNat 64 (h + 2)) 1#64 (leastT (h + 1))
theorem leastT_is : ∀ h : Nat, h ≤ 100 → (leastT h).tag.toNat = h ∧ errA (leastT h) = 0 ∧ (leastT h).size = leastN h
  | 0, _ => ⟨rfl, rfl, rfl⟩
  | 1, _ => ⟨by decide, by decide, rfl⟩
  | h + 2, hh => by
    obtain ⟨a1, a2, a3⟩ := leastT_is h (by omega)
    obtain ⟨b1, b2, b3⟩ := leastT_is (h + 1) (by omega)
    refine ⟨?_, ?_, ?_⟩
    · rw [leastT, makeA, Tr.tag, tagA, a1, b1, BitVec.toNat_ofNat, Nat.mod_eq_of_lt (by omega)]; omega
    · rw [leastT, make_may _ _ _ _ (.inl (by omega)) (.inl (by omega)), a1, b1]
      exact ⟨a2, b2, by omega⟩
    · rw [leastT, makeA, Tr.size, a3, b3, leastN]; omega
/-- how a tree leans -/
def leanA : Tr → BitVec 64
  | .e => 0#64
  | .n l _ _ _ r => r.tag - l.tag
theorem lean_may : ∀ t : Tr, errA t = 0 → t.size ≤ 400 → -1 ≤ (leanA t).toInt ∧ (leanA t).toInt ≤ 1
  | .e, _, _ => by decide
  | .n l k v g r, h, hs => by
    obtain ⟨h0, h1, h2⟩ := (err_n l k v g r).1 h
    have k3 := (oneA_zero.1 h0).2
    simp only [Tr.size] at hs
    have b1 := may_12 h1 (by omega)
    have b2 := may_12 h2 (by omega)
    rw [← may_high l h1] at b1
    rw [← may_high r h2] at b2
    rw [leanA, BitVec.toInt_sub, BitVec.toInt_eq_toNat_of_lt (by omega), BitVec.toInt_eq_toNat_of_lt (by omega), Int.bmod_eq_of_le (by omega) (by omega)]
    omega
theorem may_side {l : Tr} {k v g : BitVec 64} {r : Tr} (h : errA (.n l k v g r) = 0) : errA l = 0 ∧ errA r = 0 := ((err_n l k v g r).1 h).2
end Go.Proofs.Treem
/- The first node that is wrong, by any judgement of a node; no program in it. -/
namespace Go.Proofs.Treem

def errF (f : Tr → Nat) : Tr → Nat
  | .e => 0
  | .n l k v g r => if f (.n l k v g r) ≠ 0 then f (.n l k v g r) else if errF f l ≠ 0 then errF f l else errF f r
def placeF (f : Tr → Nat) : Tr → Nat
  | .e => 0
  | .n l k v g r => if f (.n l k v g r) ≠ 0 then 0 else if errF f l ≠ 0 then 1 + placeF f l else 1 + placeF f l + placeF f r
def errL (f : Tr → Nat) : List Tr → Nat
  | [] => 0
  | t :: ts => if errF f t ≠ 0 then errF f t else errL f ts
def placeL (f : Tr → Nat) : List Tr → Nat
  | [] => 0
  | t :: ts => if errF f t ≠ 0 then placeF f t else placeF f t + placeL f ts
section
variable {f : Tr → Nat}
theorem errF_A : ∀ t : Tr, errF rootA t = errA t
  | .e => rfl
  | .n l k v g r => by rw [errF, errA, errF_A l, errF_A r]
theorem placeF_A : ∀ t : Tr, placeF rootA t = placeA t
  | .e => rfl
  | .n l k v g r => by rw [placeF, placeA, errF_A l, placeF_A l, placeF_A r]
theorem errF_n (l : Tr) (k v g : BitVec 64) (r : Tr) : errF f (.n l k v g r) = 0 ↔ f (.n l k v g r) = 0 ∧ errF f l = 0 ∧ errF f r = 0 := by
  rw [errF]
  by_cases h : f (.n l k v g r) = 0
  · rw [if_neg (by simp [h])]
    by_cases h1 : errF f l = 0
    · rw [if_neg (by simp [h1])]; simp [h, h1]
    · rw [if_pos h1]; simp [h1]
  · rw [if_pos h]; simp [h]
theorem placeF_all : ∀ t : Tr, errF f t = 0 → placeF f t = t.size
  | .e, _ => rfl
  | .n l k v g r, h => by
    obtain ⟨h0, h1, h2⟩ := (errF_n l k v g r).1 h
    rw [placeF, if_neg (by simp [h0]), if_neg (by simp [h1]), placeF_all l h1, placeF_all r h2, Tr.size]
theorem placeF_le : ∀ t : Tr, placeF f t ≤ t.size
  | .e => Nat.le_refl _
  | .n l k v g r => by
    have h1 := placeF_le l
    have h2 := placeF_le r
    rw [placeF, Tr.size]
    split
    · omega
    · split <;> omega
theorem errL_one (t : Tr) : errL f [t] = errF f t := by
  simp only [errL]; split <;> omega
theorem placeL_one (t : Tr) : placeL f [t] = placeF f t := by
  simp only [placeL]; split <;> omega
theorem errL_ok {t : Tr} (ts : List Tr) (h : errF f t = 0) : errL f (t :: ts) = errL f ts := by simp [errL, h]
theorem placeL_ok {t : Tr} (ts : List Tr) (h : errF f t = 0) : placeL f (t :: ts) = t.size + placeL f ts := by simp [placeL, h, placeF_all t h]
theorem errL_no {l : Tr} {k v g : BitVec 64} {r : Tr} (ts : List Tr) (h : f (.n l k v g r) ≠ 0) : errL f (.n l k v g r :: ts) = f (.n l k v g r) := by
  have : errF f (.n l k v g r) = f (.n l k v g r) := by rw [errF, if_pos h]
  rw [errL, this, if_pos h]
theorem placeL_no {l : Tr} {k v g : BitVec 64} {r : Tr} (ts : List Tr) (h : f (.n l k v g r) ≠ 0) : placeL f (.n l k v g r :: ts) = 0 := by
  have : errF f (.n l k v g r) = f (.n l k v g r) := by rw [errF, if_pos h]
  rw [placeL, this, if_pos h, placeF, if_pos h]
theorem errL_yes {l : Tr} {k v g : BitVec 64} {r : Tr} (ts : List Tr) (h : f (.n l k v g r) = 0) : errL f (.n l k v g r :: ts) = errL f (l :: r :: ts) := by
  simp only [errL]
  rw [show errF f (.n l k v g r) = if errF f l ≠ 0 then errF f l else errF f r from by rw [errF, if_neg (by simp [h])]]
  by_cases h1 : errF f l = 0
  · simp [h1]
  · simp [h1]
theorem placeL_yes {l : Tr} {k v g : BitVec 64} {r : Tr} (ts : List Tr) (h : f (.n l k v g r) = 0) : placeL f (.n l k v g r :: ts) = 1 + placeL f (l :: r :: ts) := by
  simp only [placeL]
  rw [show errF f (.n l k v g r) = if errF f l ≠ 0 then errF f l else errF f r from by rw [errF, if_neg (by simp [h])], show placeF f (.n l k v g r) = if errF f l ≠ 0 then 1 + placeF f l else 1 + placeF f l + placeF f r from by rw [placeF, if_neg (by simp [h])]]
  by_cases h1 : errF f l = 0
  · by_cases h2 : errF f r = 0
    · simp [h1, h2]; omega
    · simp [h1, h2]; omega
  · simp [h1]
/-- a tree that one has been at: if what is still to be gone by ahead of all else is right, it is right; and all that is smaller -/
def Past (f : Tr → Nat) (us : List Tr) (t : Tr) : Prop := ∃ a b, us = a ++ b ∧ (errL f a = 0 → errF f t = 0) ∧ ∀ u ∈ a, u.size < t.size
/-- one that stands at the head is right -/
theorem Past.again {us : List Tr} {t : Tr} (h : Past f (t :: us) t) : errF f t = 0 := by
  obtain ⟨a, b, e, h1, h2⟩ := h
  cases a with
  | nil => exact h1 rfl
  | cons u a =>
    cases e
    exact absurd (h2 _ (List.mem_cons_self ..)) (by omega)
theorem Past.ok {us : List Tr} {t u : Tr} (h : Past f (u :: us) t) (hu : errF f u = 0) : Past f us t := by
  obtain ⟨a, b, e, h1, h2⟩ := h
  cases a with
  | nil => exact ⟨[], us, rfl, fun _ => h1 rfl, fun x hx => by cases hx⟩
  | cons y a =>
    cases e
    exact ⟨a, b, rfl, fun h => h1 (by rw [errL_ok _ hu]; exact h), fun x hx => h2 x (List.mem_cons_of_mem _ hx)⟩
theorem Past.down {us : List Tr} {t l r : Tr} {k v g : BitVec 64} (h : Past f (.n l k v g r :: us) t) (hf : f (.n l k v g r) = 0) : Past f (l :: r :: us) t := by
  obtain ⟨a, b, e, h1, h2⟩ := h
  cases a with
  | nil => exact ⟨[], _, rfl, fun _ => h1 rfl, fun x hx => by cases hx⟩
  | cons y a =>
    cases e
    have hs := h2 _ (List.mem_cons_self ..)
    rw [Tr.size] at hs
    refine ⟨l :: r :: a, b, rfl, fun h => h1 (by rw [errL_yes _ hf]; exact h), fun x hx => ?_⟩
    rcases List.mem_cons.1 hx with rfl | hx
    · omega
    · rcases List.mem_cons.1 hx with rfl | hx
      · omega
      · exact h2 x (List.mem_cons_of_mem _ hx)
theorem Past.first {us : List Tr} {l r : Tr} {k v g : BitVec 64} (hf : f (.n l k v g r) = 0) : Past f (l :: r :: us) (.n l k v g r) := by
  refine ⟨[l, r], us, rfl, fun h => ?_, fun x hx => ?_⟩
  · rw [errF_n]
    by_cases h1 : errF f l = 0
    · rw [errL_ok _ h1, errL_one] at h
      exact ⟨hf, h1, h⟩
    · simp only [errL] at h
      rw [if_pos h1] at h
      exact absurd h h1
  · rw [Tr.size]
    rcases List.mem_cons.1 hx with rfl | hx
    · omega
    · rw [List.mem_singleton.1 hx]; omega
end
end Go.Proofs.Treem
/- A node that was made stands; a tree's tag, its left and its right side. -/
namespace Go.Proofs.Ytfbmpgffekhmhaa
open Go.RowKit Go.Proofs.Treem
set_option maxRecDepth 100000
variable {Nd : NdP}

theorem stood_of_made (hN : NodeSays Nd) {w w' : World} {L R : AT} {k v g : BitVec 64} {e : Ending} (h : Made13 Nd L R k v g w e w') : Stood Nd w L.ptr R.ptr L.tr R.tr k v g e w' := by
  obtain ⟨a, x, rfl, ⟨rfl, rfl, rfl⟩, hs, ha, hb⟩ := h
  obtain ⟨hx, hl, hr, -, -⟩ := hs.lies
  have ht := hs.tree
  obtain ⟨a', pl, pr, e1, h2, h3, h4⟩ := ht
  cases e1
  have hu := hN.uniq hx h2
  have el : pl = L.ptr := by rw [← hl, hu]
  have er : pr = R.ptr := by rw [← hr, hu]
  subst el er
  exact ⟨a, rfl, ha, h2, hs.tree, hb⟩
/-- what a tree's tag is -/
theorem TreeAt.tag (hN : NodeSays Nd) {w : World} : ∀ {t : Tr} {p : Option Addr}, TreeAt Nd w w.heap.size t p → Calls Try.prog 43 #[.pointer p] w fun e w' => e = .returned (G64 t.tag) ∧ Below w.heap.size w w'
  | .e, p, h => by
    obtain rfl : p = none := h
    exact (hN.tag0 w).mono fun e w' h => h
  | .n l k v g r, p, ⟨a, pl, pr, e, h2, h3, h4⟩ => by
    subst e
    exact (hN.tag w _ a _ h2).mono (by rintro e w' ⟨rfl, rfl⟩; exact ⟨rfl, Below.refl _ _⟩)
/-- what lies left of a tree's root, right of it -/
def Tr.lt : Tr → Tr
  | .e => .e
  | .n l .. => l
def Tr.rt : Tr → Tr
  | .e => .e
  | .n _ _ _ _ r => r
theorem TreeAt.leftT (hN : NodeSays Nd) {w : World} : ∀ {t : Tr} {p : Option Addr}, TreeAt Nd w w.heap.size t p → Calls Try.prog 44 #[.pointer p] w fun e w' => ∃ q, e = .returned (.pointer q) ∧ TreeAt Nd w' w'.heap.size (Tr.lt t) q ∧ Below w.heap.size w w'
  | .e, p, h => by
    obtain rfl : p = none := h
    exact (hN.left0 w).mono (by rintro e w' ⟨rfl, hb⟩; exact ⟨none, rfl, rfl, hb⟩)
  | .n l k v g r, p, ⟨a, pl, pr, e, h2, h3, h4⟩ => by
    subst e
    exact (hN.left w _ a _ h2).mono (by rintro e w' ⟨rfl, rfl⟩; exact ⟨pl, rfl, h3, Below.refl _ _⟩)
theorem TreeAt.rightT (hN : NodeSays Nd) {w : World} : ∀ {t : Tr} {p : Option Addr}, TreeAt Nd w w.heap.size t p → Calls Try.prog 45 #[.pointer p] w fun e w' => ∃ q, e = .returned (.pointer q) ∧ TreeAt Nd w' w'.heap.size (Tr.rt t) q ∧ Below w.heap.size w w'
  | .e, p, h => by
    obtain rfl : p = none := h
    exact (hN.right0 w).mono (by rintro e w' ⟨rfl, hb⟩; exact ⟨none, rfl, rfl, hb⟩)
  | .n l k v g r, p, ⟨a, pl, pr, e, h2, h3, h4⟩ => by
    subst e
    exact (hN.right w _ a _ h2).mono (by rintro e w' ⟨rfl, rfl⟩; exact ⟨pr, rfl, h4, Below.refl _ _⟩)
end Go.Proofs.Ytfbmpgffekhmhaa
/- The plain mathematics of layer 18: weights that are alike, trees in balance by weights, ranks; no program in it. -/
namespace Go.Proofs.Treem

/-- two weights are alike -/
def likeI (a b : Int) : Bool := decide (1 ≤ a ∧ 1 ≤ b ∧ a ≤ 1099511627776 ∧ b ≤ 1099511627776 ∧ 29 * (a + b) ≤ 100 * a ∧ 29 * (a + b) ≤ 100 * b)
theorem like_iff {a b : Int} : likeI a b = true ↔ (1 ≤ a ∧ 1 ≤ b ∧ a ≤ 1099511627776 ∧ b ≤ 1099511627776 ∧ 29 * (a + b) ≤ 100 * a ∧ 29 * (a + b) ≤ 100 * b) := decide_eq_true_iff
theorem like_turn (a b : Int) : likeI a b = likeI b a := decide_eq_decide.2 (by omega)
theorem like_own (a : Int) : likeI a a = decide (1 ≤ a ∧ a ≤ 1099511627776) := decide_eq_decide.2 (by omega)
/-- alike, of trees -/
def likeT (l r : Tr) : Bool := likeI ((l.size + 1 : Nat) : Int) ((r.size + 1 : Nat) : Int)
theorem likeT_iff {l r : Tr} (h1 : l.size ≤ 100000000) (h2 : r.size ≤ 100000000) : likeT l r = true ↔ 29 * (l.size + r.size + 2) ≤ 100 * (l.size + 1) ∧ 29 * (l.size + r.size + 2) ≤ 100 * (r.size + 1) := by
  rw [likeT, like_iff]; omega
/-- what is wrong with a node -/
def rootW : Tr → Nat
  | .e => 0
  | .n l _ _ g r => if g.toNat ≠ 0 then 140 else if likeT l r = true then 0 else 8
def mayW (t : Tr) : Bool := errF rootW t == 0
theorem mayW_iff {t : Tr} : mayW t = true ↔ errF rootW t = 0 := by rw [mayW, beq_iff_eq]
theorem mayW_n {l : Tr} {k v g : BitVec 64} {r : Tr} : mayW (.n l k v g r) = true ↔ (g = 0#64 ∧ likeT l r = true) ∧ mayW l = true ∧ mayW r = true := by
  rw [mayW_iff, mayW_iff, mayW_iff, errF_n, rootW]
  have hg : g.toNat = 0 ↔ g = 0#64 := ⟨fun h => BitVec.eq_of_toNat_eq h, fun h => by rw [h]; rfl⟩
  by_cases h : g.toNat = 0
  · rw [if_neg (by simp [h])]
    cases h2 : likeT l r with
    | true => simp [hg.1 h]
    | false => simp
  · rw [if_pos h]
    constructor
    · rintro ⟨h1, -⟩; cases h1
    · rintro ⟨⟨h1, -⟩, -⟩; exact absurd (hg.2 h1) h
def makeW (l : Tr) (k v : BitVec 64) (r : Tr) : Tr := .n l k v 0#64 r
theorem make_W (l : Tr) (k v : BitVec 64) (r : Tr) : mayW (makeW l k v r) = (mayW l && mayW r && likeT l r) := by
  apply Bool.eq_iff_iff.2
  rw [makeW, mayW_n, Bool.and_eq_true, Bool.and_eq_true]
  constructor
  · rintro ⟨⟨-, h1⟩, h2, h3⟩; exact ⟨⟨h2, h3⟩, h1⟩
  · rintro ⟨⟨h2, h3⟩, h1⟩; exact ⟨⟨rfl, h1⟩, h2, h3⟩
/-- 100 times the weight of a side is at most 71 times the node's -/
theorem side_W {l : Tr} {k v g : BitVec 64} {r : Tr} (h : mayW (.n l k v g r) = true) : 100 * (l.size + 1) ≤ 71 * ((Tr.n l k v g r).size + 1) ∧ 100 * (r.size + 1) ≤ 71 * ((Tr.n l k v g r).size + 1) := by
  obtain ⟨⟨-, h1⟩, -, -⟩ := mayW_n.1 h
  rw [likeT, like_iff] at h1
  rw [Tr.size]
  omega
/-- the least weight of a height -/
def leastW : Nat → Nat
  | 0 => 1
  | h + 1 => (100 * leastW h + 70) / 71
theorem leastW_up (h : Nat) : leastW h ≤ leastW (h + 1) := by rw [leastW]; omega
theorem leastW_le {a b : Nat} (h : a ≤ b) : leastW a ≤ leastW b := by
  induction h with
  | refl => exact Nat.le_refl _
  | step _ ih => exact Nat.le_trans ih (leastW_up _)
theorem weight_least : ∀ t : Tr, mayW t = true → leastW t.high ≤ t.size + 1
  | .e, _ => Nat.le_refl _
  | .n l k v g r, h => by
    obtain ⟨-, h1, h2⟩ := mayW_n.1 h
    have k1 := weight_least l h1
    have k2 := weight_least r h2
    obtain ⟨k3, k4⟩ := side_W h
    rw [Tr.high, Nat.add_comm, leastW]
    rcases Nat.le_total l.high r.high with hc | hc
    · rw [Nat.max_eq_right hc]; omega
    · rw [Nat.max_eq_left hc]; omega
theorem weight_high {t : Tr} (h : mayW t = true) (hs : t.size ≤ 400) : t.high ≤ 16 := by
  have h1 := weight_least t h
  by_cases hc : t.high ≤ 16
  · exact hc
  · have h2 := leastW_le (show 17 ≤ t.high by omega)
    have h3 : 402 ≤ leastW 17 := by decide
    omega
/-- the rank of a tree of so many nodes -/
def rankN (n : Nat) : Nat := Nat.log2 (n + 1)
theorem log_two {w : Nat} (h : 2 ≤ w) : Nat.log2 w = Nat.log2 (w / 2) + 1 := by rw [Nat.log2_def w, if_pos h]
theorem log_one {w : Nat} (h : w ≤ 1) : Nat.log2 w = 0 := by rw [Nat.log2_def w, if_neg (by omega)]
end Go.Proofs.Treem
/- The document's own answer for a tree's tag (layer 14's Tag, which layers 16 and on ask, too); uint64 and int. -/
namespace Go.Proofs.Ytfbmpgffekhmhaa
open Go.RowKit Go.Proofs.Treem
set_option maxRecDepth 100000

theorem i_of_u (b : BitVec 64) : IntKind.i64.wrap (b.toNat : Int) = b.toInt := by
  have h1 := b.isLt
  rw [BitVec.toInt_eq_toNat_cond]
  simp [IntKind.wrap, IntKind.bits, IntKind.signed]
  by_cases h : b.toNat < 9223372036854775808
  · rw [if_neg (by omega), if_pos (by omega)]; omega
  · rw [if_pos (by omega), if_neg (by omega)]; omega
theorem u_sub (p q : BitVec 64) : IntKind.u64.wrap ((p.toNat : Int) - (q.toNat : Int)) = ((p - q).toNat : Int) := by
  have := p.isLt; have := q.isLt
  rw [IntKind.wrap_u64, BitVec.toNat_sub]; omega
/-- one more than a tag -/
theorem tag_up (m : Nat) : IntKind.u64.wrap ((m : Int) + 1) = ((BitVec.ofNat 64 (m + 1)).toNat : Int) := by
  rw [BitVec.toNat_ofNat, IntKind.wrap_u64]
  omega
end Go.Proofs.Ytfbmpgffekhmhaa
/- The document's own answers of layer 18: Like, Check, May, Rank, Least. Made by wip/gen/layer18ref.py. -/
namespace Go.Proofs.Ytfbmpgffekhmhaa
open Go.RowKit Go.Proofs.Treem
set_option maxRecDepth 100000

set_option maxHeartbeats 4000000 in
theorem refLike18 (a b : Int) (w : World) : Calls Try.prog 61 #[.int .i64 a, .int .i64 b] w fun e w' => e = .returned (.bool (likeI a b)) ∧ w = w' := by
  by_cases h1 : a < 1
  · have d1 : decide (a < 1) = true := decide_eq_true h1
    have hv : likeI a b = false := by
      rw [Bool.eq_false_iff]; intro h; rw [like_iff] at h; omega
    rw [hv]
    clear hv
    go_enter Try.func61, Try.ntmps61
    go_wp2
    all_goals first
      | (exfalso; omega)
      | (go_ret; exact ⟨rfl, rfl⟩)
  · have d1 : decide (a < 1) = false := decide_eq_false h1
    by_cases h2 : b < 1
    · have d2 : decide (b < 1) = true := decide_eq_true h2
      have hv : likeI a b = false := by
        rw [Bool.eq_false_iff]; intro h; rw [like_iff] at h; omega
      rw [hv]
      clear hv
      go_enter Try.func61, Try.ntmps61
      go_wp2
      all_goals first
        | (exfalso; omega)
        | (go_ret; exact ⟨rfl, rfl⟩)
    · have d2 : decide (b < 1) = false := decide_eq_false h2
      by_cases h3 : 1099511627776 < a
      · have d3 : decide (1099511627776 < a) = true := decide_eq_true h3
        have hv : likeI a b = false := by
          rw [Bool.eq_false_iff]; intro h; rw [like_iff] at h; omega
        rw [hv]
        clear hv
        go_enter Try.func61, Try.ntmps61
        go_wp2
        all_goals first
          | (exfalso; omega)
          | (go_ret; exact ⟨rfl, rfl⟩)
      · have d3 : decide (1099511627776 < a) = false := decide_eq_false h3
        by_cases h4 : 1099511627776 < b
        · have d4 : decide (1099511627776 < b) = true := decide_eq_true h4
          have hv : likeI a b = false := by
            rw [Bool.eq_false_iff]; intro h; rw [like_iff] at h; omega
          rw [hv]
          clear hv
          go_enter Try.func61, Try.ntmps61
          go_wp2
          all_goals first
            | (exfalso; omega)
            | (go_ret; exact ⟨rfl, rfl⟩)
        · have d4 : decide (1099511627776 < b) = false := decide_eq_false h4
          have e1 : IntKind.i64.wrap (a + b) = a + b := IntWalk.i64_in _ (by omega)
          have e2 : IntKind.i64.wrap (29 * (a + b)) = 29 * (a + b) := IntWalk.i64_in _ (by omega)
          have e3 : IntKind.i64.wrap (100 * a) = 100 * a := IntWalk.i64_in _ (by omega)
          have e4 : IntKind.i64.wrap (100 * b) = 100 * b := IntWalk.i64_in _ (by omega)
          by_cases h5 : 29 * (a + b) ≤ 100 * a
          · have d5 : decide (29 * (a + b) ≤ 100 * a) = true := decide_eq_true h5
            by_cases h6 : 29 * (a + b) ≤ 100 * b
            · have d6 : decide (29 * (a + b) ≤ 100 * b) = true := decide_eq_true h6
              have hv : likeI a b = true := by
                rw [like_iff]; omega
              rw [hv]
              clear hv
              go_enter Try.func61, Try.ntmps61
              go_wp2
              all_goals first
                | (exfalso; omega)
                | (go_ret; exact ⟨rfl, rfl⟩)
            · have d6 : decide (29 * (a + b) ≤ 100 * b) = false := decide_eq_false h6
              have hv : likeI a b = false := by
                rw [Bool.eq_false_iff]; intro h; rw [like_iff] at h; omega
              rw [hv]
              clear hv
              go_enter Try.func61, Try.ntmps61
              go_wp2
              all_goals first
                | (exfalso; omega)
                | (go_ret; exact ⟨rfl, rfl⟩)
          · have d5 : decide (29 * (a + b) ≤ 100 * a) = false := decide_eq_false h5
            have hv : likeI a b = false := by
              rw [Bool.eq_false_iff]; intro h; rw [like_iff] at h; omega
            rw [hv]
            clear hv
            go_enter Try.func61, Try.ntmps61
            go_wp2
            all_goals first
              | (exfalso; omega)
              | (go_ret; exact ⟨rfl, rfl⟩)
set_option maxHeartbeats 4000000 in
theorem refCheck18 : ∀ (t : Tr) (A : Option Addr) (n c B : Nat) (l : List Bd), l.map strip = t.pre → t.size = n → n ≤ 5000 → ∀ w : World, B ≤ w.heap.size → LieB w B A n c l →
    Calls Try.prog 40 #[.slice A n c] w fun e w' => e = .returned (.tuple #[nI (placeF rootW t), nI (errF rootW t)]) ∧ Below w.heap.size w w' := by
  intro t
  induction t with
  | e =>
    intro A n c B l hl hn h5 w hB h
    obtain rfl : n = 0 := hn.symm
    clear h hl hB
    go_enter Try.func40, Try.ntmps40
    go_wp2
    go_ret2
    exact ⟨rfl, Below.refl _ _⟩
  | n tl k v g tr ihl ihr =>
    intro A n c B l hl hn h5 w hB h
    obtain ⟨i, hi⟩ : ∃ i, tl.size = i := ⟨_, rfl⟩
    obtain ⟨j, hj⟩ : ∃ j, tr.size = j := ⟨_, rfl⟩
    have hn2 : n = 1 + i + j := by rw [← hn, Tr.size, hi, hj]
    have hparts := Lib.hid (parts9_any A n c B l tl tr k v g hl w hB h (by omega))
    rw [hi, hj] at hparts
    have hL := Lib.hid (fun A c B la hla w hB h => ihl A i c B la hla hi (by omega) w hB h)
    have hR := Lib.hid (fun A c B la hla w hB h => ihr A j c B la hla hj (by omega) w hB h)
    have hpl := placeF_le (f := rootW) tl
    have hpr := placeF_le (f := rootW) tr
    rw [hi] at hpl
    rw [hj] at hpr
    have hE : errF rootW (.n tl k v g tr) = if rootW (.n tl k v g tr) ≠ 0 then rootW (.n tl k v g tr) else if errF rootW tl ≠ 0 then errF rootW tl else errF rootW tr := by rw [errF]
    have hP : placeF rootW (.n tl k v g tr) = if rootW (.n tl k v g tr) ≠ 0 then 0 else if errF rootW tl ≠ 0 then 1 + placeF rootW tl else 1 + placeF rootW tl + placeF rootW tr := by rw [placeF]
    rw [hE, hP, rootW]
    have cLk : Hid (∀ W, Calls Try.prog 61 #[.int .i64 ((i : Int) + 1), .int .i64 ((j : Int) + 1)] W fun e w' => e = .returned (.bool (likeT tl tr)) ∧ W = w') := fun W => by
      have := refLike18 ((i : Int) + 1) ((j : Int) + 1) W
      rw [show likeI ((i : Int) + 1) ((j : Int) + 1) = likeT tl tr from by rw [likeT, hi, hj]; rfl] at this
      exact this
    obtain ⟨lk, hlk⟩ : ∃ b, likeT tl tr = b := ⟨_, rfl⟩
    obtain ⟨x, hx⟩ : ∃ x, placeF rootW tl = x := ⟨_, rfl⟩
    obtain ⟨y, hy⟩ : ∃ x, placeF rootW tr = x := ⟨_, rfl⟩
    obtain ⟨f, hf⟩ : ∃ x, errF rootW tl = x := ⟨_, rfl⟩
    obtain ⟨q, hq⟩ : ∃ x, errF rootW tr = x := ⟨_, rfl⟩
    obtain ⟨G, hG⟩ : ∃ x, g.toNat = x := ⟨_, rfl⟩
    rw [hlk, hx, hy, hf, hq, hG]
    rw [hlk] at cLk
    rw [hx, hf] at hL
    rw [hy, hq] at hR
    rw [hx] at hpl
    rw [hy] at hpr
    have hgt : Hid (G64 g = .int .u64 (G : Int)) := by rw [← hG]; rfl
    have d1 : ((n : Int) == 0) = false := by simp; omega
    have hx9 : x ≤ 5000 := by omega
    have hy9 : y ≤ 5000 := by omega
    have e7 : IntKind.i64.wrap ((i : Int) + 1) = (i : Int) + 1 := IntWalk.i64_in _ (by omega)
    have e8 : IntKind.i64.wrap ((j : Int) + 1) = (j : Int) + 1 := IntWalk.i64_in _ (by omega)
    clear hl h ihl ihr hi hj hn hn2 hE hP hlk hx hy hf hq hG h5 hpl hpr
    obtain ⟨O, hO0⟩ : ∃ O, (if (if G ≠ 0 then 140 else if lk = true then 0 else 8) ≠ 0 then (if G ≠ 0 then 140 else if lk = true then 0 else 8) else if f ≠ 0 then f else q) = O := ⟨_, rfl⟩
    obtain ⟨P, hP0⟩ : ∃ P, (if (if G ≠ 0 then 140 else if lk = true then 0 else 8) ≠ 0 then 0 else if f ≠ 0 then 1 + x else 1 + x + y) = P := ⟨_, rfl⟩
    rw [hO0, hP0]
    have hO := Lib.hid hO0
    have hP := Lib.hid hP0
    clear hO0 hP0
    go_enter Try.func40, Try.ntmps40
    go_wp2_with fail
    refine hparts.out.mono ?_
    rintro e w1 ⟨A1, c1, A2, c2, b, la, lb, rfl, rfl, hxx, hla, hlb, K1, K2, hb⟩
    have b1 := Lib.hid hb
    have hla' := Lib.hid hla
    have hlb' := Lib.hid hlb
    have K1' := Lib.hid K1
    have K2' := Lib.hid K2
    have hbt : Hid (b.tag = g) := congrArg St.tag hxx
    clear hb hxx hla hlb K1 K2 hparts
    go_upto_region 4 with (fail)
    obtain ⟨W2, hW2⟩ : ∃ W2, w1.alloc (.cells #[K b.key, K b.val, K b.sum, K b.size, G64 b.tag, .bool b.left, .bool b.right] 47) = W2 := ⟨_, rfl⟩
    have gx : Hid (Has W2 w1.heap.size 47 #[K b.key, K b.val, K b.sum, K b.size, G64 b.tag, .bool b.left, .bool b.right]) := hW2 ▸ Has.new w1 _ _
    have b2 : Hid (Below w.heap.size w W2) := hW2 ▸ b1.out.alloc b1.out.size _
    have K1'' := Lib.hid (K1'.out.next (b2.out.mono hB))
    have K2'' := Lib.hid (K2'.out.next (b2.out.mono hB))
    rw [hW2]
    clear hW2 b1 K1' K2'
    obtain ⟨p, hp⟩ : ∃ p, w1.heap.size = p := ⟨_, rfl⟩
    rw [hp] at gx ⊢
    clear hp
    rw [hbt.out, hgt.out] at gx
    obtain ⟨-, -, -, -, y4, -, -⟩ := gx.out.seven
    clear gx hbt hgt
    by_cases hG : G = 0
    · subst hG
      cases lk with
      | false =>
        have hO1 := hO.out
        have hP1 := hP.out
        simp at hO1 hP1
        subst hO1 hP1
        go_wp2_with fail
        refine (cLk.out W2).mono ?_
        rintro e w' ⟨rfl, rfl⟩
        go_wp2
        go_ret2
        exact ⟨rfl, b2.out⟩
      | true =>
        go_wp2_with fail
        refine (cLk.out W2).mono ?_
        rintro e w' ⟨rfl, rfl⟩
        go_wp2_with fail
        refine (hL.out A1 c1 B la hla'.out _ (Nat.le_trans hB b2.out.size) K1''.out).mono ?_
        rintro e w3 ⟨rfl, hb3⟩
        have b3 := Lib.hid (Below.after b2.out hb3)
        have K3 := Lib.hid (K2''.out.next (hb3.mono (Nat.le_trans hB b2.out.size)))
        clear hb3 b2 K2'' K1'' y4
        by_cases hf : f = 0
        · subst hf
          have hO1 := hO.out
          have hP1 := hP.out
          simp at hO1 hP1
          subst hO1 hP1
          go_wp2_with fail
          refine (hR.out A2 c2 B lb hlb'.out w3 (Nat.le_trans hB b3.out.size) K3.out).mono ?_
          rintro e w4 ⟨rfl, hb4⟩
          have b4 := Lib.hid (Below.after b3.out hb4)
          clear hb4 b3
          have e1 : IntKind.i64.wrap (1 + (x : Int)) = 1 + (x : Int) := IntWalk.i64_in _ (by omega)
          have e2 : IntKind.i64.wrap (1 + (x : Int) + (y : Int)) = 1 + (x : Int) + (y : Int) := IntWalk.i64_in _ (by omega)
          go_wp2
          go_ret2
          exact ⟨by show _ = Ending.returned (.tuple #[.int .i64 ((1 + x + y : Nat) : Int), nI q]); rw [show ((1 + x + y : Nat) : Int) = 1 + (x : Int) + (y : Int) by omega]; rfl, b4.out⟩
        · have hO1 := hO.out
          have hP1 := hP.out
          simp [hf] at hO1 hP1
          subst hO1 hP1
          have d2 : ((f : Int) != 0) = true := by rw [bne_iff_ne]; omega
          have e1 : IntKind.i64.wrap (1 + (x : Int)) = 1 + (x : Int) := IntWalk.i64_in _ (by omega)
          go_wp2
          go_ret2
          exact ⟨by show _ = Ending.returned (.tuple #[.int .i64 ((1 + x : Nat) : Int), nI f]); rw [show ((1 + x : Nat) : Int) = 1 + (x : Int) by omega]; rfl, b3.out⟩
    · have hO1 := hO.out
      have hP1 := hP.out
      simp [hG] at hO1 hP1
      subst hO1 hP1
      have d2 : ((G : Int) != 0) = true := by rw [bne_iff_ne]; omega
      go_wp2
      go_ret2
      exact ⟨rfl, b2.out⟩
theorem refMay18 (t : Tr) (A : Option Addr) (n c B : Nat) (l : List Bd) (hl : l.map strip = t.pre) (hn : t.size = n) (h5 : n ≤ 5000) (w : World) (hB : B ≤ w.heap.size) (h : LieB w B A n c l) :
    Calls Try.prog 22 #[.slice A n c] w fun e w' => e = .returned (.bool (mayW t)) ∧ Below w.heap.size w w' := by
  have c1 := Lib.hid (refCheck18 t A n c B l hl hn h5 w hB h)
  have hm : Hid (mayW t = ((errF rootW t : Int) == 0)) := by
    show _ = _
    unfold mayW
    by_cases h : errF rootW t = 0
    · rw [h]; rfl
    · rw [beq_eq_false_iff_ne.2 h, beq_eq_false_iff_ne.2 (show ((errF rootW t : Nat) : Int) ≠ 0 by omega)]
  obtain ⟨f, hf⟩ : ∃ x, errF rootW t = x := ⟨_, rfl⟩
  obtain ⟨x, hx⟩ : ∃ x, placeF rootW t = x := ⟨_, rfl⟩
  rw [hf, hx] at c1
  rw [hf] at hm
  clear hl hn h5 hB h hf hx
  go_enter Try.func22, Try.ntmps22
  go_wp2_with fail
  refine c1.out.mono ?_
  rintro e w1 ⟨rfl, hb⟩
  have b1 := Lib.hid hb
  clear hb c1
  go_wp2
  go_ret
  exact ⟨by rw [hm.out]; rfl, b1.out⟩
theorem refRank18 (n : Nat) (hn : n ≤ 100000000) (w : World) : Calls Try.prog 34 #[nI n] w fun e w' => e = .returned (nI (rankN n)) ∧ w = w' := by
  have e0 : IntKind.i64.wrap ((n : Int) + 1) = ((n + 1 : Nat) : Int) := by rw [IntWalk.i64_in _ (by omega)]; omega
  unfold rankN
  obtain ⟨z, hz⟩ : ∃ z, Nat.log2 (n + 1) = z := ⟨_, rfl⟩
  have hz9 : z ≤ 100000001 := by rw [← hz]; exact Nat.le_trans (Nat.log2_le_self _) (by omega)
  rw [hz]
  obtain ⟨m, hm⟩ : ∃ m, n + 1 = m := ⟨_, rfl⟩
  have hm1 : 1 ≤ m := by omega
  have hm9 : m ≤ 100000001 := by omega
  rw [hm] at e0 hz
  clear hm
  go_enter Try.func34, Try.ntmps34
  go_wp2
  go_loop [3, 4] (fun k v => ∃ (a u : Nat), 1 ≤ u ∧ u ≤ 100000001 ∧ k = nI a ∧ v = nI u ∧ a + Nat.log2 u = z) (fun _ v => (intOf v).toNat)
  case atStart => exact ⟨0, m, hm1, hm9, rfl, rfl, by omega⟩
  case round =>
    obtain ⟨a, u, hu, hu9, rfl, rfl, ha⟩ := hrel
    have ha9 : a ≤ 100000001 := by omega
    by_cases hlt : 1 < u
    · have e1 : (u : Int).tdiv 2 = ((u / 2 : Nat) : Int) := by rw [Int.tdiv_eq_ediv_of_nonneg (by omega)]; omega
      have e2 : IntKind.i64.wrap ((a : Int) + 1) = (a : Int) + 1 := IntWalk.i64_in _ (by omega)
      have hg : Hid (a + 1 + Nat.log2 (u / 2) = z) := by show _ = _; rw [log_two hlt] at ha; omega
      clear ha
      go_wp2
      go_round
      case rel => exact ⟨a + 1, u / 2, by omega, by omega, by simp [nI], by simp [nI], hg.out⟩
      case measure => simp [intOf]; omega
    · have hg : a = z := by rw [log_one (by omega)] at ha; omega
      clear ha
      subst hg
      go_wp2
      go_ret
      exact ⟨rfl, rfl⟩
end Go.Proofs.Ytfbmpgffekhmhaa
/- The document's own answers of layer 10: whether two rows of pairs, of keys, are the same, where they are. -/
namespace Go.Proofs.Ytfbmpgffekhmhaa
open Go.RowKit Go.Proofs.Rowm

set_option maxHeartbeats 1000000 in
theorem samePairs_yes (A A' : Option Addr) (n c c' : Nat) (l : List Pr) (hl : l.length = n) (hn : n ≤ 1000) (w : World) (hr : Row w w.heap.size A (flat l)) (hq : Row w w.heap.size A' (flat l)) :
    Calls Try.prog 30 #[.slice A n c, .slice A' n c'] w fun e w' => e = .returned (.bool true) ∧ Below w.heap.size w w' := by
  have hr' := Lib.hid hr
  have hq' := Lib.hid hq
  have hl' := Lib.hid hl
  clear hr hq hl
  go_enter Try.func30, Try.ntmps30
  go_wp2
  go_loopw [5] (fun i wr => ∃ k : Nat, k ≤ n ∧ i = .int .i64 k ∧ Below w.heap.size w wr) (fun i _ => n - (intOf i).toNat)
  case atStart => exact ⟨0, Nat.zero_le _, rfl, Below.refl _ _⟩
  case round =>
    obtain ⟨k, hk, rfl, hb⟩ := hrel
    have hb' := Lib.hid hb
    clear hb
    by_cases hlt : k < n
    · have hkl : k < l.length := by rw [hl'.out]; exact hlt
      obtain ⟨ad, rfl, hb2, g1, g2⟩ := pair_at (hr'.out.below hb'.out) k hkl
      obtain ⟨ad', rfl, hb3, g3, g4⟩ := pair_at (hq'.out.below hb'.out) k hkl
      go_wp2
      go_quiet (fail)
      go_wp2
      go_roundw
      case rel => exact ⟨k + 1, by omega, by go_num, below_drewN hb'.out _⟩
      case measure => simp [intOf]; omega
    · go_wp2
      go_ret
      exact ⟨rfl, hb'.out⟩
/-- a cell of a row of numbers -/
theorem key_at {w : World} {B : Nat} {A : Option Addr} {l : List (BitVec 64)} (h : Row w B A (l.map K)) (k : Nat) (hk : k < l.length) : ∃ ad, A = some ad ∧ ad.block < B ∧ w.cell? (ad.add k) = some (K l[k]) :=
  h k (K l[k]) (by rw [List.getElem?_map, List.getElem?_eq_getElem hk]; rfl)
end Go.Proofs.Ytfbmpgffekhmhaa
/- The document's own answers of layer 10: Turned, Has. -/
namespace Go.Proofs.Ytfbmpgffekhmhaa
open Go.RowKit Go.Proofs.Rowm Go.Proofs.Treem

/-- which beads have a key -/
theorem hasB_take (l : List Bd) (key : BitVec 64) (k : Nat) (h : k < l.length) : hasB ((l.take (k + 1)).map strip) key = (hasB ((l.take k).map strip) key || decide (l[k].key = key)) := by
  rw [List.take_succ_eq_append_getElem h, List.map_append]
  simp only [hasB, List.any_append, List.map_cons, List.map_nil, List.any_cons, List.any_nil, Bool.or_false]
  rfl
end Go.Proofs.Ytfbmpgffekhmhaa
/- The document's own answers of layer 10: Pairs (of layer 9's package), Keys. -/
namespace Go.Proofs.Ytfbmpgffekhmhaa
open Go.RowKit Go.Proofs.Rowm Go.Proofs.Treem

theorem owned_base {w : World} {base base' n : Nat} {e : TypeId} {size : Nat} {v : Value} {xs : List Value} (h : w.ownsRow base' e size v n xs) (hb : base ≤ base') : w.ownsRow base e size v n xs := by
  refine ⟨h.1, ?_⟩
  rcases h.2 with h2 | ⟨g, cap, cur, h1, h2, h3⟩
  · exact .inl h2
  · exact .inr ⟨g, cap, cur, h1, Nat.le_trans hb h2, h3⟩
set_option maxHeartbeats 4000000 in
theorem refPairs9 : ∀ (t : Tr) (A : Option Addr) (n c B : Nat) (l : List Bd), l.map strip = t.pre → t.size = n → n ≤ 1000 → ∀ w : World, B ≤ w.heap.size → LieB w B A n c l →
    Calls Try.prog 31 #[.slice A n c] w fun e w' => ∃ v, e = .returned v ∧ w'.ownsRow w.heap.size 40 2 v n (flat t.pairs) ∧ Below w.heap.size w w' := by
  intro t
  induction t with
  | e =>
    intro A n c B l hl hn h5 w hB h
    obtain rfl : n = 0 := hn.symm
    go_enter Try.func31, Try.ntmps31
    go_wp2
    go_ret
    exact ⟨_, rfl, World.ownsRow_nil _ _ _ _, Below.refl _ _⟩
  | n tl k v g tr ihl ihr =>
    intro A n c B l hl hn h5 w hB h
    obtain ⟨i0, hin, hz0, hz1, hz2⟩ := info_parts info_pair
    obtain ⟨i, hi⟩ : ∃ i, tl.size = i := ⟨_, rfl⟩
    obtain ⟨j, hj⟩ : ∃ j, tr.size = j := ⟨_, rfl⟩
    have hn2 : n = 1 + i + j := by rw [← hn, Tr.size, hi, hj]
    have hparts := Lib.hid (parts9_any A n c B l tl tr k v g hl w hB h (by omega))
    rw [hi, hj] at hparts
    have hL := Lib.hid (fun A c B la hla w hB h => ihl A i c B la hla hi (by omega) w hB h)
    have hR := Lib.hid (fun A c B la hla w hB h => ihr A j c B la hla hj (by omega) w hB h)
    have d1 : ((n : Int) == 0) = false := by simp; omega
    have hn2' := Lib.hid hn2
    have hi' := Lib.hid hi
    have hj' := Lib.hid hj
    have hi5 : i ≤ 1000 := by omega
    have hj5 : j ≤ 1000 := by omega
    have hij : i + j ≤ 1000 := by omega
    clear h hl ihl ihr hi hj hn hn2
    go_enter Try.func31, Try.ntmps31
    go_wp2_with fail
    refine hparts.out.mono ?_
    rintro e w1 ⟨A1, c1, A2, c2, x, la, lb, rfl, rfl, hx, hla, hlb, K1, K2, hb⟩
    clear hparts
    have hkx : Hid (x.key = k) := congrArg St.key hx
    have hvx : Hid (x.val = v) := congrArg St.val hx
    have b1 := Lib.hid hb
    have hla' := Lib.hid hla
    have hlb' := Lib.hid hlb
    have K1' := Lib.hid K1
    have K2' := Lib.hid K2
    clear hb hx hla hlb K1 K2
    go_wp2_with fail
    obtain ⟨W2, hW2⟩ : ∃ W2, w1.alloc (.cells #[K x.key, K x.val, K x.sum, K x.size, G64 x.tag, .bool x.left, .bool x.right] 47) = W2 := ⟨_, rfl⟩
    have gx : Hid (Has W2 w1.heap.size 47 #[K x.key, K x.val, K x.sum, K x.size, G64 x.tag, .bool x.left, .bool x.right]) := hW2 ▸ Has.new w1 _ _
    have b2 : Hid (Below w.heap.size w W2) := hW2 ▸ b1.out.alloc b1.out.size _
    have s2 : W2.heap.size = w1.heap.size + 1 := hW2 ▸ World.size_alloc _ _
    rw [hW2]
    clear hW2
    obtain ⟨p, hp⟩ : ∃ p, w1.heap.size = p := ⟨_, rfl⟩
    rw [hp] at gx s2 ⊢
    clear hp b1
    rw [hkx.out, hvx.out] at gx
    have hcall := Lib.hid (fun (W : World) (hW : Below w.heap.size w W) => hL.out A1 c1 B la hla'.out W (Nat.le_trans hB hW.size) (K1'.out.next (hW.mono hB)))
    have hcallR := Lib.hid (fun (W : World) (hW : Below w.heap.size w W) => hR.out A2 c2 B lb hlb'.out W (Nat.le_trans hB hW.size) (K2'.out.next (hW.mono hB)))
    obtain ⟨y0, y1, y2, y3, y4, y5, y6⟩ := gx.out.seven
    clear y2 y3 y4 y5 y6
    have ro1 : Hid (Row (W2.drew.alloc (.cells #[K k, K v] 40)) (W2.drew.alloc (.cells #[K k, K v] 40)).heap.size (some ⟨p + 1, 0, none⟩) [K k, K v]) := by
      have := (Has.new W2.drew 40 #[K k, K v]).row
      rw [show W2.drew.heap.size = p + 1 from s2] at this
      exact this
    go_region_law (first
      | (go_simp; go_at_call 31; refine (hcall.out _ (by first | exact b2.out.drew | exact (b2.out.drew).alloc (by simpa using b2.out.size) _)).mono ?_
         rintro e w5 ⟨v5, rfl, ho5, hb5⟩
         have o5 := Lib.hid (owned_base ho5 (base := w.heap.size) (by first | exact b2.out.drew.size | exact ((b2.out.drew).alloc (by simpa using b2.out.size) _).size))
         have n5 := Lib.hid hb5
         have b5 := Lib.hid (Below.after (by first | exact b2.out.drew | exact (b2.out.drew).alloc (by simpa using b2.out.size) _) hb5)
         have g5 := Lib.hid (Has.next (by first | exact gx.out | exact gx.out.alloc _) hb5)
         obtain ⟨x0, x1, x2, x3, x4, x5, x6⟩ := g5.out.seven
         clear x2 x3 x4 x5 x6 hb5 ho5)
      | (refine step_append_row (by rfl) _ _ 37 (by rfl) w.heap.size 40 i0 (.agg #[.int .i64 0, .int .i64 0]) 2 16 Try.underlying37 hin hz0 hz1 hz2 rfl (by decide) v5 i (flat tl.pairs) (by rfl) o5.out (some ⟨p + 1, 0, none⟩) 1 1 [K k, K v] (by rfl) (by simp) (Nat.le_refl _) rfl _ (ro1.out.next n5.out) (flat_one [(k, v)]) (by unfold maxLen; omega) (by omega) b5.out.size ?_
         intro v6 w6 hown hgrow
         have o6 := Lib.hid hown
         have b6 := Lib.hid (b5.out.grown hgrow b5.out.size (fun r e => (o5.out.lt r e).1))
         clear hown hgrow)
      | (refine step_append_row (by rfl) _ _ 37 (by rfl) w.heap.size 40 i0 (.agg #[.int .i64 0, .int .i64 0]) 2 16 Try.underlying37 hin hz0 hz1 hz2 rfl (by decide) v5 i (flat tl.pairs) (by rfl) (o5.out.alloc _) (some ⟨w5.heap.size, 0, none⟩) 1 1 [K k, K v] (by rfl) (by simp) (Nat.le_refl _) rfl _ (Has.new w5 40 #[K k, K v]).row (flat_one [(k, v)]) (by unfold maxLen; omega) (by omega) (by have := b5.out.size; simp only [World.size_alloc]; omega) ?_
         intro v6 w6 hown hgrow
         have o6 := Lib.hid hown
         have b6 := Lib.hid ((b5.out.alloc b5.out.size _).grown hgrow (by have := b5.out.size; simp only [World.size_alloc]; omega) (fun r e => (o5.out.lt r e).1))
         clear hown hgrow)
      | fail)
    all_goals
      clear hcall ro1 n5 b5 g5 o5 x0 x1 y0 y1
      go_wp2_with fail
    all_goals
      refine (hcallR.out w6 b6.out).mono ?_
      rintro e w7 ⟨v7, rfl, ho7, hb7⟩
      obtain ⟨A7, c7, rfl, q7, -, nz7⟩ := own_slice ho7
      have rw7 := Lib.hid (Row.of_own ho7)
      have o7 := Lib.hid (owned_next o6.out hb7)
      have b7 := Lib.hid (Below.after b6.out hb7)
      have rlen : (flat tr.pairs).length = j * 2 := by rw [flat_length, pairs_len, hj'.out]
      clear hb7 ho7 hcallR o6 b6
      go_wp2_with (at_builtin; refine wpList_append_row rfl _ _ 37 rfl w.heap.size 40 i0 (.agg #[.int .i64 0, .int .i64 0]) 2 16 Try.underlying37 hin hz0 hz1 hz2 rfl (by decide) v6 (i + 1) (flat tl.pairs ++ [K k, K v]) rfl o7.out A7 j c7 (flat tr.pairs) rfl nz7 q7 rlen w7.heap.size rw7.out (flat_one _) (by unfold maxLen; omega) (by omega) b7.out.size ?_)
      intro v8 w8 hown hgrow
      have o8 := Lib.hid hown
      have b8 := Lib.hid (b7.out.grown hgrow b7.out.size (fun r e => (o7.out.lt r e).1))
      clear hown hgrow
      go_wp2
      go_ret
      refine ⟨v8, rfl, ?_, b8.out⟩
      have := o8.out
      rw [hn2'.out, show 1 + i + j = i + 1 + j by omega, Tr.pairs, flat_append, flat_cons]
      exact this
end Go.Proofs.Ytfbmpgffekhmhaa
/- Layer 13: how many unlike things a row has. No program. -/
namespace Go.Proofs.Cardm
variable {α : Type} [DecidableEq α]

/-- how many unlike ones there are -/
def card : List α → Nat
  | [] => 0
  | a :: l => if a ∈ l then card l else card l + 1
theorem card_le : ∀ l : List α, card l ≤ l.length
  | [] => Nat.le_refl _
  | a :: l => by have := card_le l; rw [card, List.length_cons]; split <;> omega
theorem card_split (p : α → Bool) : ∀ l : List α, card l = card (l.filter p) + card (l.filter fun a => !p a)
  | [] => rfl
  | a :: l => by
    have ih := card_split p l
    cases hp : p a with
    | true =>
      rw [List.filter_cons_of_pos (by simp [hp]), List.filter_cons_of_neg (by simp [hp]), card, card]
      by_cases h : a ∈ l
      · rw [if_pos h, if_pos (by simp [List.mem_filter, h, hp])]; exact ih
      · rw [if_neg h, if_neg (by simp [List.mem_filter, h])]; omega
    | false =>
      rw [List.filter_cons_of_neg (by simp [hp]), List.filter_cons_of_pos (by simp [hp]), card, card]
      by_cases h : a ∈ l
      · rw [if_pos h, if_pos (by simp [List.mem_filter, h, hp])]; exact ih
      · rw [if_neg h, if_neg (by simp [List.mem_filter, h])]; omega
theorem card_same {a : α} : ∀ l : List α, (∀ x ∈ l, x = a) → l ≠ [] → card l = 1
  | [], _, h => absurd rfl h
  | [b], _, _ => by simp [card]
  | b :: c :: l, h, _ => by
    have hb : b = a := h b (by simp)
    have hc : c = a := h c (by simp)
    rw [card, if_pos (by rw [hb, hc]; simp)]
    exact card_same (c :: l) (fun x hx => h x (List.mem_cons_of_mem _ hx)) (by simp)
theorem filter_less (a : α) : ∀ l : List α, a ∈ l → (l.filter fun x => decide (x ≠ a)).length < l.length
  | [], h => by cases h
  | b :: l, h => by
    by_cases hb : b = a
    · subst hb
      rw [List.filter_cons_of_neg (by simp)]
      have := List.length_filter_le (fun x => decide (x ≠ b)) l
      rw [List.length_cons]; omega
    · rw [List.filter_cons_of_pos (by simp [hb]), List.length_cons, List.length_cons]
      have := filter_less a l ((List.mem_cons.1 h).resolve_left (fun e => hb e.symm))
      omega
/-- rows of the same things have as many of them -/
theorem card_congr : ∀ (n : Nat) (l m : List α), l.length ≤ n → (∀ a, a ∈ l ↔ a ∈ m) → card l = card m
  | _, [], m, _, h => by
    cases m with
    | nil => rfl
    | cons a m => exact absurd ((h a).2 (by simp)) (by simp)
  | 0, a :: l, _, hn, _ => by simp at hn
  | n + 1, a :: l, m, hn, h => by
    have ham : a ∈ m := (h a).1 (by simp)
    have e1 := card_split (fun x => decide (x = a)) (a :: l)
    have e2 := card_split (fun x => decide (x = a)) m
    have f1 := filter_less a (a :: l) (by simp)
    have k1 : card ((a :: l).filter fun x => decide (x = a)) = 1 := card_same (a := a) _ (fun x hx => by simpa using (List.mem_filter.1 hx).2) (fun e => by
      have : a ∈ (a :: l).filter fun x => decide (x = a) := by simp
      rw [e] at this; cases this)
    have k2 : card (m.filter fun x => decide (x = a)) = 1 := card_same (a := a) _ (fun x hx => by simpa using (List.mem_filter.1 hx).2) (fun e => by
      have : a ∈ m.filter fun x => decide (x = a) := by simp [ham]
      rw [e] at this; cases this)
    have ih := card_congr n ((a :: l).filter fun x => decide (x ≠ a)) (m.filter fun x => decide (x ≠ a)) (by omega) (fun x => by simp only [List.mem_filter]; rw [h x])
    have g : ∀ k : List α, (k.filter fun x => !decide (x = a)) = k.filter fun x => decide (x ≠ a) := fun k => by
      congr 1; funext x; simp
    rw [e1, e2, k1, k2, g, g, ih]
theorem card_eq {l m : List α} (h : ∀ a, a ∈ l ↔ a ∈ m) : card l = card m := card_congr l.length l m (Nat.le_refl _) h
/-- how many of a row are not in another one; how many are -/
def newC (l m : List α) : Nat := card (l.filter fun a => decide (a ∉ m))
def sameC (l m : List α) : Nat := card (l.filter fun a => decide (a ∈ m))
theorem new_same (l m : List α) : newC l m + sameC l m = card l := by
  have := card_split (fun a => decide (a ∈ m)) l
  have g : (l.filter fun x => !decide (x ∈ m)) = l.filter fun x => decide (x ∉ m) := by congr 1; funext x; simp
  rw [g] at this
  unfold newC sameC
  omega
theorem new_le (l m : List α) : newC l m ≤ card l := by have := new_same l m; omega
theorem same_le (l m : List α) : sameC l m ≤ card l := by have := new_same l m; omega
theorem new_nil (l : List α) : newC l [] = card l := by unfold newC; congr 1; simp
theorem new_eq {l l' m m' : List α} (h : ∀ a, a ∈ l ↔ a ∈ l') (k : ∀ a, a ∈ m ↔ a ∈ m') : newC l m = newC l' m' := card_eq fun a => by simp [h a, k a]
theorem same_eq {l l' m m' : List α} (h : ∀ a, a ∈ l ↔ a ∈ l') (k : ∀ a, a ∈ m ↔ a ∈ m') : sameC l m = sameC l' m' := card_eq fun a => by simp [h a, k a]
theorem new_all {l m : List α} (h : ∀ a ∈ l, a ∈ m) : newC l m = 0 := by
  unfold newC
  rw [List.filter_eq_nil_iff.2 (fun a ha => by simp [h a ha])]; rfl
theorem same_no {l m : List α} (h : ∀ a ∈ l, a ∉ m) : sameC l m = 0 := by
  unfold sameC
  rw [List.filter_eq_nil_iff.2 (fun a ha => by simp [h a ha])]; rfl
theorem card_append (l m : List α) : card (l ++ m) = card l + newC m l := by
  have h := card_split (fun a => decide (a ∈ l)) (l ++ m)
  have e1 : card ((l ++ m).filter fun a => decide (a ∈ l)) = card l := card_eq fun a => by
    simp only [List.mem_filter, List.mem_append, decide_eq_true_eq]
    exact ⟨fun h => h.2, fun h => ⟨.inl h, h⟩⟩
  have e2 : card ((l ++ m).filter fun a => !decide (a ∈ l)) = newC m l := card_eq fun a => by
    simp only [List.mem_filter, List.mem_append, Bool.not_eq_true', decide_eq_false_iff_not, decide_eq_true_eq]
    exact ⟨fun h => ⟨h.1.resolve_left h.2, h.2⟩, fun h => ⟨.inr h.1, h.2⟩⟩
  omega
theorem card_cons (a : α) (l : List α) (h : a ∉ l) : card (a :: l) = card l + 1 := by rw [card, if_neg h]
theorem card_nodup : ∀ l : List α, l.Nodup → card l = l.length
  | [], _ => rfl
  | a :: l, h => by
    rw [List.nodup_cons] at h
    rw [card_cons a l h.1, card_nodup l h.2, List.length_cons]
theorem card_sub {l m : List α} (h : ∀ a ∈ l, a ∈ m) : card l ≤ card m := by
  have e : sameC m l = card l := card_eq fun a => by
    simp only [List.mem_filter, decide_eq_true_eq]
    exact ⟨fun x => x.2, fun x => ⟨h a x, x⟩⟩
  have := same_le m l
  omega
end Go.Proofs.Cardm
/- Layer 13: the nodes of a tree by where they lie; which of them stand in others, and which of those stand highest. -/
namespace Go.Proofs.Ytfbmpgffekhmhaa
open Go.RowKit Go.Proofs.Treem Go.Proofs.Cardm
variable {Nd : NdP}

/-- where a tree's nodes lie, from left to right -/
def AT.addrs : AT → List Addr
  | .e => []
  | .n a _ l r => l.addrs ++ a :: r.addrs
def addrsOf (os : List AT) : List Addr := os.flatMap AT.addrs
theorem AT.mem_n {a b : Addr} {x : No} {l r : AT} : b ∈ (AT.n a x l r).addrs ↔ b = a ∨ b ∈ l.addrs ∨ b ∈ r.addrs := by
  simp only [AT.addrs, List.mem_append, List.mem_cons]
  constructor
  · rintro (h | h | h)
    · exact .inr (.inl h)
    · exact .inl h
    · exact .inr (.inr h)
  · rintro (h | h | h)
    · exact .inr (.inl h)
    · exact .inl h
    · exact .inr (.inr h)
theorem AT.root_mem {T : AT} {a : Addr} (h : T.ptr = some a) : a ∈ T.addrs := by
  cases T with
  | e => cases h
  | n b x l r => cases h; exact AT.mem_n.2 (.inl rfl)
/-- what lies at one place is one tree -/
theorem AT.same (hN : NodeSays Nd) {W : World} {B B' : Nat} : ∀ {T U : AT}, T.lies Nd W B → U.lies Nd W B' → T.ptr = U.ptr → T = U
  | .e, .e, _, _, _ => rfl
  | .e, .n .., _, _, h => by cases h
  | .n .., .e, _, _, h => by cases h
  | .n a x l r, .n b y l' r', ⟨h1, h2, h3, h4, h5⟩, ⟨k1, k2, k3, k4, k5⟩, h => by
    cases h
    have e := hN.uniq h1 k1
    subst e
    rw [AT.same hN h4 k4 (h2.symm.trans k2), AT.same hN h5 k5 (h3.symm.trans k3)]
theorem AT.lies.lt (hN : NodeSays Nd) {W : World} {B : Nat} : ∀ {T : AT}, T.lies Nd W B → ∀ a ∈ T.addrs, a.block < B
  | .e, _, a, h => by cases h
  | .n b x l r, ⟨h1, _, _, h4, h5⟩, a, h => by
    rcases AT.mem_n.1 h with rfl | h | h
    · exact hN.lt h1
    · exact h4.lt hN a h
    · exact h5.lt hN a h
/-- each node of a tree is one's root that lies there, all of whose nodes are the tree's -/
theorem AT.sub_at {W : World} {B : Nat} : ∀ {T : AT}, T.lies Nd W B → ∀ a ∈ T.addrs, ∃ V : AT, V.ptr = some a ∧ V.lies Nd W B ∧ ∀ b ∈ V.addrs, b ∈ T.addrs
  | .e, _, a, h => by cases h
  | .n b x l r, ht, a, h => by
    have ht0 := ht
    obtain ⟨h1, h2, h3, h4, h5⟩ := ht
    rcases AT.mem_n.1 h with rfl | h | h
    · exact ⟨.n a x l r, rfl, ht0, fun b hb => hb⟩
    · obtain ⟨V, e, hv, hs⟩ := AT.sub_at h4 a h
      exact ⟨V, e, hv, fun b hb => AT.mem_n.2 (.inr (.inl (hs b hb)))⟩
    · obtain ⟨V, e, hv, hs⟩ := AT.sub_at h5 a h
      exact ⟨V, e, hv, fun b hb => AT.mem_n.2 (.inr (.inr (hs b hb)))⟩
/-- all of a node that is a tree's is the tree's -/
theorem AT.closed (hN : NodeSays Nd) {W : World} {B B' : Nat} {U V : AT} (hu : U.lies Nd W B) (hv : V.lies Nd W B') {a : Addr} (ha : V.ptr = some a) (hm : a ∈ U.addrs) : ∀ b ∈ V.addrs, b ∈ U.addrs := by
  obtain ⟨V', e, hv', hs⟩ := AT.sub_at hu a hm
  rw [AT.same hN hv hv' (ha.trans e.symm)]
  exact hs
/-- the highest nodes of a tree that are in a row, behind others -/
def AT.tops (O : List Addr) : AT → List AT → List AT
  | .e, out => out
  | .n a x l r, out => if a ∈ O then (if some a ∈ out.map AT.ptr then out else out ++ [.n a x l r]) else r.tops O (l.tops O out)
theorem AT.tops_more (O : List Addr) : ∀ (T : AT) (out : List AT), ∀ V ∈ out, V ∈ T.tops O out
  | .e, _, _, h => h
  | .n a x l r, out, V, h => by
    rw [AT.tops]
    split
    · split
      · exact h
      · exact List.mem_append_left _ h
    · exact AT.tops_more O r _ V (AT.tops_more O l out V h)
/-- each of them is the tree's, and in the row -/
theorem AT.tops_in {W : World} {B : Nat} (O : List Addr) : ∀ (T : AT) (out : List AT), T.lies Nd W B → ∀ V ∈ T.tops O out, V ∈ out ∨ (V.lies Nd W B ∧ (∃ a, V.ptr = some a ∧ a ∈ O) ∧ ∀ b ∈ V.addrs, b ∈ T.addrs)
  | .e, _, _, _, h => .inl h
  | .n a x l r, out, ht, V, h => by
    have ht0 := ht
    obtain ⟨h1, h2, h3, h4, h5⟩ := ht
    rw [AT.tops] at h
    split at h
    · rename_i ha
      split at h
      · exact .inl h
      · rcases List.mem_append.1 h with h | h
        · exact .inl h
        · rw [List.mem_singleton.1 h]
          exact .inr ⟨ht0, ⟨a, rfl, ha⟩, fun b hb => hb⟩
    · rcases AT.tops_in O r _ h5 V h with h | ⟨k1, k2, k3⟩
      · rcases AT.tops_in O l out h4 V h with h | ⟨k1, k2, k3⟩
        · exact .inl h
        · exact .inr ⟨k1, k2, fun b hb => AT.mem_n.2 (.inr (.inl (k3 b hb)))⟩
      · exact .inr ⟨k1, k2, fun b hb => AT.mem_n.2 (.inr (.inr (k3 b hb)))⟩
/-- whatever of the tree is in the row is one of theirs -/
theorem AT.tops_all (hN : NodeSays Nd) {W : World} {B : Nat} (O : List Addr) : ∀ (T : AT) (out : List AT), T.lies Nd W B → (∀ V ∈ out, V.lies Nd W B) → ∀ a ∈ T.addrs, a ∈ O → ∃ V ∈ T.tops O out, a ∈ V.addrs
  | .e, _, _, _, a, h, _ => by cases h
  | .n b x l r, out, ht, ho, a, h, hO => by
    have ht0 := ht
    obtain ⟨h1, h2, h3, h4, h5⟩ := ht
    have hl : ∀ V ∈ l.tops O out, V.lies Nd W B := fun V hV => (AT.tops_in O l out h4 V hV).elim (ho V) (fun k => k.1)
    rw [AT.tops]
    split
    · rename_i hb
      split
      · rename_i hm
        obtain ⟨V, hV, e⟩ := List.mem_map.1 hm
        refine ⟨V, hV, ?_⟩
        rw [AT.same hN (ho V hV) ht0 e]
        exact h
      · exact ⟨_, List.mem_append_right _ (List.mem_singleton.2 rfl), h⟩
    · rename_i hb
      rcases AT.mem_n.1 h with rfl | h | h
      · exact absurd hO hb
      · obtain ⟨V, hV, k⟩ := AT.tops_all hN O l out h4 ho a h hO
        exact ⟨V, AT.tops_more O r _ V hV, k⟩
      · exact AT.tops_all hN O r _ h5 hl a h hO
/-- they lie at places of their own -/
theorem AT.tops_nodup (O : List Addr) : ∀ (T : AT) (out : List AT), (out.map AT.ptr).Nodup → ((T.tops O out).map AT.ptr).Nodup
  | .e, _, h => h
  | .n a x l r, out, h => by
    rw [AT.tops]
    split
    · split
      · exact h
      · rename_i hm
        rw [List.map_append, List.nodup_append]
        refine ⟨h, by simp, ?_⟩
        intro p hp q hq e
        subst e
        rw [List.map_cons, List.map_nil, List.mem_singleton] at hq
        rw [hq] at hp
        exact hm hp
    · exact AT.tops_nodup O r _ (AT.tops_nodup O l out h)
/-- the answers of layer 13 -/
abbrev topsOf (O : List Addr) (T : AT) : List AT := T.tops O []
theorem tops_len {W : World} {B : Nat} (O : List Addr) (T : AT) (ht : T.lies Nd W B) : (topsOf O T).length ≤ card T.addrs := by
  have h1 := AT.tops_nodup O T [] List.nodup_nil
  have h2 := AT.tops_in (Nd := Nd) O T [] ht
  have h3 : ∀ V ∈ topsOf O T, ∃ a, V.ptr = some a ∧ a ∈ T.addrs := fun V hV => by
    rcases h2 V hV with h | ⟨_, ⟨a, e, _⟩, k⟩
    · cases h
    · exact ⟨a, e, k a (AT.root_mem e)⟩
  have e1 : card ((topsOf O T).map AT.ptr) = (topsOf O T).length := by rw [card_nodup _ h1, List.length_map]
  have e2 : card ((topsOf O T).map AT.ptr) ≤ card (T.addrs.map some) := card_sub fun p hp => by
    obtain ⟨V, hV, rfl⟩ := List.mem_map.1 hp
    obtain ⟨a, e, ha⟩ := h3 V hV
    rw [e]; exact List.mem_map.2 ⟨a, ha, rfl⟩
  have e3 : ∀ l : List Addr, card (l.map some) = card l := fun l => by
    induction l with
    | nil => rfl
    | cons a l ih => simp only [List.map_cons, card, ih, List.mem_map, Option.some.injEq, exists_eq_right]
  rw [e3] at e2
  omega
/-- all that the tops have is what a tree and an old one have in common -/
theorem tops_card (hN : NodeSays Nd) {W : World} {B B' : Nat} {T U : AT} (ht : T.lies Nd W B) (hu : U.lies Nd W B') : card (addrsOf (topsOf U.addrs T)) = sameC T.addrs U.addrs := card_eq fun a => by
  simp only [addrsOf, List.mem_flatMap, List.mem_filter, decide_eq_true_eq]
  constructor
  · rintro ⟨V, hV, ha⟩
    rcases AT.tops_in (Nd := Nd) U.addrs T [] ht V hV with h | ⟨k1, ⟨b, e, hb⟩, k3⟩
    · cases h
    · exact ⟨k3 a ha, AT.closed hN hu k1 e hb a ha⟩
  · rintro ⟨ha, hb⟩
    exact AT.tops_all hN U.addrs T [] ht (fun _ h => by cases h) a ha hb
end Go.Proofs.Ytfbmpgffekhmhaa
/- Pairs of a join (the document's own), sums of pairs, how many addresses a tree has: what the layers of joins share. -/
namespace Go.Proofs.Ytfbmpgffekhmhaa
open Go.RowKit Go.Proofs.Rowm Go.Proofs.Treem
set_option maxRecDepth 100000

set_option maxHeartbeats 4000000 in
theorem refPairs15 (tl tr : Tr) (k v : BitVec 64) (A A' : Option Addr) (i j c c' : Nat) (la lb : List Bd) (hla : la.map strip = tl.pre) (hlb : lb.map strip = tr.pre) (hi : tl.size = i) (hj : tr.size = j) (hi5 : i ≤ 1000) (hj5 : j ≤ 1000) (w : World) (h : LieB w w.heap.size A i c la) (q : LieB w w.heap.size A' j c' lb) :
    Calls Try.prog 32 #[.slice A i c, K k, K v, .slice A' j c'] w fun e w' => ∃ x, e = .returned x ∧ w'.ownsRow w.heap.size 40 2 x (i + 1 + j) (flat (tl.pairs ++ (k, v) :: tr.pairs)) ∧ Below w.heap.size w w' := by
  obtain ⟨i0, hin, hz0, hz1, hz2⟩ := info_parts info_pair
  have c1 := Lib.hid (refPairs9 tl A i c _ la hla hi hi5 w (Nat.le_refl _) h)
  have c2 := Lib.hid (fun W (hb : Below w.heap.size w W) => refPairs9 tr A' j c' w.heap.size lb hlb hj hj5 W hb.size (q.next hb))
  have rlen : (flat tr.pairs).length = j * 2 := by rw [flat_length, pairs_len, hj]
  clear h q hla hlb hi hj
  go_enter Try.func32, Try.ntmps32
  go_wp2_with fail
  refine c1.out.mono ?_
  rintro e w5 ⟨v5, rfl, ho5, hb5⟩
  have o5 := Lib.hid ho5
  have b5 := Lib.hid hb5
  clear ho5 hb5 c1
  go_wp2_with (at_builtin; refine wpList_append_row rfl _ _ 37 rfl w.heap.size 40 i0 (.agg #[.int .i64 0, .int .i64 0]) 2 16 Try.underlying37 hin hz0 hz1 hz2 rfl (by decide) v5 i (flat tl.pairs) rfl (o5.out.alloc _) (some ⟨w5.heap.size, 0, none⟩) 1 1 [K k, K v] rfl (by simp) (Nat.le_refl _) rfl _ (Has.new w5 40 #[K k, K v]).row (flat_one [(k, v)]) (by unfold maxLen; omega) (by omega) (b5.out.alloc b5.out.size _).size ?_)
  intro v6 w6 hown hgrow
  have o6 := Lib.hid hown
  have b6 := Lib.hid ((b5.out.alloc b5.out.size _).grown hgrow (by have := b5.out.size; simp only [World.size_alloc]; omega) (fun r e => (o5.out.lt r e).1))
  clear hown hgrow
  go_wp2_with fail
  refine (c2.out w6 b6.out).mono ?_
  rintro e w7 ⟨v7, rfl, ho7, hb7⟩
  obtain ⟨A7, c7, rfl, q7, -, nz7⟩ := own_slice ho7
  have rw7 := Lib.hid (Row.of_own ho7)
  have o7 := Lib.hid (owned_next o6.out hb7)
  have b7 := Lib.hid (Below.after b6.out hb7)
  clear hb7 ho7 o6 b6
  go_wp2_with (at_builtin; refine wpList_append_row rfl _ _ 37 rfl w.heap.size 40 i0 (.agg #[.int .i64 0, .int .i64 0]) 2 16 Try.underlying37 hin hz0 hz1 hz2 rfl (by decide) v6 (i + 1) (flat tl.pairs ++ [K k, K v]) rfl o7.out A7 j c7 (flat tr.pairs) rfl nz7 q7 rlen w7.heap.size rw7.out (flat_one _) (by unfold maxLen; omega) (by omega) b7.out.size ?_)
  intro v8 w8 hown hgrow
  have o8 := Lib.hid hown
  have b8 := Lib.hid (b7.out.grown hgrow b7.out.size (fun r e => (o7.out.lt r e).1))
  clear hown hgrow
  go_wp2
  go_ret
  refine ⟨v8, rfl, ?_, b8.out⟩
  have := o8.out
  rw [flat_append, flat_cons]
  exact this
/-- the values together -/
def sumP (l : List (BitVec 64 × BitVec 64)) : BitVec 64 := l.foldr (fun p s => p.2 + s) 0#64
theorem sumP_append (l r : List (BitVec 64 × BitVec 64)) : sumP (l ++ r) = sumP l + sumP r := by
  induction l with
  | nil => simp [sumP]
  | cons p l ih =>
    show p.2 + sumP (l ++ r) = p.2 + sumP l + sumP r
    rw [ih, BitVec.add_assoc]
theorem sum_pairs : ∀ t : Tr, t.sum = sumP t.pairs
  | .e => rfl
  | .n l k v g r => by
    rw [Tr.sum, Tr.pairs, sumP_append, sum_pairs l, sum_pairs r]
    show _ = sumP l.pairs + (v + sumP r.pairs)
    rw [BitVec.add_assoc]
theorem addrs_size : ∀ T : AT, T.addrs.length = T.tr.size
  | .e => rfl
  | .n a x l r => by
    have h1 := addrs_size l
    have h2 := addrs_size r
    simp only [AT.addrs, AT.tr, Tr.size, List.length_append, List.length_cons, h1, h2]
    omega
end Go.Proofs.Ytfbmpgffekhmhaa
/- Layer 19: the document's own answers: Joined, Most. Made by wip/gen/layer19.py. -/
namespace Go.Proofs.Ytfbmpgffekhmhaa
open Go.RowKit Go.Proofs.Rowm Go.Proofs.Treem Go.Proofs.Cardm
set_option maxRecDepth 100000

/-- how many nodes of a join may be new -/
def mostW (l r : Tr) : Nat := 6 * (max (rankN l.size) (rankN r.size) - min (rankN l.size) (rankN r.size)) + 1
theorem rank_few {n : Nat} (h : n ≤ 5000) : rankN n ≤ 100 := by
  unfold rankN
  exact Nat.le_of_lt ((Nat.log2_lt (by omega)).2 (Nat.lt_of_le_of_lt (show n + 1 ≤ 5001 by omega) (by decide)))
set_option maxHeartbeats 4000000 in
theorem refMost19 (tl tr : Tr) (A A' : Option Addr) (i j c c' : Nat) (hi : tl.size = i) (hj : tr.size = j) (hi5 : i ≤ 5000) (hj5 : j ≤ 5000) (w : World) :
    Calls Try.prog 16 #[.slice A i c, .slice A' j c'] w fun e w' => e = .returned (nI (mostW tl tr)) ∧ w = w' := by
  have c1 := Lib.hid (fun w => refRank18 i (by omega) w)
  have c2 := Lib.hid (fun w => refRank18 j (by omega) w)
  have h1 := rank_few hi5
  have h2 := rank_few hj5
  unfold mostW
  rw [hi, hj]
  obtain ⟨P, hP⟩ : ∃ P, rankN i = P := ⟨_, rfl⟩
  obtain ⟨Q, hQ⟩ : ∃ Q, rankN j = Q := ⟨_, rfl⟩
  rw [hP] at c1 h1 ⊢
  rw [hQ] at c2 h2 ⊢
  clear hP hQ hi hj hi5 hj5
  rcases Nat.lt_or_ge P Q with hPQ | hPQ
  · rw [Nat.max_eq_right (Nat.le_of_lt hPQ), Nat.min_eq_left (Nat.le_of_lt hPQ)]
    obtain ⟨d, hd⟩ : ∃ d, 6 * (Q - P) + 1 = d := ⟨_, rfl⟩
    rw [hd]
    go_enter Try.func16, Try.ntmps16
    go_wp2_with fail
    refine (c1.out w).mono ?_
    rintro e w' ⟨rfl, rfl⟩
    go_wp2_with fail
    refine (c2.out w).mono ?_
    rintro e w' ⟨rfl, rfl⟩
    go_wp2
    all_goals first
      | (exfalso; omega)
      | (go_ret; exact ⟨rfl, rfl⟩)
      | (go_ret; exact ⟨by simp [nI]; omega, rfl⟩)
  · rw [Nat.max_eq_left hPQ, Nat.min_eq_right hPQ]
    obtain ⟨d, hd⟩ : ∃ d, 6 * (P - Q) + 1 = d := ⟨_, rfl⟩
    rw [hd]
    go_enter Try.func16, Try.ntmps16
    go_wp2_with fail
    refine (c1.out w).mono ?_
    rintro e w' ⟨rfl, rfl⟩
    go_wp2_with fail
    refine (c2.out w).mono ?_
    rintro e w' ⟨rfl, rfl⟩
    go_wp2
    all_goals first
      | (exfalso; omega)
      | (go_ret; exact ⟨rfl, rfl⟩)
      | (go_ret; exact ⟨by simp [nI]; omega, rfl⟩)
set_option maxHeartbeats 8000000 in
theorem refJoined19 (tl tr J : Tr) (k v : BitVec 64) (A A' C : Option Addr) (i j c c' d : Nat) (la lb lj : List Bd) (hla : la.map strip = tl.pre) (hlb : lb.map strip = tr.pre) (hlj : lj.map strip = J.pre) (hi : tl.size = i) (hj : tr.size = j) (hi5 : i ≤ 400) (hj5 : j ≤ 400)
    (hE : mayW J = true) (hP : J.pairs = tl.pairs ++ (k, v) :: tr.pairs) (N : Nat) (hN : i + 1 + j = N) (w : World) (h : LieB w w.heap.size A i c la) (q : LieB w w.heap.size A' j c' lb) (r : LieB w w.heap.size C N d lj) :
    Calls Try.prog 12 #[.slice C N d, .slice A i c, K k, K v, .slice A' j c'] w fun e w' => e = .returned (.bool true) ∧ Below w.heap.size w w' := by
  have hJs : J.size = N := by rw [← pairs_len, hP, List.length_append, List.length_cons, pairs_len, pairs_len, hi, hj]; omega
  have cM := Lib.hid (fun W (h : LieB W W.heap.size C N d lj) => refMay18 J C N d _ lj hlj hJs (by omega) W (Nat.le_refl _) h)
  rw [hE] at cM
  have cP := Lib.hid (fun W (h : LieB W W.heap.size C N d lj) => refPairs9 J C N d W.heap.size lj hlj hJs (by omega) W (Nat.le_refl _) h)
  rw [hP] at cP
  have cQ := Lib.hid (fun W h q => refPairs15 tl tr k v A A' i j c c' la lb hla hlb hi hj (by omega) (by omega) W h q)
  rw [hN] at cQ
  have hln : Hid ((tl.pairs ++ (k, v) :: tr.pairs).length = N) := by show _ = _; rw [← hP, pairs_len, hJs]
  have hN9 : N ≤ 1000 := by omega
  have hL := Lib.hid h
  have hM := Lib.hid q
  have hJ := Lib.hid r
  clear h q r hla hlb hlj hi hj hJs hE hP hN
  have B_0 := Lib.hid (Below.refl w.heap.size w)
  go_enter Try.func12, Try.ntmps12
  go_wp2_with fail
  refine (cM.out w hJ.out).mono ?_
  rintro e w1 ⟨rfl, hb⟩
  have L_1 := Lib.hid (hL.out.after hb)
  have M_1 := Lib.hid (hM.out.after hb)
  have J_1 := Lib.hid (hJ.out.after hb)
  have B_1 := Lib.hid (Below.after B_0.out hb)
  clear hL hM hJ B_0
  clear hb
  go_wp2_with fail
  refine (cP.out w1 J_1.out).mono ?_
  rintro e w2 ⟨v2, rfl, ho, hb⟩
  have L_2 := Lib.hid (L_1.out.after hb)
  have M_2 := Lib.hid (M_1.out.after hb)
  have J_2 := Lib.hid (J_1.out.after hb)
  have B_2 := Lib.hid (Below.after B_1.out hb)
  clear L_1 M_1 J_1 B_1
  clear hb
  obtain ⟨A2, c2, rfl, -, -, -⟩ := own_slice ho
  have o2 := Lib.hid (Row.of_own ho)
  clear ho
  go_wp2_with fail
  refine (cQ.out w2 L_2.out M_2.out).mono ?_
  rintro e w3 ⟨v3, rfl, ho, hb⟩
  have o2' := Lib.hid (o2.out.next hb)
  have L_3 := Lib.hid (L_2.out.after hb)
  have M_3 := Lib.hid (M_2.out.after hb)
  have J_3 := Lib.hid (J_2.out.after hb)
  have B_3 := Lib.hid (Below.after B_2.out hb)
  clear L_2 M_2 J_2 B_2
  clear hb
  obtain ⟨A3, c3, rfl, -, -, -⟩ := own_slice ho
  have o3 := Lib.hid (Row.of_own ho)
  clear ho o2
  go_wp2_with fail
  refine (samePairs_yes A2 A3 N c2 c3 _ hln.out hN9 w3 o2'.out o3.out).mono ?_
  rintro e w4 ⟨rfl, hb⟩
  have L_4 := Lib.hid (L_3.out.after hb)
  have M_4 := Lib.hid (M_3.out.after hb)
  have J_4 := Lib.hid (J_3.out.after hb)
  have B_4 := Lib.hid (Below.after B_3.out hb)
  clear L_3 M_3 J_3 B_3
  clear hb
  go_wp2
  go_ret
  exact ⟨rfl, B_4.out⟩
end Go.Proofs.Ytfbmpgffekhmhaa
/- Layer 18: what package wb has to answer. Made by wip/gen/layer18laws.py. -/
namespace Go.Proofs.Ytfbmpgffekhmhaa
open Go.RowKit Go.Proofs.Treem
set_option maxRecDepth 100000
variable {Nd : NdP}

/-- what the functions of package wb have to answer -/
structure WbSays (Nd : NdP) : Prop where
  make : ∀ (w : World) (L R : AT) (k v : BitVec 64), Stand Nd w L → Stand Nd w R → Calls Try.prog 65 #[.pointer L.ptr, K k, K v, .pointer R.ptr] w (Made13 Nd L R k v 0#64 w)
  like : ∀ (w : World) (a b : Int), -9223372036854775808 ≤ a → a ≤ 9223372036854775807 → -9223372036854775808 ≤ b → b ≤ 9223372036854775807 → Calls Try.prog 59 #[.int .i64 a, .int .i64 b] w fun e w' => e = .returned (.bool (likeI a b)) ∧ Below w.heap.size w w'
  weight : ∀ (w : World) (t : Tr) (p : Option Addr), TreeAt Nd w w.heap.size t p → t.size ≤ 5000 → Calls Try.prog 28 #[.pointer p] w fun e w' => e = .returned (nI (t.size + 1)) ∧ Below w.heap.size w w'
  check : ∀ (w : World) (t : Tr) (p : Option Addr), TreeAt Nd w w.heap.size t p → t.size ≤ 5000 → Calls Try.prog 38 #[.pointer p] w fun e w' => e = .returned (.tuple #[nI (placeF rootW t), nI (errF rootW t)]) ∧ Below w.heap.size w w'
  may : ∀ (w : World) (t : Tr) (p : Option Addr), TreeAt Nd w w.heap.size t p → t.size ≤ 5000 → Calls Try.prog 19 #[.pointer p] w fun e w' => e = .returned (.bool (mayW t)) ∧ Below w.heap.size w w'
  rank : ∀ (w : World) (t : Tr) (p : Option Addr), TreeAt Nd w w.heap.size t p → t.size ≤ 5000 → Calls Try.prog 33 #[.pointer p] w fun e w' => e = .returned (nI (rankN t.size)) ∧ Below w.heap.size w w'
/-- what Make makes of any two trees -/
theorem WbSays.makeT (hN : NodeSays Nd) (hS : WbSays Nd) (w : World) (t u : Tr) (p q : Option Addr) (k v : BitVec 64) (h1 : TreeAt Nd w w.heap.size t p) (h2 : TreeAt Nd w w.heap.size u q) :
    Calls Try.prog 65 #[.pointer p, K k, K v, .pointer q] w (Stood Nd w p q t u k v 0#64) := by
  obtain ⟨L, rfl, hL, rfl⟩ := AT.of_tree t p h1
  obtain ⟨R, rfl, hR, rfl⟩ := AT.of_tree u q h2
  exact (hS.make w L R k v ⟨hL, h1⟩ ⟨hR, h2⟩).mono fun e w' h => stood_of_made hN h
/-- the example's trees -/
def exU : Tr := makeW .e 1#64 0#64 .e
def exV : Tr := makeW .e 3#64 0#64 .e
def exX : Tr := makeW exU 2#64 0#64 exV
def exY : Tr := makeW exX 4#64 0#64 exU
def exZ : Tr := makeW exX 4#64 0#64 exX
end Go.Proofs.Ytfbmpgffekhmhaa
/- Layer 18: the chapter's examples (alive). Made by wip/gen/layer18laws.py. -/
namespace Go.Proofs.Ytfbmpgffekhmhaa
open Go.RowKit Go.Proofs.Treem
set_option maxRecDepth 100000
variable {Nd : NdP}

end Go.Proofs.Ytfbmpgffekhmhaa
/- Layer 19: what package wbjoin has to answer; which arguments make joins. Made by wip/gen/layer19.py. -/
namespace Go.Proofs.Ytfbmpgffekhmhaa
open Go.RowKit Go.Proofs.Rowm Go.Proofs.Treem Go.Proofs.Cardm
set_option maxRecDepth 100000
variable {Nd : NdP}

/-- a join that was made -/
def Joined19 (Nd : NdP) (L R : AT) (k v : BitVec 64) (w : World) (e : Ending) (w' : World) : Prop :=
  ∃ J : AT, e = .returned (.pointer J.ptr) ∧ Stand Nd w' J ∧ mayW J.tr = true ∧ J.tr.pairs = L.tr.pairs ++ (k, v) :: R.tr.pairs ∧
    1 ≤ newC J.addrs (addrsOf [L, R]) ∧ newC J.addrs (addrsOf [L, R]) ≤ mostW L.tr R.tr ∧ Below w.heap.size w w'
/-- what the functions of package wbjoin have to answer -/
structure WbjSays (Nd : NdP) : Prop where
  join : ∀ (w : World) (L R : AT) (k v : BitVec 64), Stand Nd w L → Stand Nd w R → mayW L.tr = true → mayW R.tr = true → L.tr.size ≤ 1000 → R.tr.size ≤ 1000 → Calls Try.prog 11 #[.pointer L.ptr, K k, K v, .pointer R.ptr] w (Joined19 Nd L R k v w)
  most : ∀ (w : World) (t u : Tr) (p q : Option Addr), TreeAt Nd w w.heap.size t p → TreeAt Nd w w.heap.size u q → t.size ≤ 5000 → u.size ≤ 5000 → Calls Try.prog 15 #[.pointer p, .pointer q] w fun e w' => e = .returned (nI (mostW t u)) ∧ Below w.heap.size w w'
/-- the statement's own test of its arguments, at whatever world -/
def Long19 (w : World) (A : Option Addr) (n c : Nat) (A' : Option Addr) (m d : Nat) (b : Bool) : Prop := ∀ W : World, Below w.heap.size w W → Calls Try.prog 6 #[.slice A n c, .slice A' m d] W fun e w' => e = .returned (.bool b) ∧ Below W.heap.size W w'
theorem long19_1 {w : World} {A A' : Option Addr} {n c m d : Nat} (h : LongAt w A n c true) : Long19 w A n c A' m d true := fun W hW => by
  have c0 := Lib.hid (h W hW)
  clear h
  go_enter Try.func6, Try.ntmps6
  go_wp2_with fail
  refine c0.out.mono ?_
  rintro e w' ⟨rfl, rfl⟩
  go_wp2
  go_ret
  exact ⟨rfl, Below.refl _ _⟩
theorem long19_2 {w : World} {A A' : Option Addr} {n c m d : Nat} (h : LongAt w A n c false) (h2 : LongAt w A' m d true) : Long19 w A n c A' m d true := fun W hW => by
  have c0 := Lib.hid (h W hW)
  have c1 := Lib.hid (h2 W hW)
  clear h h2
  go_enter Try.func6, Try.ntmps6
  go_wp2_with fail
  refine c0.out.mono ?_
  rintro e w' ⟨rfl, rfl⟩
  go_wp2_with fail
  refine c1.out.mono ?_
  rintro e w' ⟨rfl, rfl⟩
  go_wp2
  go_ret
  exact ⟨rfl, Below.refl _ _⟩
theorem long19_3 {w : World} {A A' : Option Addr} {n c m d : Nat} {l : List Bd} {t : Tr} (h : LongAt w A n c false) (h2 : LongAt w A' m d false) (ht : TreeIn w A n c l t) (hm : mayW t = false) : Long19 w A n c A' m d true := fun W hW => by
  have c0 := Lib.hid (h W hW)
  have c1 := Lib.hid (h2 W hW)
  have c2 := Lib.hid (refMay18 t A n c w.heap.size l ht.pre ht.size (by have := ht.few; omega) W hW.size (ht.lie.next hW))
  rw [hm] at c2
  clear h h2 ht
  go_enter Try.func6, Try.ntmps6
  go_wp2_with fail
  refine c0.out.mono ?_
  rintro e w' ⟨rfl, rfl⟩
  go_wp2_with fail
  refine c1.out.mono ?_
  rintro e w' ⟨rfl, rfl⟩
  go_wp2_with fail
  refine c2.out.mono ?_
  rintro e w1 ⟨rfl, hb⟩
  have b1 := Lib.hid hb
  clear hb
  go_wp2
  go_ret
  exact ⟨rfl, b1.out⟩
theorem long19_4 {w : World} {A A' : Option Addr} {n c m d : Nat} {l r : List Bd} {t u : Tr} (h : LongAt w A n c false) (h2 : LongAt w A' m d false) (ht : TreeIn w A n c l t) (hu : TreeIn w A' m d r u) (hm : mayW t = true) (b : Bool) (hb : mayW u = !b) : Long19 w A n c A' m d b := fun W hW => by
  have c0 := Lib.hid (h W hW)
  have c1 := Lib.hid (h2 W hW)
  have c2 := Lib.hid (refMay18 t A n c w.heap.size l ht.pre ht.size (by have := ht.few; omega) W hW.size (ht.lie.next hW))
  have c3 := Lib.hid (fun W (hW : Below w.heap.size w W) => refMay18 u A' m d w.heap.size r hu.pre hu.size (by have := hu.few; omega) W hW.size (hu.lie.next hW))
  rw [hm] at c2
  rw [hb] at c3
  have B0 := Lib.hid hW
  clear h h2 ht hu hW
  go_enter Try.func6, Try.ntmps6
  go_wp2_with fail
  refine c0.out.mono ?_
  rintro e w' ⟨rfl, rfl⟩
  go_wp2_with fail
  refine c1.out.mono ?_
  rintro e w' ⟨rfl, rfl⟩
  go_wp2_with fail
  refine c2.out.mono ?_
  rintro e w1 ⟨rfl, hb⟩
  have b1 := Lib.hid hb
  have B1 := Lib.hid (Below.after B0.out hb)
  clear hb
  go_wp2_with fail
  refine (c3.out w1 B1.out).mono ?_
  rintro e w2 ⟨rfl, hb⟩
  have b2 := Lib.hid (Below.after b1.out hb)
  clear hb c3
  cases b
  all_goals
    go_wp2
    go_ret
    exact ⟨rfl, b2.out⟩
/-- which arguments make joins -/
theorem long19_or {w : World} {A A' : Option Addr} {n c m d : Nat} {l r : List Bd} (hl : l.length = n) (hn : n ≤ c) (hc : c ≤ maxLen) (hz : A = none → c = 0) (hr : Row w w.heap.size A (flat7 l))
    (kl : r.length = m) (kn : m ≤ d) (kc : d ≤ maxLen) (kz : A' = none → d = 0) (kr : Row w w.heap.size A' (flat7 r)) :
    Long19 w A n c A' m d true ∨ (Long19 w A n c A' m d false ∧ ∃ t u, TreeIn w A n c l t ∧ TreeIn w A' m d r u ∧ mayW t = true ∧ mayW u = true) := by
  rcases long_or hl hn hc hz hr with h | ⟨h, t, ht⟩
  · exact .inl (long19_1 h)
  · rcases long_or kl kn kc kz kr with j | ⟨j, u, hu⟩
    · exact .inl (long19_2 h j)
    · cases e1 : mayW t with
      | false => exact .inl (long19_3 h j ht e1)
      | true =>
        cases e2 : mayW u with
        | false => exact .inl (long19_4 h j ht hu e1 true e2)
        | true => exact .inr ⟨long19_4 h j ht hu e1 false e2, t, u, ht, hu, e1, e2⟩
end Go.Proofs.Ytfbmpgffekhmhaa
/- How many nodes of a tree are new, counted place by place: what each layer of joins counts by (a tree that is taken apart gives back just what it had). -/
namespace Go.Proofs.Ytfbmpgffekhmhaa
open Go.RowKit Go.Proofs.Treem Go.Proofs.Cardm
variable {Nd : NdP}

/-- of a tree's places how many hold a node that is none of some -/
def freshS (base : List Addr) (J : AT) : Nat := (J.addrs.filter fun a => decide (a ∉ base)).length
theorem freshS_e (base : List Addr) : freshS base .e = 0 := rfl
theorem freshS_n (base : List Addr) (a : Addr) (x : No) (l r : AT) : freshS base (.n a x l r) = freshS base l + (if a ∈ base then 0 else 1) + freshS base r := by
  unfold freshS
  rw [AT.addrs, List.filter_append, List.length_append, List.filter_cons]
  by_cases h : a ∈ base
  · rw [if_pos h, if_neg (by simp [h]), Nat.add_zero]
  · rw [if_neg h, if_pos (by simp [h]), List.length_cons]; omega
theorem freshS_new {base : List Addr} {a : Addr} (h : a ∉ base) (x : No) (l r : AT) : freshS base (.n a x l r) = freshS base l + 1 + freshS base r := by rw [freshS_n, if_neg h]
theorem freshS_le (base : List Addr) (a : Addr) (x : No) (l r : AT) : freshS base (.n a x l r) ≤ freshS base l + 1 + freshS base r := by
  rw [freshS_n]; split <;> omega
/-- what is old -/
theorem freshS_old {base : List Addr} {J : AT} (h : ∀ a ∈ J.addrs, a ∈ base) : freshS base J = 0 := by
  unfold freshS
  rw [List.length_eq_zero_iff, List.filter_eq_nil_iff]
  intro a ha
  simp [h a ha]
/-- counted once each there are no more -/
theorem new_le_S (base : List Addr) (J : AT) : newC J.addrs base ≤ freshS base J := card_le _
/-- a root that is new -/
theorem new_root {base : List Addr} {a : Addr} (h : a ∉ base) (x : No) (l r : AT) : 1 ≤ newC (AT.n a x l r).addrs base := by
  unfold newC
  have hm : a ∈ (AT.n a x l r).addrs.filter fun b => decide (b ∉ base) := by
    rw [List.mem_filter]
    exact ⟨AT.mem_n.2 (.inl rfl), by simp [h]⟩
  have h1 := card_sub (l := [a]) (m := (AT.n a x l r).addrs.filter fun b => decide (b ∉ base)) (fun b hb => by rw [List.mem_singleton.1 hb]; exact hm)
  have h2 : card [a] = 1 := by simp [card]
  omega
/-- the sides of what is old are old -/
theorem old_left {base : List Addr} {a : Addr} {x : No} {l r : AT} (h : ∀ b ∈ (AT.n a x l r).addrs, b ∈ base) : ∀ b ∈ l.addrs, b ∈ base := fun b hb => h b (AT.mem_n.2 (.inr (.inl hb)))
theorem old_right {base : List Addr} {a : Addr} {x : No} {l r : AT} (h : ∀ b ∈ (AT.n a x l r).addrs, b ∈ base) : ∀ b ∈ r.addrs, b ∈ base := fun b hb => h b (AT.mem_n.2 (.inr (.inr hb)))
/-- the nodes of two trees -/
theorem of_two {L R : AT} {a : Addr} : a ∈ addrsOf [L, R] ↔ a ∈ L.addrs ∨ a ∈ R.addrs := by simp [addrsOf]
/-- nodes that are made behind a world are none of those that lie in it -/
theorem fresh_two (hN : NodeSays Nd) {W : World} {L R : AT} (hl : Stand Nd W L) (hr : Stand Nd W R) {a : Addr} (ha : W.heap.size ≤ a.block) : a ∉ addrsOf [L, R] := by
  rw [of_two]
  rintro (h | h)
  · have := hl.lies.lt hN a h; omega
  · have := hr.lies.lt hN a h; omega
/-- the sides of a tree that stands there stand there -/
theorem Stand.sides {W : World} {a : Addr} {x : No} {l r : AT} (hN : NodeSays Nd) (h : Stand Nd W (.n a x l r)) : Nd W W.heap.size a x ∧ x.l = l.ptr ∧ x.r = r.ptr ∧ Stand Nd W l ∧ Stand Nd W r := by
  obtain ⟨h1, h2, h3, h4, h5⟩ := h.lies
  obtain ⟨b, pl, pr, e, k2, k3, k4⟩ := h.tree
  cases e
  have hu := hN.uniq h1 k2
  have el : pl = l.ptr := by rw [← h2, hu]
  have er : pr = r.ptr := by rw [← h3, hu]
  subst el er
  exact ⟨h1, h2, h3, ⟨h4, k3⟩, ⟨h5, k4⟩⟩
end Go.Proofs.Ytfbmpgffekhmhaa
/- Layer 13: going over trees whose nodes may stand in them more than once, each node once: what has been met, and what is still to be gone by (a row of trees). No program. -/
namespace Go.Proofs.Ytfbmpgffekhmhaa
open Go.RowKit Go.Proofs.Treem Go.Proofs.Cardm
variable {Nd : NdP}

/-- S has been met (none among it), us is still to be gone by: whoever has been met, its sides have been met, or are still to be gone by -/
structure Vis (Nd : NdP) (W : World) (B : Nat) (S : List (Option Addr)) (us : List AT) : Prop where
  none : Option.none ∈ S
  nodup : S.Nodup
  lies : ∀ U ∈ us, U.lies Nd W B
  edge : ∀ a x l r, (AT.n a x l r).lies Nd W B → some a ∈ S → (l.ptr ∈ S ∨ l ∈ us) ∧ (r.ptr ∈ S ∨ r ∈ us)
section
variable {W : World} {B : Nat} {S : List (Option Addr)} {us : List AT}
theorem Vis.start (W : World) (B : Nat) : Vis Nd W B [Option.none] [] := ⟨List.mem_singleton.2 rfl, by simp, (fun U h => by cases h), fun a x l r _ h => by simp at h⟩
/-- one more tree is to be gone by -/
theorem Vis.push (h : Vis Nd W B S us) {T : AT} (hT : T.lies Nd W B) : Vis Nd W B S (T :: us) :=
  ⟨h.none, h.nodup, fun U hU => (List.mem_cons.1 hU).elim (fun e => e ▸ hT) (h.lies U), fun a x l r hl hs => by
    obtain ⟨h1, h2⟩ := h.edge a x l r hl hs
    exact ⟨h1.imp id (List.mem_cons_of_mem _), h2.imp id (List.mem_cons_of_mem _)⟩⟩
/-- the order in which they are gone by makes no difference here -/
theorem Vis.perm {vs : List AT} (h : Vis Nd W B S us) (hv : ∀ U, U ∈ us ↔ U ∈ vs) : Vis Nd W B S vs :=
  ⟨h.none, h.nodup, fun U hU => h.lies U ((hv U).2 hU), fun a x l r hl hs => by
    obtain ⟨h1, h2⟩ := h.edge a x l r hl hs
    exact ⟨h1.imp id (hv l).1, h2.imp id (hv r).1⟩⟩
/-- one that has been met is passed over -/
theorem Vis.seen {U : AT} (h : Vis Nd W B S (U :: us)) (hU : U.ptr ∈ S) : Vis Nd W B S us :=
  ⟨h.none, h.nodup, fun V hV => h.lies V (List.mem_cons_of_mem _ hV), fun a x l r hl hs => by
    obtain ⟨h1, h2⟩ := h.edge a x l r hl hs
    have k : ∀ V : AT, V ∈ U :: us → V.ptr ∈ S ∨ V ∈ us := fun V hV => (List.mem_cons.1 hV).elim (fun e => .inl (e ▸ hU)) .inr
    exact ⟨h1.elim .inl (k l), h2.elim .inl (k r)⟩⟩
/-- one that has not is met, and its sides are to be gone by -/
theorem Vis.meet (hN : NodeSays Nd) {a : Addr} {x : No} {l r : AT} (h : Vis Nd W B S (.n a x l r :: us)) (ha : some a ∉ S) : Vis Nd W B (S ++ [some a]) (l :: r :: us) := by
  have hl := h.lies _ (List.mem_cons_self ..)
  obtain ⟨h1, h2, h3, h4, h5⟩ := hl
  refine ⟨List.mem_append_left _ h.none, ?_, ?_, ?_⟩
  · rw [List.nodup_append]
    refine ⟨h.nodup, by simp, fun p hp q hq e => ?_⟩
    rw [List.mem_singleton] at hq
    subst e
    rw [hq] at hp
    exact ha hp
  · intro U hU
    rcases List.mem_cons.1 hU with rfl | hU
    · exact h4
    · rcases List.mem_cons.1 hU with rfl | hU
      · exact h5
      · exact h.lies U (List.mem_cons_of_mem _ hU)
  · intro b y l' r' hb hs
    have k : ∀ V : AT, (V.ptr ∈ S ∨ V ∈ AT.n a x l r :: us) → V.ptr ∈ S ++ [some a] ∨ V ∈ l :: r :: us := fun V hV => by
      rcases hV with hV | hV
      · exact .inl (List.mem_append_left _ hV)
      · rcases List.mem_cons.1 hV with rfl | hV
        · exact .inl (List.mem_append_right _ (List.mem_singleton.2 rfl))
        · exact .inr (List.mem_cons_of_mem _ (List.mem_cons_of_mem _ hV))
    rcases List.mem_append.1 hs with hs | hs
    · obtain ⟨k1, k2⟩ := h.edge b y l' r' hb hs
      exact ⟨k l' k1, k r' k2⟩
    · rw [List.mem_singleton] at hs
      cases hs
      have e := AT.same hN hb (show (AT.n a x l r).lies Nd W B from ⟨h1, h2, h3, h4, h5⟩) rfl
      cases e
      exact ⟨.inr (List.mem_cons_self ..), .inr (List.mem_cons_of_mem _ (List.mem_cons_self ..))⟩
/-- where nothing is left all of whatever has been met has been -/
theorem Vis.all (h : Vis Nd W B S []) : ∀ T : AT, T.lies Nd W B → T.ptr ∈ S → ∀ a ∈ T.addrs, some a ∈ S
  | .e, _, _, a, ha => by cases ha
  | .n b x l r, ht, hs, a, ha => by
    obtain ⟨h1, h2⟩ := h.edge b x l r ht hs
    obtain ⟨_, _, _, h4, h5⟩ := ht
    rcases AT.mem_n.1 ha with rfl | ha | ha
    · exact hs
    · exact h.all l h4 (h1.resolve_right (fun k => by cases k)) a ha
    · exact h.all r h5 (h2.resolve_right (fun k => by cases k)) a ha
end
/-- what has been met is of a row of places, and so is what is to be gone by -/
structure Within (L : List Addr) (S : List (Option Addr)) (us : List AT) : Prop where
  met : ∀ a, some a ∈ S → a ∈ L
  left : ∀ U ∈ us, ∀ a ∈ U.addrs, a ∈ L
theorem Within.seen {L : List Addr} {S : List (Option Addr)} {U : AT} {us : List AT} (h : Within L S (U :: us)) : Within L S us := ⟨h.met, fun V hV => h.left V (List.mem_cons_of_mem _ hV)⟩
theorem Within.meet {L : List Addr} {S : List (Option Addr)} {a : Addr} {x : No} {l r : AT} {us : List AT} (h : Within L S (.n a x l r :: us)) : Within L (S ++ [some a]) (l :: r :: us) := by
  have k := h.left _ (List.mem_cons_self ..)
  refine ⟨fun b hb => ?_, fun U hU b hb => ?_⟩
  · rcases List.mem_append.1 hb with hb | hb
    · exact h.met b hb
    · rw [List.mem_singleton] at hb
      cases hb
      exact k a (AT.mem_n.2 (.inl rfl))
  · rcases List.mem_cons.1 hU with rfl | hU
    · exact k b (AT.mem_n.2 (.inr (.inl hb)))
    · rcases List.mem_cons.1 hU with rfl | hU
      · exact k b (AT.mem_n.2 (.inr (.inr hb)))
      · exact h.left U (List.mem_cons_of_mem _ hU) b hb
theorem card_some (l : List Addr) : card (l.map some) = card l := by
  induction l with
  | nil => rfl
  | cons a l ih => simp only [List.map_cons, card, ih, List.mem_map, Option.some.injEq, exists_eq_right]
/-- no more have been met than there are, and none -/
theorem Within.len {L : List Addr} {S : List (Option Addr)} {us : List AT} (h : Within L S us) (hn : S.Nodup) : S.length ≤ card L + 1 := by
  have h1 := card_nodup S hn
  have h2 : card S ≤ card (none :: L.map some) := card_sub fun p hp => by
    cases p with
    | none => exact List.mem_cons_self ..
    | some a => exact List.mem_cons_of_mem _ (List.mem_map.2 ⟨a, h.met a hp, rfl⟩)
  rw [card_cons none _ (by simp), card_some] at h2
  omega
/-- what is left of a walk: it grows less with each step -/
def leftV (L : List Addr) (S : List (Option Addr)) (us : List AT) : Nat := 2 * (card L + 1 - S.length) + us.length
theorem left_seen (L : List Addr) (S : List (Option Addr)) (U : AT) (us : List AT) : leftV L S us < leftV L S (U :: us) := by unfold leftV; rw [List.length_cons]; omega
theorem left_meet {L : List Addr} {S : List (Option Addr)} {a : Addr} {x : No} {l r : AT} {us : List AT} (h : Within L S (.n a x l r :: us)) (hn : S.Nodup) (ha : some a ∉ S) : leftV L (S ++ [some a]) (l :: r :: us) < leftV L S (.n a x l r :: us) := by
  have h1 := h.meet.len (by
    rw [List.nodup_append]
    refine ⟨hn, by simp, fun p hp q hq e => ?_⟩
    rw [List.mem_singleton] at hq
    subst e
    rw [hq] at hp
    exact ha hp)
  unfold leftV
  simp only [List.length_append, List.length_cons, List.length_nil] at h1 ⊢
  omega
/-- as many have been met as there are -/
theorem Vis.count {W : World} {B : Nat} {S : List (Option Addr)} {L : List Addr} (h : Vis Nd W B S []) (hs : ∀ a, some a ∈ S ↔ a ∈ L) : S.length = card L + 1 := by
  have h1 := card_nodup S h.nodup
  have h2 : card S = card (Option.none :: L.map some) := card_eq fun p => by
    cases p with
    | none => simp [h.none]
    | some a => simp [hs a]
  rw [card_cons Option.none _ (by simp), card_some] at h2
  omega
end Go.Proofs.Ytfbmpgffekhmhaa
/- Layer 13, as landed: going over trees by a step that tells of each node whether one goes on from it; what is noted then (a set of nodes), and the highest nodes that are noted. No program. -/
namespace Go.Proofs.Ytfbmpgffekhmhaa
open Go.RowKit Go.Proofs.Treem Go.Proofs.Cardm
variable {Nd : NdP}

section
variable {σ : Type} (step : σ → Option Addr → Bool × σ)
/-- the nodes of a tree from which one goes on, and what there is behind -/
def goV : AT → σ → List AT × σ
  | .e, s => ([], s)
  | .n a x l r, s => if (step s (some a)).1 = true then
      (.n a x l r :: ((goV l (step s (some a)).2).1 ++ (goV r (goV l (step s (some a)).2).2).1), (goV r (goV l (step s (some a)).2).2).2)
    else ([], (step s (some a)).2)
def goL : List AT → σ → List AT × σ
  | [], s => ([], s)
  | T :: us, s => ((goV step T s).1 ++ (goL us (goV step T s).2).1, (goL us (goV step T s).2).2)
theorem goL_e (us : List AT) (s : σ) : goL step (.e :: us) s = goL step us s := by simp [goL, goV]
theorem goL_no {a : Addr} {x : No} {l r : AT} (us : List AT) (s : σ) (h : (step s (some a)).1 = false) : goL step (.n a x l r :: us) s = goL step us (step s (some a)).2 := by simp [goL, goV, h]
theorem goL_yes {a : Addr} {x : No} {l r : AT} (us : List AT) (s : σ) (h : (step s (some a)).1 = true) : goL step (.n a x l r :: us) s = (.n a x l r :: (goL step (l :: r :: us) (step s (some a)).2).1, (goL step (l :: r :: us) (step s (some a)).2).2) := by
  simp [goL, goV, h, List.append_assoc]
theorem goL_one (T : AT) (s : σ) : goL step [T] s = goV step T s := by simp [goL]
end
/-- a node is noted; whether it wasn't -/
def noteStep (S : List (Option Addr)) (p : Option Addr) : Bool × List (Option Addr) := (!decide (p ∈ S), insP S p)
/-- what is noted by going over a tree -/
theorem note_go (hN : NodeSays Nd) {W : World} {B : Nat} {L : List Addr} : ∀ (T : AT) (S : List (Option Addr)) (vs : List AT), Vis Nd W B (none :: S) (T :: vs) → Within L (none :: S) (T :: vs) →
    Vis Nd W B (none :: (goV noteStep T S).2) vs ∧ Within L (none :: (goV noteStep T S).2) vs ∧ (goV noteStep T S).2 = S ++ (goV noteStep T S).1.map AT.ptr ∧ T.ptr ∈ none :: (goV noteStep T S).2 ∧ ∀ V ∈ (goV noteStep T S).1, ∀ b ∈ V.addrs, b ∈ T.addrs
  | .e, S, vs, h, k => ⟨h.seen (List.mem_cons_self ..), k.seen, by simp [goV], List.mem_cons_self .., fun V hV => by simp [goV] at hV⟩
  | .n a x l r, S, vs, h, k => by
    by_cases ha : some a ∈ S
    · have e : goV noteStep (.n a x l r) S = ([], S) := by simp [goV, noteStep, insP, ha]
      rw [e]
      exact ⟨h.seen (List.mem_cons_of_mem _ ha), k.seen, by simp, List.mem_cons_of_mem _ ha, fun V hV => by cases hV⟩
    · have ha' : some a ∉ none :: S := fun hx => (List.mem_cons.1 hx).elim (fun e => by cases e) ha
      have h1 := h.meet hN ha'
      have k1 := k.meet (a := a)
      have i1 : insP S (some a) = S ++ [some a] := by simp [insP, ha]
      obtain ⟨h2, k2, e2, m2, s2⟩ := note_go hN l (S ++ [some a]) (r :: vs) h1 k1
      obtain ⟨h3, k3, e3, m3, s3⟩ := note_go hN r (goV noteStep l (S ++ [some a])).2 vs h2 k2
      have e : goV noteStep (.n a x l r) S = (.n a x l r :: ((goV noteStep l (S ++ [some a])).1 ++ (goV noteStep r (goV noteStep l (S ++ [some a])).2).1), (goV noteStep r (goV noteStep l (S ++ [some a])).2).2) := by simp [goV, noteStep, i1, ha]
      rw [e]
      refine ⟨h3, k3, ?_, ?_, ?_⟩
      · show (goV noteStep r (goV noteStep l (S ++ [some a])).2).2 = _
        rw [e3, e2]
        simp [AT.ptr]
      · refine List.mem_cons_of_mem _ ?_
        show some a ∈ (goV noteStep r (goV noteStep l (S ++ [some a])).2).2
        rw [e3, e2]
        simp
      · intro V hV b hb
        rcases List.mem_cons.1 hV with rfl | hV
        · exact hb
        · rcases List.mem_append.1 hV with hV | hV
          · exact AT.mem_n.2 (.inr (.inl (s2 V hV b hb)))
          · exact AT.mem_n.2 (.inr (.inr (s3 V hV b hb)))
theorem note_all (hN : NodeSays Nd) {W : World} {B : Nat} {L : List Addr} : ∀ (us : List AT) (S : List (Option Addr)), Vis Nd W B (none :: S) us → Within L (none :: S) us →
    Vis Nd W B (none :: (goL noteStep us S).2) [] ∧ Within L (none :: (goL noteStep us S).2) [] ∧ (goL noteStep us S).2 = S ++ (goL noteStep us S).1.map AT.ptr ∧ ∀ T ∈ us, T.ptr ∈ none :: (goL noteStep us S).2
  | [], S, h, k => ⟨h, k, by simp [goL], fun T hT => by cases hT⟩
  | T :: us, S, h, k => by
    obtain ⟨h1, k1, e1, m1, -⟩ := note_go hN T S us h k
    obtain ⟨h2, k2, e2, m2⟩ := note_all hN us _ h1 k1
    refine ⟨h2, k2, ?_, ?_⟩
    · show (goL noteStep us (goV noteStep T S).2).2 = _
      rw [e2]
      show _ = S ++ ((goV noteStep T S).1 ++ (goL noteStep us (goV noteStep T S).2).1).map AT.ptr
      rw [List.map_append, ← List.append_assoc, ← e1]
    · intro V hV
      rcases List.mem_cons.1 hV with rfl | hV
      · show V.ptr ∈ none :: (goL noteStep us (goV noteStep V S).2).2
        rw [e2]
        rcases List.mem_cons.1 m1 with h | h
        · rw [h]; exact List.mem_cons_self ..
        · exact List.mem_cons_of_mem _ (List.mem_append_left _ h)
      · exact m2 V hV
/-- what is noted of trees: their nodes -/
theorem note_is (hN : NodeSays Nd) {W : World} {B : Nat} {us : List AT} {S : List (Option Addr)} {L0 : List Addr} (h : Vis Nd W B (none :: S) []) (hS : ∀ a, some a ∈ S ↔ a ∈ L0) (hl : ∀ U ∈ us, U.lies Nd W B) :
    Vis Nd W B (none :: (goL noteStep us S).2) [] ∧ (∀ a, some a ∈ (goL noteStep us S).2 ↔ a ∈ L0 ++ addrsOf us) ∧ (goL noteStep us S).2 = S ++ (goL noteStep us S).1.map AT.ptr := by
  have hv : Vis Nd W B (none :: S) us := ⟨h.none, h.nodup, hl, fun a x l r hx hs => by
    obtain ⟨h1, h2⟩ := h.edge a x l r hx hs
    exact ⟨.inl (h1.resolve_right (fun k => by cases k)), .inl (h2.resolve_right (fun k => by cases k))⟩⟩
  have hw : Within (L0 ++ addrsOf us) (none :: S) us := ⟨fun a ha => List.mem_append_left _ ((hS a).1 ((List.mem_cons.1 ha).resolve_left (fun e => by cases e))), fun U hU a ha => List.mem_append_right _ (List.mem_flatMap.2 ⟨U, hU, ha⟩)⟩
  obtain ⟨h1, h2, h3, h4⟩ := note_all hN us S hv hw
  refine ⟨h1, fun a => ⟨fun ha => h2.met a (List.mem_cons_of_mem _ ha), fun ha => ?_⟩, h3⟩
  rcases List.mem_append.1 ha with ha | ha
  · rw [h3]; exact List.mem_append_left _ ((hS a).2 ha)
  · obtain ⟨U, hU, ha⟩ := List.mem_flatMap.1 ha
    exact (List.mem_cons.1 (h1.all U (hl U hU) (h4 U hU) a ha)).resolve_left (fun e => by cases e)
theorem note_len {W : World} {B : Nat} {S : List (Option Addr)} {L : List Addr} (h : Vis Nd W B (none :: S) []) (hS : ∀ a, some a ∈ S ↔ a ∈ L) : S.length = card L := by
  have := h.count (L := L) (fun a => ⟨fun ha => (hS a).1 ((List.mem_cons.1 ha).resolve_left (fun e => by cases e)), fun ha => List.mem_cons_of_mem _ ((hS a).2 ha)⟩)
  rw [List.length_cons] at this
  omega
/-- how many are new -/
theorem note_new (hN : NodeSays Nd) {W : World} {B : Nat} {T : AT} {S : List (Option Addr)} {L0 : List Addr} (h : Vis Nd W B (none :: S) []) (hS : ∀ a, some a ∈ S ↔ a ∈ L0) (hl : T.lies Nd W B) :
    (goL noteStep [T] S).1.length = newC T.addrs L0 := by
  obtain ⟨h1, h2, h3⟩ := note_is hN (us := [T]) h hS (fun U hU => by rw [List.mem_singleton.1 hU]; exact hl)
  have e1 := note_len h hS
  have e2 := note_len h1 h2
  rw [h3, List.length_append, List.length_map] at e2
  have e3 : addrsOf [T] = T.addrs := by simp [addrsOf]
  rw [e3, card_append] at e2
  omega
theorem vis_nil (W : World) (B : Nat) : Vis Nd W B [none] [] := Vis.start W B

/-- which nodes are met, each once; which are new; the highest of those that aren't -/
structure Met where
  first : List (Option Addr)
  fresh : List (Option Addr)
  out : List (Option Addr)
def meetStep (m : Met) (p : Option Addr) : Bool × Met :=
  if p ∈ m.first then (false, { m with first := insP m.first p })
  else if p ∈ m.fresh then (false, ⟨insP m.first p, insP m.fresh p, m.out ++ [p]⟩)
  else (true, ⟨insP m.first p, insP m.fresh p, m.out⟩)
/-- all its highest ones are told already -/
def AT.have_ (O : List Addr) (out : List (Option Addr)) : AT → Prop
  | .e => True
  | .n a _ l r => if a ∈ O then some a ∈ out else l.have_ O out ∧ r.have_ O out
theorem AT.have_more {O : List Addr} {out out' : List (Option Addr)} (h : ∀ p ∈ out, p ∈ out') : ∀ T : AT, T.have_ O out → T.have_ O out'
  | .e, _ => trivial
  | .n a x l r, k => by
    unfold AT.have_ at k ⊢
    split
    · rename_i ha; rw [if_pos ha] at k; exact h _ k
    · rename_i ha; rw [if_neg ha] at k; exact ⟨AT.have_more h l k.1, AT.have_more h r k.2⟩
theorem AT.tops_have {O : List Addr} : ∀ (T : AT) (ts : List AT), T.have_ O (ts.map AT.ptr) → T.tops O ts = ts
  | .e, ts, _ => rfl
  | .n a x l r, ts, k => by
    unfold AT.have_ at k
    rw [AT.tops]
    split
    · rename_i ha; rw [if_pos ha] at k; rw [if_pos k]
    · rename_i ha; rw [if_neg ha] at k; rw [AT.tops_have l ts k.1, AT.tops_have r ts k.2]
theorem AT.have_tops {O : List Addr} : ∀ (T : AT) (ts : List AT), T.have_ O ((T.tops O ts).map AT.ptr)
  | .e, ts => trivial
  | .n a x l r, ts => by
    unfold AT.have_
    rw [AT.tops]
    by_cases ha : a ∈ O
    · rw [if_pos ha, if_pos ha]
      split
      · rename_i h; exact h
      · simp [AT.ptr]
    · rw [if_neg ha, if_neg ha]
      refine ⟨AT.have_more (fun p hp => ?_) l (AT.have_tops l ts), AT.have_tops r _⟩
      obtain ⟨V, hV, rfl⟩ := List.mem_map.1 hp
      exact List.mem_map.2 ⟨V, AT.tops_more O r _ V hV, rfl⟩
theorem meet_go (hN : NodeSays Nd) {W : World} {B : Nat} {O : List Addr} : ∀ (T : AT) (m : Met) (ts : List AT), T.lies Nd W B → m.out = ts.map AT.ptr → (∀ p ∈ m.out, p ∈ m.first) → (∀ a, some a ∈ m.fresh ↔ a ∈ O ∨ some a ∈ m.first) →
    (∀ V : AT, V.lies Nd W B → V ≠ .e → V.ptr ∈ m.first → V.size ≤ T.size → V.have_ O m.out) →
    (goV meetStep T m).2.out = (T.tops O ts).map AT.ptr ∧ (∀ p ∈ (goV meetStep T m).2.out, p ∈ (goV meetStep T m).2.first) ∧ (∀ a, some a ∈ (goV meetStep T m).2.fresh ↔ a ∈ O ∨ some a ∈ (goV meetStep T m).2.first) ∧
      (∀ V : AT, V.lies Nd W B → V ≠ .e → V.ptr ∈ (goV meetStep T m).2.first → V.ptr ∈ m.first ∨ V.have_ O (goV meetStep T m).2.out) ∧ (∀ p ∈ m.out, p ∈ (goV meetStep T m).2.out) ∧ (∀ p ∈ m.first, p ∈ (goV meetStep T m).2.first)
  | .e, m, ts, _, h1, h2, h3, h4 => ⟨h1, h2, h3, fun V _ _ hV => .inl hV, fun p hp => hp, fun p hp => hp⟩
  | .n a x l r, m, ts, hT, h1, h2, h3, h4 => by
    have hT0 := hT
    obtain ⟨-, -, -, hl, hr⟩ := hT
    by_cases hf : some a ∈ m.first
    · have e : goV meetStep (.n a x l r) m = ([], m) := by simp [goV, meetStep, hf, insP]
      rw [e]
      have hh := h4 _ hT0 (by simp) hf (Nat.le_refl _)
      rw [h1] at hh
      rw [AT.tops_have _ _ hh]
      exact ⟨h1, h2, h3, fun V _ _ hV => .inl hV, fun p hp => hp, fun p hp => hp⟩
    · have i1 : insP m.first (some a) = m.first ++ [some a] := by simp [insP, hf]
      by_cases hO : a ∈ O
      · have hfr : some a ∈ m.fresh := (h3 a).2 (.inl hO)
        have i2 : insP m.fresh (some a) = m.fresh := by simp [insP, hfr]
        have e : goV meetStep (.n a x l r) m = ([], ⟨m.first ++ [some a], m.fresh, m.out ++ [some a]⟩) := by simp [goV, meetStep, hf, hfr, i1, i2]
        rw [e]
        have hno : some a ∉ ts.map AT.ptr := fun hx => hf (h2 _ (h1 ▸ hx))
        refine ⟨?_, ?_, ?_, ?_, fun p hp => List.mem_append_left _ hp, fun p hp => List.mem_append_left _ hp⟩
        · rw [AT.tops, if_pos hO, if_neg hno, List.map_append, ← h1]; rfl
        · intro p hp
          rcases List.mem_append.1 hp with hp | hp
          · exact List.mem_append_left _ (h2 p hp)
          · exact List.mem_append_right _ hp
        · intro b
          rw [h3 b]
          constructor
          · rintro (h | h)
            · exact .inl h
            · exact .inr (List.mem_append_left _ h)
          · rintro (h | h)
            · exact .inl h
            · rcases List.mem_append.1 h with h | h
              · exact .inr h
              · rw [List.mem_singleton] at h; cases h; exact .inl hO
        · intro V hV hne hp
          rcases List.mem_append.1 hp with hp | hp
          · exact .inl hp
          · rw [List.mem_singleton] at hp
            have := AT.same hN hV hT0 hp
            subst this
            refine .inr ?_
            unfold AT.have_
            rw [if_pos hO]
            exact List.mem_append_right _ (List.mem_singleton.2 rfl)
      · have hfr : some a ∉ m.fresh := fun h => ((h3 a).1 h).elim hO hf
        have i2 : insP m.fresh (some a) = m.fresh ++ [some a] := by simp [insP, hfr]
        obtain ⟨m1, hm1⟩ : ∃ m1 : Met, (⟨m.first ++ [some a], m.fresh ++ [some a], m.out⟩ : Met) = m1 := ⟨_, rfl⟩
        have e : goV meetStep (.n a x l r) m = (.n a x l r :: ((goV meetStep l m1).1 ++ (goV meetStep r (goV meetStep l m1).2).1), (goV meetStep r (goV meetStep l m1).2).2) := by simp [goV, meetStep, hf, hfr, i1, i2, hm1]
        have f1 : m1.first = m.first ++ [some a] := hm1 ▸ rfl
        have f2 : m1.fresh = m.fresh ++ [some a] := hm1 ▸ rfl
        have f3 : m1.out = m.out := hm1 ▸ rfl
        have hs : (AT.n a x l r).size = 1 + l.size + r.size := rfl
        have big : ∀ V : AT, V.lies Nd W B → V.ptr = some a → V.size ≤ 1 + l.size + r.size → V = .n a x l r := fun V hV hp _ => AT.same hN hV hT0 hp
        have a1 := meet_go hN l m1 ts hl (f3.trans h1) (fun p hp => by rw [f1]; exact List.mem_append_left _ (h2 p (f3 ▸ hp))) (fun b => by
            rw [f1, f2]
            constructor
            · intro h
              rcases List.mem_append.1 h with h | h
              · exact ((h3 b).1 h).imp id (List.mem_append_left _)
              · exact .inr (List.mem_append_right _ h)
            · rintro (h | h)
              · exact List.mem_append_left _ ((h3 b).2 (.inl h))
              · rcases List.mem_append.1 h with h | h
                · exact List.mem_append_left _ ((h3 b).2 (.inr h))
                · exact List.mem_append_right _ h)
          (fun V hV hne hp hsz => by
            rw [f3]
            rw [f1] at hp
            rcases List.mem_append.1 hp with hp | hp
            · exact h4 V hV hne hp (by rw [hs]; omega)
            · rw [List.mem_singleton] at hp
              have := AT.same hN hV hT0 hp
              subst this
              rw [hs] at hsz
              omega)
        obtain ⟨c1, c2, c3, c4, c5, c6⟩ := a1
        obtain ⟨m2, hm2⟩ : ∃ m2, (goV meetStep l m1).2 = m2 := ⟨_, rfl⟩
        rw [hm2] at c1 c2 c3 c4 c5 c6
        have a2 := meet_go hN r m2 (l.tops O ts) hr c1 c2 c3 (fun V hV hne hp hsz => by
            rcases c4 V hV hne hp with hp | hh
            · rw [f1] at hp
              rcases List.mem_append.1 hp with hp | hp
              · exact AT.have_more (fun p hq => c5 p (f3.symm ▸ hq)) V (h4 V hV hne hp (by rw [hs]; omega))
              · rw [List.mem_singleton] at hp
                have := AT.same hN hV hT0 hp
                subst this
                rw [hs] at hsz
                omega
            · exact hh)
        obtain ⟨d1, d2, d3, d4, d5, d6⟩ := a2
        rw [e, hm2]
        have hend : (goV meetStep r m2).2.out = ((AT.n a x l r).tops O ts).map AT.ptr := by rw [d1, AT.tops, if_neg hO]
        refine ⟨hend, d2, d3, fun V hV hne hp => ?_, fun p hp => d5 p (c5 p (f3.symm ▸ hp)), fun p hp => d6 p (c6 p (by rw [f1]; exact List.mem_append_left _ hp))⟩
        rcases d4 V hV hne hp with hp | hh
        · rcases c4 V hV hne hp with hp | hh
          · rw [f1] at hp
            rcases List.mem_append.1 hp with hp | hp
            · exact .inl hp
            · rw [List.mem_singleton] at hp
              have := AT.same hN hV hT0 hp
              subst this
              refine .inr ?_
              show AT.have_ O (goV meetStep r m2).2.out (.n a x l r)
              rw [hend]
              exact AT.have_tops _ _
          · exact .inr (AT.have_more (fun p hq => d5 p hq) V hh)
        · exact .inr hh
/-- the highest ones that aren't new -/
theorem meet_tops (hN : NodeSays Nd) {W : World} {B : Nat} {O : List Addr} {T : AT} {S : List (Option Addr)} (hT : T.lies Nd W B) (hS : ∀ a, some a ∈ S ↔ a ∈ O) :
    (goL meetStep [T] ⟨[], S, []⟩).2.out = (topsOf O T).map AT.ptr := by
  rw [goL_one]
  exact (meet_go hN T ⟨[], S, []⟩ [] hT rfl (fun p hp => by cases hp) (fun a => by rw [hS a]; simp) (fun V _ _ hV => by cases hV)).1
end Go.Proofs.Ytfbmpgffekhmhaa
/- Layer 13, as landed: what a function has to keep that is asked of each node whether one goes on from it. -/
namespace Go.Proofs.Ytfbmpgffekhmhaa
open Go.RowKit Go.Shelf Go.Proofs.Treem Go.Proofs.Cardm
set_option maxRecDepth 100000
variable {Nd : NdP}

/-- all nodes that lay there lie there -/
def NK (w W : World) : Prop := w.heap.size ≤ W.heap.size ∧ ∀ (k : Nat) (cs : Array Value), w.heap[k]? = some (.cells cs 68 (0, 0)) → W.heap[k]? = some (.cells cs 68 (0, 0))
theorem NK.refl (w : World) : NK w w := ⟨Nat.le_refl _, fun _ _ h => h⟩
theorem NK.trans {a b c : World} (h : NK a b) (k : NK b c) : NK a c := ⟨Nat.le_trans h.1 k.1, fun i cs hi => k.2 i cs (h.2 i cs hi)⟩
theorem NK.of_below {w W : World} (h : Below w.heap.size w W) : NK w W := ⟨h.size, fun k _ hk => (h.block k (Array.getElem?_eq_some_iff.1 hk).1).trans hk⟩
theorem NK.of_kf {free : TypeId → Bool} {W W' : World} (h : Kf free 0 W W') (hf : free 68 = false) : NK W W' := ⟨h.size, fun k cs hk => h.mid k cs _ _ hf hk⟩
theorem NK.of_grown {W W' : World} {row : Option Nat} (h : W.grownBy W' row) (hr : ∀ r, row = some r → ∀ cs, W.heap[r]? ≠ some (.cells cs 68 (0, 0))) : NK W W' :=
  ⟨h.size, fun k cs hk => (h.block k (Array.getElem?_eq_some_iff.1 hk).1 (fun e => hr k e.symm cs hk)).trans hk⟩
theorem NK.node (hN : NodeSays Nd) {w W : World} (h : NK w W) {B : Nat} {a : Addr} {x : No} (hn : Nd w B a x) : Nd W B a x := by
  obtain ⟨cs, hc⟩ := hN.kind hn
  exact hN.only hn ((h.2 _ cs hc).trans hc.symm)
theorem NK.lies (hN : NodeSays Nd) {w W : World} (h : NK w W) {B : Nat} : ∀ {T : AT}, T.lies Nd w B → T.lies Nd W B
  | .e, _ => trivial
  | .n .., ⟨h1, h2, h3, h4, h5⟩ => ⟨h.node hN h1, h2, h3, h.lies hN h4, h.lies hN h5⟩
/-- a pointer to a node, or none -/
def GoodN (w : World) (p : Option Addr) : Prop := ∀ a, p = some a → ∃ cs, w.heap[a.block]? = some (.cells cs 68 (0, 0))
theorem GoodN.good {w W : World} {p : Option Addr} (h : GoodN w p) (k : NK w W) : GoodP W p := fun a e => by
  obtain ⟨cs, hc⟩ := h a e
  exact ⟨cs, _, k.2 _ cs hc⟩
theorem GoodN.root (hN : NodeSays Nd) {w : World} {B : Nat} {T : AT} (h : T.lies Nd w B) : GoodN w T.ptr := fun a e => by
  cases T with
  | e => cases e
  | n b x l r => cases e; exact hN.kind h.1
/-- all but a footprint is as it was -/
structure Keep (Ft : Nat → Prop) (W W' : World) : Prop where
  os : W'.os = W.os
  tape : W'.tape = W.tape
  output : W'.output = W.output
  size : W.heap.size ≤ W'.heap.size
  block : ∀ k, k < W.heap.size → ¬ Ft k → W'.heap[k]? = W.heap[k]?
theorem Keep.put {Ft : Nat → Prop} (W : World) (r : Nat) (o : Obj) (h : Ft r) : Keep Ft W (W.putObj r o) := by
  have hg := grownBy_putObj' W r o
  exact ⟨hg.os, hg.tape, hg.output, hg.size, fun k hk hf => hg.block k hk (fun e => by cases e; exact hf h)⟩
/-- a footprint is as it was, and all nodes -/
structure Fr (Ft : Nat → Prop) (W W' : World) : Prop where
  nk : NK W W'
  same : ∀ k, Ft k → W'.heap[k]? = W.heap[k]?
/-- a function F (cap: what it has of its own) that is asked of each node whether one goes on from it: it notes something of its own (Env), some of it made from B to C -/
structure GoesOn {σ : Type} (Nd : NdP) (w0 : World) (F : FuncId) (cap : Array Value) (B C : Nat) (mine free : TypeId → Bool) (U : AT → Prop) (step : σ → Option Addr → Bool × σ) (pot : σ → Nat) (Env : σ → (Nat → Prop) → World → Prop) : Prop where
  enters : Enters Try.prog F
  calls : ∀ (s : σ) (Ft : Nat → Prop) (W : World) (a : Addr) (x : No) (l r : AT), Env s Ft W → U (.n a x l r) → NK w0 W →
    Calls Try.prog F (#[.pointer (some a)] ++ cap) W fun e W' => e = .returned (.bool (step s (some a)).1) ∧ ∃ Ft', Env (step s (some a)).2 Ft' W' ∧ Keep Ft W W' ∧ ∀ k, Ft' k → Ft k ∨ W.heap.size ≤ k
  foot : ∀ (s : σ) (Ft : Nat → Prop) (W : World), Env s Ft W → ∀ k, Ft k → B ≤ k ∧ ∃ o, W.heap[k]? = some o ∧ ((o.isCells = false ∧ k < C) ∨ ∃ cs t fr, o = .cells cs t fr ∧ mine t = true ∧ free t = false ∧ t ≠ 68)
  frame : ∀ (s : σ) (Ft : Nat → Prop) (W W' : World), Env s Ft W → Fr Ft W W' → Env s Ft W'
  less : ∀ (s : σ) (Ft : Nat → Prop) (W : World) (a : Addr) (x : No) (l r : AT), Env s Ft W → U (.n a x l r) → ((step s (some a)).1 = true → pot (step s (some a)).2 < pot s) ∧ pot (step s (some a)).2 ≤ pot s
section
variable {σ : Type} {w0 : World} {F : FuncId} {cap : Array Value} {B C : Nat} {mine free : TypeId → Bool} {U : AT → Prop} {step : σ → Option Addr → Bool × σ} {pot : σ → Nat} {Env : σ → (Nat → Prop) → World → Prop}
theorem GoesOn.kept (h : GoesOn Nd w0 F cap B C mine free U step pot Env) {s : σ} {Ft : Nat → Prop} {W W' : World} (he : Env s Ft W) (hk : Keep Ft W W') : NK W W' :=
  ⟨hk.size, fun k cs hc => (hk.block k (Array.getElem?_eq_some_iff.1 hc).1 (fun hf => by
    obtain ⟨-, o, ho, hx⟩ := h.foot s Ft W he k hf
    rw [hc] at ho
    cases ho
    rcases hx with ⟨hx, _⟩ | ⟨cs', t, fr, e, _, _, ht⟩
    · cases hx
    · cases e; exact ht rfl)).trans hc⟩
theorem GoesOn.lt (h : GoesOn Nd w0 F cap B C mine free U step pot Env) {s : σ} {Ft : Nat → Prop} {W : World} (he : Env s Ft W) {k : Nat} (hk : Ft k) : k < W.heap.size := by
  obtain ⟨-, o, ho, -⟩ := h.foot s Ft W he k hk
  exact (Array.getElem?_eq_some_iff.1 ho).1
theorem GoesOn.turn (h : GoesOn Nd w0 F cap B C mine free U step pot Env) {s : σ} {Ft : Nat → Prop} {W W' : World} (he : Env s Ft W) (hk : Keep Ft W W') {D : Nat} (hD : ∀ k, Ft k → k < C ∨ D ≤ k) : TurnF mine B C D W W' :=
  ⟨hk.os, hk.tape, hk.output, hk.size, fun k o ho hx => (hk.block k (Array.getElem?_eq_some_iff.1 ho).1 (fun hf => by
    obtain ⟨hB, o', ho', hy⟩ := h.foot s Ft W he k hf
    have hd := hD k hf
    rw [ho] at ho'
    cases ho'
    rcases hx with hx | hx | ⟨cs, t, fr, rfl, ht⟩
    · omega
    · omega
    · rcases hy with ⟨hy, _⟩ | ⟨_, _, _, e, hm, _⟩
      · cases hy
      · cases e; rw [hm] at ht; cases ht)).trans ho⟩
/-- a yield keeps it -/
theorem GoesOn.yield (h : GoesOn Nd w0 F cap B C mine free U step pot Env) {s : σ} {Ft : Nat → Prop} {W W' : World} (he : Env s Ft W) {D : Nat} (hk : KeepsF B C D W W') (hf : Kf free 0 W W') (hn : free 68 = false) : Env s Ft W' :=
  h.frame s Ft W W' he ⟨.of_kf hf hn, fun k hx => by
    obtain ⟨hB, o, ho, hy⟩ := h.foot s Ft W he k hx
    rw [ho]
    rcases hy with ⟨hy, hC⟩ | ⟨cs, t, fr, rfl, _, ht, _⟩
    · exact hk.same k o (.inl ⟨hB, hC⟩) ho hy
    · exact hf.mid k cs t fr ht ho⟩
/-- what grows is none of it -/
theorem GoesOn.grown (h : GoesOn Nd w0 F cap B C mine free U step pot Env) {s : σ} {Ft : Nat → Prop} {W W' : World} (he : Env s Ft W) {row : Option Nat} (hg : W.grownBy W' row) (hr : ∀ r, row = some r → ¬ Ft r ∧ ∀ cs, W.heap[r]? ≠ some (.cells cs 68 (0, 0))) : Env s Ft W' :=
  h.frame s Ft W W' he ⟨.of_grown hg (fun r e => (hr r e).2), fun k hx => hg.block k (h.lt he hx) (fun e => (hr k e.symm).1 hx)⟩
theorem GoesOn.below (h : GoesOn Nd w0 F cap B C mine free U step pot Env) {s : σ} {Ft : Nat → Prop} {W W' : World} (he : Env s Ft W) (hb : Below W.heap.size W W') : Env s Ft W' :=
  h.frame s Ft W W' he ⟨.of_below hb, fun k hx => hb.block k (h.lt he hx)⟩
end
end Go.Proofs.Ytfbmpgffekhmhaa
namespace Go.Proofs.Ytfbmpgffekhmhaa
open Go.RowKit Go.Proofs.Treem Go.Proofs.Cardm
variable {Nd : NdP}

/-- a node of an outer and an inner side; d: the outer one is the left one -/
def AT.mk (d : Bool) (a : Addr) (x : No) (O I : AT) : AT := .n a x (if d then O else I) (if d then I else O)
theorem AT.mk_ptr (d : Bool) (a : Addr) (x : No) (O I : AT) : (AT.mk d a x O I).ptr = some a := rfl
theorem AT.mk_out (d : Bool) (a : Addr) (x : No) (O I : AT) : (AT.mk d a x O I).side d = O := by cases d <;> rfl
theorem AT.mk_in (d : Bool) (a : Addr) (x : No) (O I : AT) : (AT.mk d a x O I).side (!d) = I := by cases d <;> rfl
theorem AT.mk_of (d : Bool) (a : Addr) (x : No) (l r : AT) : AT.n a x l r = AT.mk d a x ((AT.n a x l r).side d) ((AT.n a x l r).side (!d)) := by cases d <;> rfl
theorem AT.mem_mk {d : Bool} {a b : Addr} {x : No} {O I : AT} : b ∈ (AT.mk d a x O I).addrs ↔ b = a ∨ b ∈ O.addrs ∨ b ∈ I.addrs := by
  cases d
  · show b ∈ (AT.n a x I O).addrs ↔ _
    rw [AT.mem_n]
    exact ⟨fun h => h.imp id Or.symm, fun h => h.imp id Or.symm⟩
  · exact AT.mem_n
theorem AT.size_mk (d : Bool) (a : Addr) (x : No) (O I : AT) : (AT.mk d a x O I).size = 1 + O.size + I.size := by
  cases d
  · show 1 + I.size + O.size = _; omega
  · rfl
/-- a tree's pairs, from its outer end -/
def prD (d : Bool) (t : Tr) : List (BitVec 64 × BitVec 64) := if d then t.pairs else t.pairs.reverse
theorem prD_mk (d : Bool) (a : Addr) (x : No) (O I : AT) : prD d (AT.mk d a x O I).tr = prD d O.tr ++ (x.k, x.v) :: prD d I.tr := by
  cases d <;> simp [prD, AT.mk, AT.tr, Tr.pairs]
theorem freshS_mk (base : List Addr) (d : Bool) (a : Addr) (x : No) (O I : AT) : freshS base (AT.mk d a x O I) = freshS base O + (if a ∈ base then 0 else 1) + freshS base I := by
  cases d
  · show freshS base (.n a x I O) = _
    rw [freshS_n]; omega
  · exact freshS_n base a x O I
/-- both sides of what stands there stand there -/
theorem Stand.out {W : World} {d : Bool} {a : Addr} {x : No} {O I : AT} (hN : NodeSays Nd) (h : Stand Nd W (AT.mk d a x O I)) : Stand Nd W O := by
  obtain ⟨-, -, -, h4, h5⟩ := Stand.sides hN h
  cases d
  · exact h5
  · exact h4
theorem Stand.inn {W : World} {d : Bool} {a : Addr} {x : No} {O I : AT} (hN : NodeSays Nd) (h : Stand Nd W (AT.mk d a x O I)) : Stand Nd W I := by
  obtain ⟨-, -, -, h4, h5⟩ := Stand.sides hN h
  cases d
  · exact h4
  · exact h5
theorem Stand.node {W : World} {d : Bool} {a : Addr} {x : No} {O I : AT} (hN : NodeSays Nd) (h : Stand Nd W (AT.mk d a x O I)) : Nd W W.heap.size a x := (Stand.sides hN h).1
/-- what was made of an outer and an inner side -/
def MadeD (Nd : NdP) (d : Bool) (O I : AT) (k v g : BitVec 64) (w : World) (e : Ending) (w' : World) : Prop :=
  ∃ a x, e = .returned (.pointer (some a)) ∧ (x.k = k ∧ x.v = v ∧ x.g = g) ∧ Stand Nd w' (AT.mk d a x O I) ∧ w.heap.size ≤ a.block ∧ Below w.heap.size w w'
theorem MadeD.of_left {O I : AT} {k v g : BitVec 64} {w w' : World} {e : Ending} (h : Made13 Nd O I k v g w e w') : MadeD Nd true O I k v g w e w' := h
theorem MadeD.of_right {O I : AT} {k v g : BitVec 64} {w w' : World} {e : Ending} (h : Made13 Nd I O k v g w e w') : MadeD Nd false O I k v g w e w' := h
/-- the way inward from H to T: the nodes above T, the last one first -/
def Way (d : Bool) (H : AT) : List AT → AT → Prop
  | [], T => T = H
  | N :: ps, T => (∃ a x O, N = AT.mk d a x O T) ∧ Way d H ps N
theorem Way.old {d : Bool} {H : AT} : ∀ {ps : List AT} {T : AT}, Way d H ps T → (∀ a ∈ T.addrs, a ∈ H.addrs) ∧ ∀ N ∈ ps, ∀ a ∈ N.addrs, a ∈ H.addrs
  | [], T, h => by
    obtain rfl : T = H := h
    exact ⟨fun _ h => h, fun N hN => absurd hN (List.not_mem_nil)⟩
  | N :: ps, T, ⟨⟨a, x, O, e⟩, h⟩ => by
    obtain ⟨h1, h2⟩ := h.old
    refine ⟨fun b hb => h1 b ?_, fun M hM => ?_⟩
    · rw [e]; exact AT.mem_mk.2 (.inr (.inr hb))
    · rcases List.mem_cons.1 hM with rfl | hM
      · exact h1
      · exact h2 M hM
theorem Way.stand {d : Bool} {H : AT} (hN : NodeSays Nd) {W : World} (hH : Stand Nd W H) : ∀ {ps : List AT} {T : AT}, Way d H ps T → Stand Nd W T ∧ ∀ N ∈ ps, Stand Nd W N
  | [], T, h => by
    obtain rfl : T = H := h
    exact ⟨hH, fun N hN => absurd hN (List.not_mem_nil)⟩
  | N :: ps, T, ⟨⟨a, x, O, e⟩, h⟩ => by
    obtain ⟨h1, h2⟩ := h.stand hN hH
    refine ⟨Stand.inn (a := a) (x := x) (O := O) hN (e ▸ h1), fun M hM => ?_⟩
    rcases List.mem_cons.1 hM with rfl | hM
    · exact h1
    · exact h2 M hM
theorem Way.size {d : Bool} {H : AT} : ∀ {ps : List AT} {T : AT}, Way d H ps T → T.size + ps.length ≤ H.size
  | [], T, h => by
    obtain rfl : T = H := h
    exact Nat.le_refl _
  | N :: ps, T, ⟨⟨a, x, O, e⟩, h⟩ => by
    have := h.size
    rw [e, AT.size_mk] at this
    rw [List.length_cons]; omega
/-- all nodes that lay there lie there: so a tree does -/
theorem NK.tree (hN : NodeSays Nd) {w W : World} (h : NK w W) {B : Nat} : ∀ {t : Tr} {p : Option Addr}, TreeAt Nd w B t p → TreeAt Nd W B t p
  | .e, _, k => k
  | .n .., _, ⟨a, pl, pr, h1, h2, h3, h4⟩ => ⟨a, pl, pr, h1, h.node hN h2, h.tree hN h3, h.tree hN h4⟩
theorem Stand.kept (hN : NodeSays Nd) {w W : World} (h : NK w W) {T : AT} (hT : Stand Nd w T) : Stand Nd W T :=
  ⟨(h.lies hN hT.lies).more hN h.1, (h.tree hN hT.tree).more hN h.1⟩
end Go.Proofs.Ytfbmpgffekhmhaa
