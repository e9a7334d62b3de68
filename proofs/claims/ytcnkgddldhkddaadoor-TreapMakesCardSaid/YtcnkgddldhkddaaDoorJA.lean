/- Results that lie in cells; a store of what lies there already; what a call keeps: shared by the landed packages from layer 16 on. No program but its types in it. -/
import Derived.Test.YtcnkgddldhkddaaDoorL10Math
import Derived.Test.YtcnkgddldhkddaaDoorGBead
import Derived.Test.YtcnkgddldhkddaaDoorL9Steps
import Derived.Test.YtcnkgddldhkddaaDoorL9High
import Derived.Test.YtcnkgddldhkddaaDoorL9Stand
import Derived.IntWalk
import Derived.Test.YtcnkgddldhkddaaDoorL9Ok
import Derived.Test.YtcnkgddldhkddaaDoorGRow
import Derived.Test.YtcnkgddldhkddaaDoorGRuns
import Derived.Laws.EntriesVeiled
/- The plain mathematics of layer 14: trees in balance by heights, the first node that is wrong, the least tree of a height; no program in it. -/
namespace Go.Proofs.Treem

def Tr.tag : Tr → BitVec 64
  | .e => 0#64
  | .n _ _ _ g _ => g
/-- what is wrong with a node of this tag, above two of those: 140, 8, or nothing -/
def oneA (g p q : Nat) : Nat := if g ≠ max p q + 1 then 140 else if 1 < max p q - min p q then 8 else 0
theorem oneA_zero {g p q : Nat} : oneA g p q = 0 ↔ g = max p q + 1 ∧ max p q ≤ min p q + 1 := by
  unfold oneA
  split
  · constructor
    · intro h; cases h
    · rintro ⟨h, _⟩; contradiction
  · split
    · constructor
      · intro h; cases h
      · rintro ⟨_, h⟩; omega
    · constructor
      · intro _; exact ⟨by omega, by omega⟩
      · intro _; rfl
theorem oneA_cases (g p q : Nat) : (oneA g p q = 140 ∧ g ≠ max p q + 1) ∨ (oneA g p q = 8 ∧ g = max p q + 1 ∧ 1 < max p q - min p q) ∨ (oneA g p q = 0 ∧ g = max p q + 1 ∧ max p q - min p q ≤ 1) := by
  unfold oneA
  split
  · exact .inl ⟨rfl, by assumption⟩
  · split
    · exact .inr (.inl ⟨rfl, by omega, by assumption⟩)
    · exact .inr (.inr ⟨rfl, by omega, by omega⟩)
def rootA : Tr → Nat
  | .e => 0
  | .n l _ _ g r => oneA g.toNat l.tag.toNat r.tag.toNat
/-- how the first node is wrong (0: none is) -/
def errA : Tr → Nat
  | .e => 0
  | .n l k v g r => if rootA (.n l k v g r) ≠ 0 then rootA (.n l k v g r) else if errA l ≠ 0 then errA l else errA r
/-- its place among the beads; how many there are, if none is -/
def placeA : Tr → Nat
  | .e => 0
  | .n l k v g r => if rootA (.n l k v g r) ≠ 0 then 0 else if errA l ≠ 0 then 1 + placeA l else 1 + placeA l + placeA r
/-- a tree may be -/
def mayA (t : Tr) : Bool := errA t == 0
theorem err_cases : ∀ t : Tr, errA t = 140 ∨ errA t = 8 ∨ errA t = 0
  | .e => .inr (.inr rfl)
  | .n l k v g r => by
    have h1 := err_cases l
    have h2 := err_cases r
    have h3 : rootA (.n l k v g r) = 140 ∨ rootA (.n l k v g r) = 8 ∨ rootA (.n l k v g r) = 0 := by
      rcases oneA_cases g.toNat l.tag.toNat r.tag.toNat with ⟨h, _⟩ | ⟨h, _⟩ | ⟨h, _⟩
      · exact .inl h
      · exact .inr (.inl h)
      · exact .inr (.inr h)
    rw [errA]
    split
    · exact h3
    · split
      · exact h1
      · exact h2
theorem err_n (l : Tr) (k v g : BitVec 64) (r : Tr) : errA (.n l k v g r) = 0 ↔ rootA (.n l k v g r) = 0 ∧ errA l = 0 ∧ errA r = 0 := by
  rw [errA]
  by_cases h : rootA (.n l k v g r) = 0
  · rw [if_neg (by simp [h])]
    by_cases h1 : errA l = 0
    · rw [if_neg (by simp [h1])]; simp [h, h1]
    · rw [if_pos h1]; simp [h1]
  · rw [if_pos h]; simp [h]
theorem place_le : ∀ t : Tr, placeA t ≤ t.size
  | .e => Nat.le_refl _
  | .n l k v g r => by
    have h1 := place_le l
    have h2 := place_le r
    rw [placeA, Tr.size]
    split
    · omega
    · split <;> omega
theorem place_all : ∀ t : Tr, errA t = 0 → placeA t = t.size
  | .e, _ => rfl
  | .n l k v g r, h => by
    obtain ⟨h0, h1, h2⟩ := (err_n l k v g r).1 h
    rw [placeA, if_neg (by simp [h0]), if_neg (by simp [h1]), place_all l h1, place_all r h2, Tr.size]
/-- .. of trees that are still to be gone by, one behind the other -/
def errS : List Tr → Nat
  | [] => 0
  | t :: ts => if errA t ≠ 0 then errA t else errS ts
def placeS : List Tr → Nat
  | [] => 0
  | t :: ts => if errA t ≠ 0 then placeA t else placeA t + placeS ts
def sizeS : List Tr → Nat
  | [] => 0
  | t :: ts => t.size + sizeS ts
theorem errS_one (t : Tr) : errS [t] = errA t := by
  simp only [errS]; split <;> omega
theorem placeS_one (t : Tr) : placeS [t] = placeA t := by
  simp only [placeS]; split <;> omega
theorem errS_none (ts : List Tr) : errS (.e :: ts) = errS ts := by simp [errS, errA]
theorem placeS_none (ts : List Tr) : placeS (.e :: ts) = placeS ts := by simp [placeS, errA, placeA]
theorem errS_no {l : Tr} {k v g : BitVec 64} {r : Tr} (ts : List Tr) (h : rootA (.n l k v g r) ≠ 0) : errS (.n l k v g r :: ts) = rootA (.n l k v g r) := by
  have : errA (.n l k v g r) = rootA (.n l k v g r) := by rw [errA, if_pos h]
  rw [errS, this, if_pos h]
theorem placeS_no {l : Tr} {k v g : BitVec 64} {r : Tr} (ts : List Tr) (h : rootA (.n l k v g r) ≠ 0) : placeS (.n l k v g r :: ts) = 0 := by
  have : errA (.n l k v g r) = rootA (.n l k v g r) := by rw [errA, if_pos h]
  rw [placeS, this, if_pos h, placeA, if_pos h]
theorem errS_yes {l : Tr} {k v g : BitVec 64} {r : Tr} (ts : List Tr) (h : rootA (.n l k v g r) = 0) : errS (.n l k v g r :: ts) = errS (l :: r :: ts) := by
  simp only [errS]
  rw [show errA (.n l k v g r) = if errA l ≠ 0 then errA l else errA r from by rw [errA, if_neg (by simp [h])]]
  by_cases h1 : errA l = 0
  · simp [h1]
  · simp [h1]
theorem placeS_yes {l : Tr} {k v g : BitVec 64} {r : Tr} (ts : List Tr) (h : rootA (.n l k v g r) = 0) : placeS (.n l k v g r :: ts) = 1 + placeS (l :: r :: ts) := by
  simp only [placeS]
  rw [show errA (.n l k v g r) = if errA l ≠ 0 then errA l else errA r from by rw [errA, if_neg (by simp [h])], show placeA (.n l k v g r) = if errA l ≠ 0 then 1 + placeA l else 1 + placeA l + placeA r from by rw [placeA, if_neg (by simp [h])]]
  by_cases h1 : errA l = 0
  · by_cases h2 : errA r = 0
    · simp [h1, h2]; omega
    · simp [h1, h2]; omega
  · simp [h1]
/-- a tree that may be is as high as its tag -/
theorem may_high : ∀ t : Tr, errA t = 0 → t.tag.toNat = t.high
  | .e, _ => rfl
  | .n l k v g r, h => by
    obtain ⟨h0, h1, h2⟩ := (err_n l k v g r).1 h
    have k1 := may_high l h1
    have k2 := may_high r h2
    have k3 := (oneA_zero.1 h0).1
    rw [k1, k2] at k3
    rw [show (Tr.n l k v g r).tag = g from rfl, k3, Tr.high]; omega
/-- the fewest nodes of a height -/
def leastN : Nat → Nat
  | 0 => 0
  | 1 => 1
  | h + 2 => leastN h + leastN (h + 1) + 1
theorem least_up : ∀ h : Nat, leastN h < leastN (h + 1)
  | 0 => by simp [leastN]
  | h + 1 => by
    have := least_up h
    rw [show leastN (h + 1 + 1) = leastN h + leastN (h + 1) + 1 from rfl]; omega
theorem least_le {a b : Nat} (h : a ≤ b) : leastN a ≤ leastN b := by
  induction h with
  | refl => exact Nat.le_refl _
  | step _ ih => exact Nat.le_trans ih (Nat.le_of_lt (least_up _))
theorem may_least : ∀ t : Tr, errA t = 0 → leastN t.high ≤ t.size
  | .e, _ => Nat.le_refl _
  | .n l k v g r, h => by
    obtain ⟨h0, h1, h2⟩ := (err_n l k v g r).1 h
    have k1 := may_least l h1
    have k2 := may_least r h2
    have k3 := (oneA_zero.1 h0).2
    rw [may_high l h1, may_high r h2] at k3
    simp only [Tr.high, Tr.size]
    by_cases hz : max l.high r.high = 0
    · rw [hz]; simp [leastN]; omega
    · obtain ⟨m, hm⟩ : ∃ m, max l.high r.high = m + 1 := ⟨max l.high r.high - 1, by omega⟩
      rw [hm, show 1 + (m + 1) = m + 2 by omega, show leastN (m + 2) = leastN m + leastN (m + 1) + 1 from rfl]
      have hmin : m ≤ min l.high r.high := by omega
      rcases Nat.le_total l.high r.high with hc | hc
      · rw [Nat.max_eq_right hc] at hm
        rw [Nat.min_eq_left hc] at hmin
        rw [hm] at k2
        have := least_le hmin
        omega
      · rw [Nat.max_eq_left hc] at hm
        rw [Nat.min_eq_right hc] at hmin
        rw [hm] at k1
        have := least_le hmin
        omega
/-- few nodes, few levels -/
theorem may_levels {t : Tr} (h : errA t = 0) {m : Nat} (hs : t.size < leastN (m + 1)) : t.high ≤ m := by
  have h1 := may_least t h
  by_cases hm : t.high ≤ m
  · exact hm
  · have := least_le (show m + 1 ≤ t.high by omega)
    omega
theorem may_12 {t : Tr} (h : errA t = 0) (hs : t.size ≤ 400) : t.high ≤ 12 := may_levels h (m := 12) (by rw [show leastN (12 + 1) = 609 by decide]; omega)
/-- what is made of two -/
def tagA (l r : Tr) : BitVec 64 := BitVec.ofNat 64 (max l.tag.toNat r.tag.toNat + 1)
def makeA (l : Tr) (k v : BitVec 64) (r : Tr) : Tr := .n l k v (tagA l r) r
theorem make_may (l : Tr) (k v : BitVec 64) (r : Tr) (h1 : l.tag.toNat ≤ 1000 ∨ errA l ≠ 0) (h2 : r.tag.toNat ≤ 1000 ∨ errA r ≠ 0) : errA (makeA l k v r) = 0 ↔ errA l = 0 ∧ errA r = 0 ∧ max l.tag.toNat r.tag.toNat ≤ min l.tag.toNat r.tag.toNat + 1 := by
  rw [makeA, err_n]
  constructor
  · rintro ⟨h0, k1, k2⟩
    exact ⟨k1, k2, (oneA_zero.1 h0).2⟩
  · rintro ⟨k1, k2, k3⟩
    refine ⟨oneA_zero.2 ⟨?_, k3⟩, k1, k2⟩
    have a1 := h1.resolve_right (fun h => h k1)
    have a2 := h2.resolve_right (fun h => h k2)
    rw [tagA, BitVec.toNat_ofNat, Nat.mod_eq_of_lt (by omega)]
/-- the least tree of a height -/
def leastT : Nat → Tr
  | 0 => .e
  | 1 => makeA .e 1#64 1#64 .e
  | h + 2 => makeA (leastT h) (BitVec.ofNat 64 (h + 2)) 1#64 (leastT (h + 1))
theorem leastT_is : ∀ h : Nat, h ≤ 100 → (leastT h).tag.toNat = h ∧ errA (leastT h) = 0 ∧ (leastT h).size = leastN h
  | 0, _ => ⟨rfl, rfl, rfl⟩
  | 1, _ => ⟨by decide, by decide, rfl⟩
  | h + 2, hh => by
    obtain ⟨a1, a2, a3⟩ := leastT_is h (by omega)
    obtain ⟨b1, b2, b3⟩ := leastT_is (h + 1) (by omega)
    refine ⟨?_, ?_, ?_⟩
    · rw [leastT, makeA, Tr.tag, tagA, a1, b1, BitVec.toNat_ofNat, Nat.mod_eq_of_lt (by omega)]; omega
    · rw [leastT, make_may _ _ _ _ (.inl (by omega)) (.inl (by omega)), a1, b1]
      exact ⟨a2, b2, by omega⟩
    · rw [leastT, makeA, Tr.size, a3, b3, leastN]; omega
/-- how a tree leans -/
def leanA : Tr → BitVec 64
  | .e => 0#64
  | .n l _ _ _ r => r.tag - l.tag
theorem lean_may : ∀ t : Tr, errA t = 0 → t.size ≤ 400 → -1 ≤ (leanA t).toInt ∧ (leanA t).toInt ≤ 1
  | .e, _, _ => by decide
  | .n l k v g r, h, hs => by
    obtain ⟨h0, h1, h2⟩ := (err_n l k v g r).1 h
    have k3 := (oneA_zero.1 h0).2
    simp only [Tr.size] at hs
    have b1 := may_12 h1 (by omega)
    have b2 := may_12 h2 (by omega)
    rw [← may_high l h1] at b1
    rw [← may_high r h2] at b2
    rw [leanA, BitVec.toInt_sub, BitVec.toInt_eq_toNat_of_lt (by omega), BitVec.toInt_eq_toNat_of_lt (by omega), Int.bmod_eq_of_le (by omega) (by omega)]
    omega
theorem may_side {l : Tr} {k v g : BitVec 64} {r : Tr} (h : errA (.n l k v g r) = 0) : errA l = 0 ∧ errA r = 0 := ((err_n l k v g r).1 h).2
end Go.Proofs.Treem
/- The first node that is wrong, by any judgement of a node; no program in it. -/
namespace Go.Proofs.Treem

def errF (f : Tr → Nat) : Tr → Nat
  | .e => 0
  | .n l k v g r => if f (.n l k v g r) ≠ 0 then f (.n l k v g r) else if errF f l ≠ 0 then errF f l else errF f r
def placeF (f : Tr → Nat) : Tr → Nat
  | .e => 0
  | .n l k v g r => if f (.n l k v g r) ≠ 0 then 0 else if errF f l ≠ 0 then 1 + placeF f l else 1 + placeF f l + placeF f r
def errL (f : Tr → Nat) : List Tr → Nat
  | [] => 0
  | t :: ts => if errF f t ≠ 0 then errF f t else errL f ts
def placeL (f : Tr → Nat) : List Tr → Nat
  | [] => 0
  | t :: ts => if errF f t ≠ 0 then placeF f t else placeF f t + placeL f ts
section
variable {f : Tr → Nat}
theorem errF_A : ∀ t : Tr, errF rootA t = errA t
  | .e => rfl
  | .n l k v g r => by rw [errF, errA, errF_A l, errF_A r]
theorem placeF_A : ∀ t : Tr, placeF rootA t = placeA t
  | .e => rfl
  | .n l k v g r => by rw [placeF, placeA, errF_A l, placeF_A l, placeF_A r]
theorem errF_n (l : Tr) (k v g : BitVec 64) (r : Tr) : errF f (.n l k v g r) = 0 ↔ f (.n l k v g r) = 0 ∧ errF f l = 0 ∧ errF f r = 0 := by
  rw [errF]
  by_cases h : f (.n l k v g r) = 0
  · rw [if_neg (by simp [h])]
    by_cases h1 : errF f l = 0
    · rw [if_neg (by simp [h1])]; simp [h, h1]
    · rw [if_pos h1]; simp [h1]
  · rw [if_pos h]; simp [h]
theorem placeF_all : ∀ t : Tr, errF f t = 0 → placeF f t = t.size
  | .e, _ => rfl
  | .n l k v g r, h => by
    obtain ⟨h0, h1, h2⟩ := (errF_n l k v g r).1 h
    rw [placeF, if_neg (by simp [h0]), if_neg (by simp [h1]), placeF_all l h1, placeF_all r h2, Tr.size]
theorem placeF_le : ∀ t : Tr, placeF f t ≤ t.size
  | .e => Nat.le_refl _
  | .n l k v g r => by
    have h1 := placeF_le l
    have h2 := placeF_le r
    rw [placeF, Tr.size]
    split
    · omega
    · split <;> omega
theorem errL_one (t : Tr) : errL f [t] = errF f t := by
  simp only [errL]; split <;> omega
theorem placeL_one (t : Tr) : placeL f [t] = placeF f t := by
  simp only [placeL]; split <;> omega
theorem errL_ok {t : Tr} (ts : List Tr) (h : errF f t = 0) : errL f (t :: ts) = errL f ts := by simp [errL, h]
theorem placeL_ok {t : Tr} (ts : List Tr) (h : errF f t = 0) : placeL f (t :: ts) = t.size + placeL f ts := by simp [placeL, h, placeF_all t h]
theorem errL_no {l : Tr} {k v g : BitVec 64} {r : Tr} (ts : List Tr) (h : f (.n l k v g r) ≠ 0) : errL f (.n l k v g r :: ts) = f (.n l k v g r) := by
  have : errF f (.n l k v g r) = f (.n l k v g r) := by rw [errF, if_pos h]
  rw [errL, this, if_pos h]
theorem placeL_no {l : Tr} {k v g : BitVec 64} {r : Tr} (ts : List Tr) (h : f (.n l k v g r) ≠ 0) : placeL f (.n l k v g r :: ts) = 0 := by
  have : errF f (.n l k v g r) = f (.n l k v g r) := by rw [errF, if_pos h]
  rw [placeL, this, if_pos h, placeF, if_pos h]
theorem errL_yes {l : Tr} {k v g : BitVec 64} {r : Tr} (ts : List Tr) (h : f (.n l k v g r) = 0) : errL f (.n l k v g r :: ts) = errL f (l :: r :: ts) := by
  simp only [errL]
  rw [show errF f (.n l k v g r) = if errF f l ≠ 0 then errF f l else errF f r from by rw [errF, if_neg (by simp [h])]]
  by_cases h1 : errF f l = 0
  · simp [h1]
  · simp [h1]
theorem placeL_yes {l : Tr} {k v g : BitVec 64} {r : Tr} (ts : List Tr) (h : f (.n l k v g r) = 0) : placeL f (.n l k v g r :: ts) = 1 + placeL f (l :: r :: ts) := by
  simp only [placeL]
  rw [show errF f (.n l k v g r) = if errF f l ≠ 0 then errF f l else errF f r from by rw [errF, if_neg (by simp [h])], show placeF f (.n l k v g r) = if errF f l ≠ 0 then 1 + placeF f l else 1 + placeF f l + placeF f r from by rw [placeF, if_neg (by simp [h])]]
  by_cases h1 : errF f l = 0
  · by_cases h2 : errF f r = 0
    · simp [h1, h2]; omega
    · simp [h1, h2]; omega
  · simp [h1]
/-- a tree that one has been at: if what is still to be gone by ahead of all else is right, it is right; and all that is smaller -/
def Past (f : Tr → Nat) (us : List Tr) (t : Tr) : Prop := ∃ a b, us = a ++ b ∧ (errL f a = 0 → errF f t = 0) ∧ ∀ u ∈ a, u.size < t.size
/-- one that stands at the head is right -/
theorem Past.again {us : List Tr} {t : Tr} (h : Past f (t :: us) t) : errF f t = 0 := by
  obtain ⟨a, b, e, h1, h2⟩ := h
  cases a with
  | nil => exact h1 rfl
  | cons u a =>
    cases e
    exact absurd (h2 _ (List.mem_cons_self ..)) (by omega)
theorem Past.ok {us : List Tr} {t u : Tr} (h : Past f (u :: us) t) (hu : errF f u = 0) : Past f us t := by
  obtain ⟨a, b, e, h1, h2⟩ := h
  cases a with
  | nil => exact ⟨[], us, rfl, fun _ => h1 rfl, fun x hx => by cases hx⟩
  | cons y a =>
    cases e
    exact ⟨a, b, rfl, fun h => h1 (by rw [errL_ok _ hu]; exact h), fun x hx => h2 x (List.mem_cons_of_mem _ hx)⟩
theorem Past.down {us : List Tr} {t l r : Tr} {k v g : BitVec 64} (h : Past f (.n l k v g r :: us) t) (hf : f (.n l k v g r) = 0) : Past f (l :: r :: us) t := by
  obtain ⟨a, b, e, h1, h2⟩ := h
  cases a with
  | nil => exact ⟨[], _, rfl, fun _ => h1 rfl, fun x hx => by cases hx⟩
  | cons y a =>
    cases e
    have hs := h2 _ (List.mem_cons_self ..)
    rw [Tr.size] at hs
    refine ⟨l :: r :: a, b, rfl, fun h => h1 (by rw [errL_yes _ hf]; exact h), fun x hx => ?_⟩
    rcases List.mem_cons.1 hx with rfl | hx
    · omega
    · rcases List.mem_cons.1 hx with rfl | hx
      · omega
      · exact h2 x (List.mem_cons_of_mem _ hx)
theorem Past.first {us : List Tr} {l r : Tr} {k v g : BitVec 64} (hf : f (.n l k v g r) = 0) : Past f (l :: r :: us) (.n l k v g r) := by
  refine ⟨[l, r], us, rfl, fun h => ?_, fun x hx => ?_⟩
  · rw [errF_n]
    by_cases h1 : errF f l = 0
    · rw [errL_ok _ h1, errL_one] at h
      exact ⟨hf, h1, h⟩
    · simp only [errL] at h
      rw [if_pos h1] at h
      exact absurd h h1
  · rw [Tr.size]
    rcases List.mem_cons.1 hx with rfl | hx
    · omega
    · rw [List.mem_singleton.1 hx]; omega
end
end Go.Proofs.Treem
/- The plain mathematics of layer 20: items, which of two stands above the other one, treaps, the tree of items; no program in it. -/
namespace Go.Proofs.Treem

/-- an item -/
structure It where
  k : BitVec 64
  v : BitVec 64
  g : BitVec 64
  deriving DecidableEq
/-- tag and key as one number: who has the greater one stands above -/
def It.rk (a : It) : Int := (a.g.toNat : Int) * 18446744073709551616 + a.k.toInt
def aboveI (a b : It) : Bool := decide (b.rk < a.rk)
theorem rk_lt (a b : It) : b.rk < a.rk ↔ b.g.toNat < a.g.toNat ∨ (a.g.toNat = b.g.toNat ∧ b.k.toInt < a.k.toInt) := by
  unfold It.rk
  have h1 := BitVec.le_toInt a.k
  have h2 := BitVec.toInt_lt (x := a.k)
  have h3 := BitVec.le_toInt b.k
  have h4 := BitVec.toInt_lt (x := b.k)
  omega
theorem rk_eq (a b : It) : a.rk = b.rk ↔ a.g = b.g ∧ a.k = b.k := by
  constructor
  · intro h
    have h1 := rk_lt a b
    have h2 := rk_lt b a
    exact ⟨BitVec.eq_of_toNat_eq (by omega), BitVec.eq_of_toInt_eq (by omega)⟩
  · rintro ⟨h1, h2⟩
    unfold It.rk
    rw [h1, h2]
/-- a tree's items, from left to right -/
def Tr.items : Tr → List It
  | .e => []
  | .n l k v g r => l.items ++ ⟨k, v, g⟩ :: r.items
theorem items_len : ∀ t : Tr, t.items.length = t.size
  | .e => rfl
  | .n l k v g r => by rw [Tr.items, List.length_append, List.length_cons, items_len l, items_len r, Tr.size]; omega
/-- the root of a tree stands above an item -/
def overT : Tr → It → Bool
  | .e, _ => false
  | .n _ k v g _, x => aboveI ⟨k, v, g⟩ x
def rootP : Tr → Nat
  | .e => 0
  | .n l k v g r => if (overT l ⟨k, v, g⟩ || overT r ⟨k, v, g⟩) = true then 8 else 0
def mayP (t : Tr) : Bool := errF rootP t == 0
theorem mayP_iff {t : Tr} : mayP t = true ↔ errF rootP t = 0 := by rw [mayP, beq_iff_eq]
theorem mayP_n {l : Tr} {k v g : BitVec 64} {r : Tr} : mayP (.n l k v g r) = true ↔ (overT l ⟨k, v, g⟩ = false ∧ overT r ⟨k, v, g⟩ = false) ∧ mayP l = true ∧ mayP r = true := by
  rw [mayP_iff, mayP_iff, mayP_iff, errF_n, rootP]
  cases overT l ⟨k, v, g⟩ <;> cases overT r ⟨k, v, g⟩ <;> simp
/-- of a tree that may be no item stands above the root -/
theorem may_top : ∀ (t : Tr) (x : It), mayP t = true → overT t x = false → ∀ y ∈ t.items, y.rk ≤ x.rk
  | .e, _, _, _ => fun y hy => by cases hy
  | .n l k v g r, x, h, hx => by
    obtain ⟨⟨h1, h2⟩, h3, h4⟩ := mayP_n.1 h
    have h5 : (⟨k, v, g⟩ : It).rk ≤ x.rk := by
      rw [overT, aboveI] at hx
      have := of_decide_eq_false hx
      omega
    intro y hy
    rw [Tr.items, List.mem_append, List.mem_cons] at hy
    rcases hy with hy | rfl | hy
    · have := may_top l _ h3 h1 y hy; omega
    · exact h5
    · have := may_top r _ h4 h2 y hy; omega
/-- the first item that no other one stands above -/
structure Top (a : List It) (x : It) (b : List It) : Prop where
  left : ∀ y ∈ a, y.rk < x.rk
  right : ∀ y ∈ b, y.rk ≤ x.rk
/-- it, among the first i + 1 items -/
def topK (l : List It) : Nat → Nat
  | 0 => 0
  | i + 1 => if aboveI (l.getD (i + 1) ⟨0, 0, 0⟩) (l.getD (topK l i) ⟨0, 0, 0⟩) = true then i + 1 else topK l i
theorem topK_le (l : List It) : ∀ i : Nat, topK l i ≤ i
  | 0 => Nat.le_refl _
  | i + 1 => by
    have := topK_le l i
    rw [topK]; split <;> omega
theorem topK_is (l : List It) : ∀ i : Nat, (∀ j, j < topK l i → (l.getD j ⟨0, 0, 0⟩).rk < (l.getD (topK l i) ⟨0, 0, 0⟩).rk) ∧ (∀ j, j ≤ i → (l.getD j ⟨0, 0, 0⟩).rk ≤ (l.getD (topK l i) ⟨0, 0, 0⟩).rk)
  | 0 => ⟨fun j hj => absurd hj (Nat.not_lt_zero _), fun j hj => by obtain rfl : j = 0 := by omega
                                                                    exact Int.le_refl _⟩
  | i + 1 => by
    obtain ⟨h1, h2⟩ := topK_is l i
    have h3 := topK_le l i
    by_cases h : aboveI (l.getD (i + 1) ⟨0, 0, 0⟩) (l.getD (topK l i) ⟨0, 0, 0⟩) = true
    · rw [topK, if_pos h]
      have h4 := of_decide_eq_true h
      refine ⟨fun j hj => ?_, fun j hj => ?_⟩
      · have := h2 j (by omega); omega
      · by_cases e : j = i + 1
        · rw [e]; exact Int.le_refl _
        · have := h2 j (by omega); omega
    · rw [topK, if_neg h]
      have h4 := of_decide_eq_false (Bool.not_eq_true _ ▸ h)
      refine ⟨h1, fun j hj => ?_⟩
      by_cases e : j = i + 1
      · rw [e]; omega
      · exact h2 j (by omega)
theorem top_lt {l : List It} (h : l ≠ []) : topK l (l.length - 1) < l.length := by
  have := topK_le l (l.length - 1)
  have := List.length_pos_iff.2 h
  omega
/-- the tree of items -/
def ofT (l : List It) : Tr :=
  if h : l = [] then .e
  else
    have h1 := top_lt h
    .n (ofT (l.take (topK l (l.length - 1)))) (l.getD (topK l (l.length - 1)) ⟨0, 0, 0⟩).k (l.getD (topK l (l.length - 1)) ⟨0, 0, 0⟩).v (l.getD (topK l (l.length - 1)) ⟨0, 0, 0⟩).g (ofT (l.drop (topK l (l.length - 1) + 1)))
termination_by l.length
decreasing_by
  · rw [List.length_take]; omega
  · rw [List.length_drop]; omega
theorem ofT_step {l : List It} (h : l ≠ []) : ofT l = .n (ofT (l.take (topK l (l.length - 1)))) (l.getD (topK l (l.length - 1)) ⟨0, 0, 0⟩).k (l.getD (topK l (l.length - 1)) ⟨0, 0, 0⟩).v (l.getD (topK l (l.length - 1)) ⟨0, 0, 0⟩).g (ofT (l.drop (topK l (l.length - 1) + 1))) := by
  rw [ofT, dif_neg h]
theorem ofT_nil : ofT [] = .e := by rw [ofT]; rfl
theorem top_of {a : List It} {x : It} {b : List It} (h : Top a x b) : topK (a ++ x :: b) ((a ++ x :: b).length - 1) = a.length := by
  obtain ⟨k1, k2⟩ := topK_is (a ++ x :: b) ((a ++ x :: b).length - 1)
  have hlen : (a ++ x :: b).length = a.length + 1 + b.length := by simp; omega
  have h0 := topK_le (a ++ x :: b) ((a ++ x :: b).length - 1)
  obtain ⟨m, hm⟩ : ∃ m, topK (a ++ x :: b) ((a ++ x :: b).length - 1) = m := ⟨_, rfl⟩
  rw [hm] at k1 k2 h0 ⊢
  have hx : (a ++ x :: b).getD a.length ⟨0, 0, 0⟩ = x := by simp
  have hxm := k2 a.length (by omega)
  rw [hx] at hxm
  rcases Nat.lt_trichotomy m a.length with c | c | c
  · have : (a ++ x :: b).getD m ⟨0, 0, 0⟩ = a[m] := by
      rw [List.getD_eq_getElem?_getD, List.getElem?_append_left c, List.getElem?_eq_getElem c]; rfl
    rw [this] at hxm
    have := h.left _ (List.getElem_mem c)
    omega
  · exact c
  · have h2 := k1 a.length c
    rw [hx] at h2
    obtain ⟨j, hj⟩ : ∃ j, m = a.length + 1 + j := ⟨m - a.length - 1, by omega⟩
    have hjb : j < b.length := by omega
    have : (a ++ x :: b).getD m ⟨0, 0, 0⟩ = b[j] := by
      rw [hj, List.getD_eq_getElem?_getD, List.getElem?_append_right (by omega), show a.length + 1 + j - a.length = j + 1 by omega, List.getElem?_cons_succ, List.getElem?_eq_getElem hjb]; rfl
    rw [this] at h2
    have := h.right _ (List.getElem_mem hjb)
    omega
theorem ofT_parts {a : List It} {x : It} {b : List It} (h : Top a x b) : ofT (a ++ x :: b) = .n (ofT a) x.k x.v x.g (ofT b) := by
  rw [ofT_step (by simp), top_of h]
  have hx : (a ++ x :: b).getD a.length ⟨0, 0, 0⟩ = x := by simp
  have h1 : (a ++ x :: b).take a.length = a := by simp
  have h2 : (a ++ x :: b).drop (a.length + 1) = b := by simp
  rw [hx, h1, h2]
theorem parts_top {l : List It} (h : l ≠ []) : ∃ a x b, l = a ++ x :: b ∧ a.length = topK l (l.length - 1) ∧ Top a x b := by
  obtain ⟨k1, k2⟩ := topK_is l (l.length - 1)
  have h1 := top_lt h
  obtain ⟨m, hm⟩ : ∃ m, topK l (l.length - 1) = m := ⟨_, rfl⟩
  rw [hm] at k1 k2 h1 ⊢
  have hg : ∀ j, j < l.length → ∃ y, l[j]? = some y ∧ l.getD j ⟨0, 0, 0⟩ = y := fun j hj => ⟨l[j], List.getElem?_eq_getElem hj, by rw [List.getD_eq_getElem?_getD, List.getElem?_eq_getElem hj]; rfl⟩
  obtain ⟨x, hx, hxd⟩ := hg m h1
  rw [hxd] at k1 k2
  refine ⟨l.take m, x, l.drop (m + 1), ?_, by rw [List.length_take]; omega, ?_, ?_⟩
  · have : l.drop m = x :: l.drop (m + 1) := by
      rw [List.drop_eq_getElem_cons h1]
      rw [List.getElem?_eq_getElem h1] at hx
      rw [Option.some.inj hx]
    rw [← this, List.take_append_drop]
  · intro y hy
    obtain ⟨j, hj, e⟩ := List.getElem_of_mem hy
    rw [List.length_take] at hj
    have := k1 j (by omega)
    rw [List.getElem_take] at e
    obtain ⟨z, hz, hzd⟩ := hg j (by omega)
    rw [List.getElem?_eq_getElem (by omega)] at hz
    rw [hzd, ← Option.some.inj hz, e] at this
    exact this
  · intro y hy
    obtain ⟨j, hj, e⟩ := List.getElem_of_mem hy
    rw [List.length_drop] at hj
    have := k2 (m + 1 + j) (by omega)
    rw [List.getElem_drop] at e
    obtain ⟨z, hz, hzd⟩ := hg (m + 1 + j) (by omega)
    rw [List.getElem?_eq_getElem (by omega)] at hz
    rw [hzd, ← Option.some.inj hz, e] at this
    exact this
theorem ofT_ind {P : List It → Prop} (h0 : P []) (h1 : ∀ a x b, Top a x b → P a → P b → P (a ++ x :: b)) (l : List It) : P l := by
  obtain ⟨n, hn⟩ : ∃ n, l.length = n := ⟨_, rfl⟩
  induction n using Nat.strongRecOn generalizing l with
  | ind n ih =>
    by_cases h : l = []
    · rw [h]; exact h0
    · obtain ⟨a, x, b, rfl, -, ht⟩ := parts_top h
      have : (a ++ x :: b).length = a.length + 1 + b.length := by simp; omega
      exact h1 a x b ht (ih a.length (by omega) a rfl) (ih b.length (by omega) b rfl)
theorem items_of (l : List It) : (ofT l).items = l := by
  induction l using ofT_ind with
  | h0 => rw [ofT_nil]; rfl
  | h1 a x b ht iha ihb => rw [ofT_parts ht, Tr.items, iha, ihb]
theorem size_of (l : List It) : (ofT l).size = l.length := by rw [← items_len, items_of]
theorem over_of (l : List It) (x : It) (h : ∀ y ∈ l, y.rk ≤ x.rk) : overT (ofT l) x = false := by
  by_cases hl : l = []
  · rw [hl, ofT_nil]; rfl
  · obtain ⟨a, y, b, rfl, -, ht⟩ := parts_top hl
    rw [ofT_parts ht, overT, aboveI]
    have hy := h y (by simp)
    exact decide_eq_false (by rw [show (⟨y.k, y.v, y.g⟩ : It) = y from rfl]; omega)
theorem may_of (l : List It) : mayP (ofT l) = true := by
  induction l using ofT_ind with
  | h0 => rw [ofT_nil]; rfl
  | h1 a x b ht iha ihb =>
    rw [ofT_parts ht, mayP_n]
    exact ⟨⟨over_of a x (fun y hy => Int.le_of_lt (ht.left y hy)), over_of b x ht.right⟩, iha, ihb⟩
/-- no two items have the same tag and key -/
def Unl (l : List It) : Prop := l.Pairwise fun a b => a.rk ≠ b.rk
theorem of_items : ∀ t : Tr, mayP t = true → Unl t.items → ofT t.items = t
  | .e, _, _ => ofT_nil
  | .n l k v g r, h, hu => by
    obtain ⟨⟨h1, h2⟩, h3, h4⟩ := mayP_n.1 h
    rw [Tr.items] at hu ⊢
    obtain ⟨u1, u2, u3⟩ := List.pairwise_append.1 hu
    obtain ⟨u4, u5⟩ := List.pairwise_cons.1 u2
    have ht : Top l.items ⟨k, v, g⟩ r.items := ⟨fun y hy => by
      have := may_top l _ h3 h1 y hy
      have := u3 y hy _ (List.mem_cons_self ..)
      omega, may_top r _ h4 h2⟩
    rw [ofT_parts ht, of_items l h3 u1, of_items r h4 u5]
/-- the only treap of its items -/
theorem may_items (t : Tr) (hu : Unl t.items) : mayP t = true ↔ ofT t.items = t := ⟨fun h => of_items t h hu, fun h => h ▸ may_of t.items⟩
/-- a tree's beads tell which it is -/
theorem pre_app : ∀ (t u : Tr) (x y : List St), t.pre ++ x = u.pre ++ y → t.is = u.is → t = u ∧ x = y
  | .e, .e, x, y, h, _ => ⟨rfl, h⟩
  | .e, .n .., _, _, _, h => by cases h
  | .n .., .e, _, _, _, h => by cases h
  | .n l k v g r, .n l' k' v' g' r', x, y, h, _ => by
    simp only [Tr.pre, List.cons_append, List.append_assoc, List.cons.injEq, St.mk.injEq] at h
    obtain ⟨⟨rfl, rfl, rfl, h1, h2⟩, h3⟩ := h
    obtain ⟨rfl, h4⟩ := pre_app l l' _ _ h3 h1
    obtain ⟨rfl, h5⟩ := pre_app r r' _ _ h4 h2
    exact ⟨rfl, h5⟩
theorem pre_same {t u : Tr} (h : t.pre = u.pre) : t = u := by
  have hi : t.is = u.is := by
    cases t <;> cases u <;> first | rfl | cases h
  exact (pre_app t u [] [] (by rw [h]) hi).1
end Go.Proofs.Treem
/- Items (key, value, tag), as values and in memory; slices of items that lie there. -/
namespace Go.Proofs.YtcnkgddldhkddaaDoor
open Go.RowKit Go.Proofs.Treem

/-- an item, as a value; its cells -/
abbrev itV (b : It) : Value := .agg #[K b.k, K b.v, G64 b.g]
abbrev itC (b : It) : List Value := [K b.k, K b.v, G64 b.g]
def flat3 (l : List It) : List Value := l.flatMap itC
theorem flat3_nil : flat3 [] = [] := rfl
theorem flat3_cons (b : It) (l : List It) : flat3 (b :: l) = itC b ++ flat3 l := rfl
theorem flat3_append (a b : List It) : flat3 (a ++ b) = flat3 a ++ flat3 b := by simp [flat3]
theorem flat3_length : ∀ l : List It, (flat3 l).length = l.length * 3
  | [] => rfl
  | b :: l => by rw [flat3_cons, List.length_append, flat3_length l, List.length_cons]; simp only [List.length_cons, List.length_nil]; omega
theorem flat3_take : ∀ (l : List It) (k : Nat), flat3 (l.take k) = (flat3 l).take (k * 3)
  | [], k => by simp [flat3]
  | b :: l, 0 => by simp [flat3]
  | b :: l, k + 1 => by
    rw [List.take_succ_cons, flat3_cons, flat3_cons, flat3_take l k, show (k + 1) * 3 = (itC b).length + k * 3 by simp only [List.length_cons, List.length_nil]; omega, List.take_length_add_append]
theorem flat3_drop : ∀ (l : List It) (k : Nat), flat3 (l.drop k) = (flat3 l).drop (k * 3)
  | [], k => by simp [flat3]
  | b :: l, 0 => by simp
  | b :: l, k + 1 => by
    rw [List.drop_succ_cons, flat3_cons, flat3_drop l k, show (k + 1) * 3 = (itC b).length + k * 3 by simp only [List.length_cons, List.length_nil]; omega, List.drop_length_add_append]
theorem flat3_one (l : List It) : ∀ u ∈ flat3 l, u.oneCell' = true := fun u hu => by
  simp only [flat3, List.mem_flatMap, List.mem_cons, List.not_mem_nil, or_false] at hu
  obtain ⟨p, _, rfl | rfl | rfl⟩ := hu <;> rfl
theorem flat3_at : ∀ (l : List It) (k j : Nat) (h : k < l.length), j < 3 → (flat3 l)[k * 3 + j]? = (itC l[k])[j]?
  | [], k, j, h, _ => by simp at h
  | b :: l, 0, j, _, hj => by rw [flat3_cons, Nat.zero_mul, Nat.zero_add, List.getElem?_append_left (by simpa using hj)]; rfl
  | b :: l, k + 1, j, h, hj => by
    rw [flat3_cons, show (k + 1) * 3 + j = (k * 3 + j) + (itC b).length by simp only [List.length_cons, List.length_nil]; omega, List.getElem?_append_right (by omega), Nat.add_sub_cancel, flat3_at l k j (by simpa using h) hj]; rfl
/-- a slice of items that lies there -/
structure LieI (W : World) (B : Nat) (A : Option Addr) (n c : Nat) (l : List It) : Prop where
  len : l.length = n
  few : n ≤ 6000
  cap : n ≤ c
  max : c ≤ maxLen
  nil : A = none → c = 0
  row : Row W B A (flat3 l)
theorem LieI.next {W W' : World} {B : Nat} {A : Option Addr} {n c : Nat} {l : List It} (h : LieI W B A n c l) (hb : Below B W W') : LieI W' B A n c l := ⟨h.len, h.few, h.cap, h.max, h.nil, h.row.below hb⟩
theorem LieI.more {W : World} {B B' : Nat} {A : Option Addr} {n c : Nat} {l : List It} (h : LieI W B A n c l) (hB : B ≤ B') : LieI W B' A n c l := ⟨h.len, h.few, h.cap, h.max, h.nil, h.row.more hB⟩
theorem LieI.after {W W' : World} {A : Option Addr} {n c : Nat} {l : List It} (h : LieI W W.heap.size A n c l) (hb : Below W.heap.size W W') : LieI W' W'.heap.size A n c l := (h.next hb).more hb.size
/-- what the walk reads of item number k -/
theorem item_at {w : World} {B : Nat} {A : Option Addr} {n c : Nat} {l : List It} (h : LieI w B A n c l) (k : Nat) (hk : k < l.length) :
    ∃ ad, A = some ad ∧ ad.block < B ∧ w.cell? (ad.add (k * 3)) = some (K l[k].k) ∧ w.cell? ⟨(ad.add (k * 3)).block, (ad.add (k * 3)).off + 1, none⟩ = some (K l[k].v) ∧ w.cell? ⟨(ad.add (k * 3)).block, (ad.add (k * 3)).off + 2, none⟩ = some (G64 l[k].g) := by
  have hc : ∀ j, j < 3 → ∀ u, (itC l[k])[j]? = some u → ∃ ad, A = some ad ∧ ad.block < B ∧ w.cell? (ad.add (k * 3 + j)) = some u := fun j hj u hu => h.row _ _ ((flat3_at l k j hk hj).trans hu)
  obtain ⟨ad, rfl, hb, h0⟩ := hc 0 (by omega) _ rfl
  refine ⟨ad, rfl, hb, h0, ?_, ?_⟩
  all_goals
    rw [← add_is, add_add]
  · obtain ⟨a, e, _, h1⟩ := hc 1 (by omega) _ rfl; cases e; exact h1
  · obtain ⟨a, e, _, h1⟩ := hc 2 (by omega) _ rfl; cases e; exact h1
theorem info_item : (Tryd.prog.info? 38).map (fun i => (i.zero, i.size, i.bytes)) = some (some (.agg #[.int .i64 0, .int .i64 0, .int .u64 0]), 3, 24) := by kernel_rfl
theorem item_parts : ∃ i, Tryd.prog.info? 38 = some i ∧ i.zero = some (.agg #[.int .i64 0, .int .i64 0, .int .u64 0]) ∧ i.size = 3 ∧ i.bytes = 24 := by
  have hi0 := info_item
  cases hh : Tryd.prog.info? 38 with
  | none => rw [hh] at hi0; cases hi0
  | some i0 =>
    rw [hh] at hi0
    have e0 := Option.some.inj hi0
    exact ⟨i0, rfl, congrArg Prod.fst e0, congrArg (fun q => q.2.1) e0, congrArg (fun q => q.2.2) e0⟩
theorem LieI.of_own {W : World} {base n : Nat} {v : Value} {l : List It} (hl : l.length = n) (h9 : n ≤ 6000) (h : W.ownsRow base 38 3 v n (flat3 l)) : ∃ A c, v = .slice A n c ∧ LieI W W.heap.size A n c l := by
  obtain ⟨A', c', rfl, k1, k2, k3⟩ := own_slice h
  exact ⟨_, _, rfl, hl, h9, k1, k2, k3, Row.of_own h⟩
/-- the first ones, the last ones of a slice -/
theorem LieI.take {W : World} {B : Nat} {A : Option Addr} {n c : Nat} {l : List It} (h : LieI W B A n c l) (k : Nat) (hk : k ≤ n) : LieI W B A k c (l.take k) :=
  ⟨by rw [List.length_take, h.len]; omega, Nat.le_trans hk h.few, Nat.le_trans hk h.cap, h.max, h.nil, by rw [flat3_take]; exact h.row.take _⟩
theorem LieI.drop {W : World} {B : Nat} {A : Option Addr} {n c : Nat} {l : List It} (h : LieI W B A n c l) (k : Nat) (hk : k ≤ n) : LieI W B (if c = k then A else A.map (·.add (k * 3))) (n - k) (c - k) (l.drop k) := by
  refine ⟨by rw [List.length_drop, h.len], by have := h.few; omega, by have := h.cap; omega, by have := h.max; omega, fun e => ?_, ?_⟩
  · by_cases hc : c = k
    · omega
    · rw [if_neg hc] at e
      have : A = none := by cases A with
        | none => rfl
        | some a => cases e
      have := h.nil this
      omega
  · rw [flat3_drop]
    exact h.row.drop (k * 3) rfl (by rw [flat3_length, h.len]; have := h.cap; omega)
end Go.Proofs.YtcnkgddldhkddaaDoor
/- The document's own answer for a tree's tag (layer 14's Tag, which layers 16 and on ask, too); uint64 and int. -/
namespace Go.Proofs.YtcnkgddldhkddaaDoor
open Go.RowKit Go.Proofs.Treem
set_option maxRecDepth 100000

theorem i_of_u (b : BitVec 64) : IntKind.i64.wrap (b.toNat : Int) = b.toInt := by
  have h1 := b.isLt
  rw [BitVec.toInt_eq_toNat_cond]
  simp [IntKind.wrap, IntKind.bits, IntKind.signed]
  by_cases h : b.toNat < 9223372036854775808
  · rw [if_neg (by omega), if_pos (by omega)]; omega
  · rw [if_pos (by omega), if_neg (by omega)]; omega
theorem u_sub (p q : BitVec 64) : IntKind.u64.wrap ((p.toNat : Int) - (q.toNat : Int)) = ((p - q).toNat : Int) := by
  have := p.isLt; have := q.isLt
  rw [IntKind.wrap_u64, BitVec.toNat_sub]; omega
/-- one more than a tag -/
theorem tag_up (m : Nat) : IntKind.u64.wrap ((m : Int) + 1) = ((BitVec.ofNat 64 (m + 1)).toNat : Int) := by
  rw [BitVec.toNat_ofNat, IntKind.wrap_u64]
  omega
end Go.Proofs.YtcnkgddldhkddaaDoor
/- A node that was made stands; a tree's tag, its left and its right side. -/
namespace Go.Proofs.YtcnkgddldhkddaaDoor
open Go.RowKit Go.Proofs.Treem
set_option maxRecDepth 100000
variable {Nd : NdP}

theorem stood_of_made (hN : NodeSays Nd) {w w' : World} {L R : AT} {k v g : BitVec 64} {e : Ending} (h : Made13 Nd L R k v g w e w') : Stood Nd w L.ptr R.ptr L.tr R.tr k v g e w' := by
  obtain ⟨a, x, rfl, ⟨rfl, rfl, rfl⟩, hs, ha, hb⟩ := h
  obtain ⟨hx, hl, hr, -, -⟩ := hs.lies
  have ht := hs.tree
  obtain ⟨a', pl, pr, e1, h2, h3, h4⟩ := ht
  cases e1
  have hu := hN.uniq hx h2
  have el : pl = L.ptr := by rw [← hl, hu]
  have er : pr = R.ptr := by rw [← hr, hu]
  subst el er
  exact ⟨a, rfl, ha, h2, hs.tree, hb⟩
/-- what a tree's tag is -/
theorem TreeAt.tag (hN : NodeSays Nd) {w : World} : ∀ {t : Tr} {p : Option Addr}, TreeAt Nd w w.heap.size t p → Calls Tryd.prog 37 #[.pointer p] w fun e w' => e = .returned (G64 t.tag) ∧ Below w.heap.size w w'
  | .e, p, h => by
    obtain rfl : p = none := h
    exact (hN.tag0 w).mono fun e w' h => h
  | .n l k v g r, p, ⟨a, pl, pr, e, h2, h3, h4⟩ => by
    subst e
    exact (hN.tag w _ a _ h2).mono (by rintro e w' ⟨rfl, rfl⟩; exact ⟨rfl, Below.refl _ _⟩)
/-- what lies left of a tree's root, right of it -/
def Tr.lt : Tr → Tr
  | .e => .e
  | .n l .. => l
def Tr.rt : Tr → Tr
  | .e => .e
  | .n _ _ _ _ r => r
theorem TreeAt.leftT (hN : NodeSays Nd) {w : World} : ∀ {t : Tr} {p : Option Addr}, TreeAt Nd w w.heap.size t p → Calls Tryd.prog 29 #[.pointer p] w fun e w' => ∃ q, e = .returned (.pointer q) ∧ TreeAt Nd w' w'.heap.size (Tr.lt t) q ∧ Below w.heap.size w w'
  | .e, p, h => by
    obtain rfl : p = none := h
    exact (hN.left0 w).mono (by rintro e w' ⟨rfl, hb⟩; exact ⟨none, rfl, rfl, hb⟩)
  | .n l k v g r, p, ⟨a, pl, pr, e, h2, h3, h4⟩ => by
    subst e
    exact (hN.left w _ a _ h2).mono (by rintro e w' ⟨rfl, rfl⟩; exact ⟨pl, rfl, h3, Below.refl _ _⟩)
theorem TreeAt.rightT (hN : NodeSays Nd) {w : World} : ∀ {t : Tr} {p : Option Addr}, TreeAt Nd w w.heap.size t p → Calls Tryd.prog 30 #[.pointer p] w fun e w' => ∃ q, e = .returned (.pointer q) ∧ TreeAt Nd w' w'.heap.size (Tr.rt t) q ∧ Below w.heap.size w w'
  | .e, p, h => by
    obtain rfl : p = none := h
    exact (hN.right0 w).mono (by rintro e w' ⟨rfl, hb⟩; exact ⟨none, rfl, rfl, hb⟩)
  | .n l k v g r, p, ⟨a, pl, pr, e, h2, h3, h4⟩ => by
    subst e
    exact (hN.right w _ a _ h2).mono (by rintro e w' ⟨rfl, rfl⟩; exact ⟨pr, rfl, h4, Below.refl _ _⟩)
end Go.Proofs.YtcnkgddldhkddaaDoor
namespace Go.Proofs.YtcnkgddldhkddaaDoor
open Go.RowKit
attribute [local go_sem] Oper.semAt_some
set_option maxRecDepth 100000
namespace Ret

theorem row {P : Program} {fn : Func} {p : Tmp} {ty : TypeId} (h : fn.results = #[.cell p ty]) (tmps : Array Value) (w : World) (g : Nat) (t : TypeId) (cs : Array Value) (fr : Nat × Nat) (d : TypeDesc)
    (hp : tmps.getD p undef = .pointer (some ⟨g, 0, none⟩)) (hg : w.heap[g]? = some (.cells cs t fr))
    (hu : P.underlying ty = some d) (hd : (match d with | .struct _ | .array _ _ => true | _ => false) = true) (hi : (P.info? ty).map (·.size) = some cs.size) :
    (results fn tmps).run P w = .ok (.agg cs) w := by
  have hp' : tmps[p]?.getD undef = .pointer (some ⟨g, 0, none⟩) := by simpa using hp
  simp [results, h, hp', asAddr, run_loadVar_row w g t ty cs fr d hg hu hd hi]
theorem two {P : Program} {fn : Func} {p q : Tmp} {t u : TypeId} (h : fn.results = #[.cell p t, .cell q u]) (tmps : Array Value) (w : World) (gp gq : Nat) (x y : Value)
    (hp : tmps.getD p undef = .pointer (some ⟨gp, 0, none⟩)) (hq : tmps.getD q undef = .pointer (some ⟨gq, 0, none⟩)) (lp : (loadVar t ⟨gp, 0, none⟩).run P w = .ok x w) (lq : (loadVar u ⟨gq, 0, none⟩).run P w = .ok y w) :
    (results fn tmps).run P w = .ok (.tuple #[x, y]) w := by
  have hp' : tmps[p]?.getD undef = .pointer (some ⟨gp, 0, none⟩) := by simpa using hp
  have hq' : tmps[q]?.getD undef = .pointer (some ⟨gq, 0, none⟩) := by simpa using hq
  simp [results, h, hp', hq', asAddr, Sem.run_bind, Result.andThen, lp, lq]
/-- a store of what lies there changes nothing -/
theorem set_same {W : World} {g : Nat} {t : TypeId} {v : Value} (h : Boxed W g t v) : W.setCell ⟨g, 0, none⟩ v = W := by
  have h0 : W.heap[g]? = some (.cells #[v] t (0, 0)) := h
  obtain ⟨hlt, hg⟩ := Array.getElem?_eq_some_iff.1 h0
  have : (W.setCell ⟨g, 0, none⟩ v).heap = W.heap := by
    apply Array.ext_getElem?
    intro i
    simp only [World.setCell, Array.getElem?_modify]
    by_cases e : g = i
    · subst e
      rw [if_pos rfl, h0]
      simp
    · rw [if_neg e]
  cases W
  simp only [World.setCell] at this ⊢
  rw [this]
theorem load_int (w : World) (a : Addr) (x : Value) (h : w.cell? a = some x) : (loadVar 3 a).run Tryd.prog w = .ok x w := by
  simp [loadVar, h]
theorem load_errno (w : World) (a : Addr) (x : Value) (h : w.cell? a = some x) : (loadVar 27 a).run Tryd.prog w = .ok x w := by
  simp [loadVar, h]
theorem keeps_below {W W' : World} (h : Below W.heap.size W W') : KeepsOthers W W' := ⟨h.size, fun k _ hk _ => (h.block k (Array.getElem?_eq_some_iff.1 hk).1).trans hk⟩
theorem keeps_drew (W : World) : KeepsOthers W W.drew := ⟨Nat.le_refl _, fun _ _ h _ => h⟩
/-- two cells of a block, written -/
theorem put2 {w : World} {g : Nat} {t : TypeId} {a b : Value} (h : Has w g t #[a, b]) (x y : Value) : Has ((w.setCell ⟨g, 0, none⟩ x).setCell ⟨g, 1, none⟩ y) g t #[x, y] := by
  have k := (h.set 0 x).set 1 y
  rw [show ((#[a, b].setIfInBounds 0 x).setIfInBounds 1 y) = #[x, y] by simp] at k
  exact k
end Ret
end Go.Proofs.YtcnkgddldhkddaaDoor
