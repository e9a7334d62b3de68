/- The first node that is wrong, by any judgement of a node; no program in it. -/
import Derived.Test.YtifhnaelkjfmdabL14Math
namespace Go.Proofs.Treem

def errF (f : Tr → Nat) : Tr → Nat
  | .e => 0
  | .n l k v g r => if f (.n l k v g r) ≠ 0 then f (.n l k v g r) else if errF f l ≠ 0 then errF f l else errF f r
def placeF (f : Tr → Nat) : Tr → Nat
  | .e => 0
  | .n l k v g r => if f (.n l k v g r) ≠ 0 then 0 else if errF f l ≠ 0 then 1 + placeF f l else 1 + placeF f l + placeF f r
def errL (f : Tr → Nat) : List Tr → Nat
  | [] => 0
  | t :: ts => if errF f t ≠ 0 then errF f t else errL f ts
def placeL (f : Tr → Nat) : List Tr → Nat
  | [] => 0
  | t :: ts => if errF f t ≠ 0 then placeF f t else placeF f t + placeL f ts
section
variable {f : Tr → Nat}
theorem errF_A : ∀ t : Tr, errF rootA t = errA t
  | .e => rfl
  | .n l k v g r => by rw [errF, errA, errF_A l, errF_A r]
theorem placeF_A : ∀ t : Tr, placeF rootA t = placeA t
  | .e => rfl
  | .n l k v g r => by rw [placeF, placeA, errF_A l, placeF_A l, placeF_A r]
theorem errF_n (l : Tr) (k v g : BitVec 64) (r : Tr) : errF f (.n l k v g r) = 0 ↔ f (.n l k v g r) = 0 ∧ errF f l = 0 ∧ errF f r = 0 := by
  rw [errF]
  by_cases h : f (.n l k v g r) = 0
  · rw [if_neg (by simp [h])]
    by_cases h1 : errF f l = 0
    · rw [if_neg (by simp [h1])]; simp [h, h1]
    · rw [if_pos h1]; simp [h1]
  · rw [if_pos h]; simp [h]
theorem placeF_all : ∀ t : Tr, errF f t = 0 → placeF f t = t.size
  | .e, _ => rfl
  | .n l k v g r, h => by
    obtain ⟨h0, h1, h2⟩ := (errF_n l k v g r).1 h
    rw [placeF, if_neg (by simp [h0]), if_neg (by simp [h1]), placeF_all l h1, placeF_all r h2, Tr.size]
theorem placeF_le : ∀ t : Tr, placeF f t ≤ t.size
  | .e => Nat.le_refl _
  | .n l k v g r => by
    have h1 := placeF_le l
    have h2 := placeF_le r
    rw [placeF, Tr.size]
    split
    · omega
    · split <;> omega
theorem errL_one (t : Tr) : errL f [t] = errF f t := by
  simp only [errL]; split <;> omega
theorem placeL_one (t : Tr) : placeL f [t] = placeF f t := by
  simp only [placeL]; split <;> omega
theorem errL_ok {t : Tr} (ts : List Tr) (h : errF f t = 0) : errL f (t :: ts) = errL f ts := by simp [errL, h]
theorem placeL_ok {t : Tr} (ts : List Tr) (h : errF f t = 0) : placeL f (t :: ts) = t.size + placeL f ts := by simp [placeL, h, placeF_all t h]
theorem errL_no {l : Tr} {k v g : BitVec 64} {r : Tr} (ts : List Tr) (h : f (.n l k v g r) ≠ 0) : errL f (.n l k v g r :: ts) = f (.n l k v g r) := by
  have : errF f (.n l k v g r) = f (.n l k v g r) := by rw [errF, if_pos h]
  rw [errL, this, if_pos h]
theorem placeL_no {l : Tr} {k v g : BitVec 64} {r : Tr} (ts : List Tr) (h : f (.n l k v g r) ≠ 0) : placeL f (.n l k v g r :: ts) = 0 := by
  have : errF f (.n l k v g r) = f (.n l k v g r) := by rw [errF, if_pos h]
  rw [placeL, this, if_pos h, placeF, if_pos h]
theorem errL_yes {l : Tr} {k v g : BitVec 64} {r : Tr} (ts : List Tr) (h : f (.n l k v g r) = 0) : errL f (.n l k v g r :: ts) = errL f (l :: r :: ts) := by
  simp only [errL]
  rw [show errF f (.n l k v g r) = if errF f l ≠ 0 then errF f l else errF f r from by rw [errF, if_neg (by simp [h])]]
  by_cases h1 : errF f l = 0
  · simp [h1]
  · simp [h1]
theorem placeL_yes {l : Tr} {k v g : BitVec 64} {r : Tr} (ts : List Tr) (h : f (.n l k v g r) = 0) : placeL f (.n l k v g r :: ts) = 1 + placeL f (l :: r :: ts) := by
  simp only [placeL]
  rw [show errF f (.n l k v g r) = if errF f l ≠ 0 then errF f l else errF f r from by rw [errF, if_neg (by simp [h])], show placeF f (.n l k v g r) = if errF f l ≠ 0 then 1 + placeF f l else 1 + placeF f l + placeF f r from by rw [placeF, if_neg (by simp [h])]]
  by_cases h1 : errF f l = 0
  · by_cases h2 : errF f r = 0
    · simp [h1, h2]; omega
    · simp [h1, h2]; omega
  · simp [h1]
/-- a tree that one has been at: if what is still to be gone by ahead of all else is right, it is right; and all that is smaller -/
def Past (f : Tr → Nat) (us : List Tr) (t : Tr) : Prop := ∃ a b, us = a ++ b ∧ (errL f a = 0 → errF f t = 0) ∧ ∀ u ∈ a, u.size < t.size
/-- one that stands at the head is right -/
theorem Past.again {us : List Tr} {t : Tr} (h : Past f (t :: us) t) : errF f t = 0 := by
  obtain ⟨a, b, e, h1, h2⟩ := h
  cases a with
  | nil => exact h1 rfl
  | cons u a =>
    cases e
    exact absurd (h2 _ (List.mem_cons_self ..)) (by omega)
theorem Past.ok {us : List Tr} {t u : Tr} (h : Past f (u :: us) t) (hu : errF f u = 0) : Past f us t := by
  obtain ⟨a, b, e, h1, h2⟩ := h
  cases a with
  | nil => exact ⟨[], us, rfl, fun _ => h1 rfl, fun x hx => by cases hx⟩
  | cons y a =>
    cases e
    exact ⟨a, b, rfl, fun h => h1 (by rw [errL_ok _ hu]; exact h), fun x hx => h2 x (List.mem_cons_of_mem _ hx)⟩
theorem Past.down {us : List Tr} {t l r : Tr} {k v g : BitVec 64} (h : Past f (.n l k v g r :: us) t) (hf : f (.n l k v g r) = 0) : Past f (l :: r :: us) t := by
  obtain ⟨a, b, e, h1, h2⟩ := h
  cases a with
  | nil => exact ⟨[], _, rfl, fun _ => h1 rfl, fun x hx => by cases hx⟩
  | cons y a =>
    cases e
    have hs := h2 _ (List.mem_cons_self ..)
    rw [Tr.size] at hs
    refine ⟨l :: r :: a, b, rfl, fun h => h1 (by rw [errL_yes _ hf]; exact h), fun x hx => ?_⟩
    rcases List.mem_cons.1 hx with rfl | hx
    · omega
    · rcases List.mem_cons.1 hx with rfl | hx
      · omega
      · exact h2 x (List.mem_cons_of_mem _ hx)
theorem Past.first {us : List Tr} {l r : Tr} {k v g : BitVec 64} (hf : f (.n l k v g r) = 0) : Past f (l :: r :: us) (.n l k v g r) := by
  refine ⟨[l, r], us, rfl, fun h => ?_, fun x hx => ?_⟩
  · rw [errF_n]
    by_cases h1 : errF f l = 0
    · rw [errL_ok _ h1, errL_one] at h
      exact ⟨hf, h1, h⟩
    · simp only [errL] at h
      rw [if_pos h1] at h
      exact absurd h h1
  · rw [Tr.size]
    rcases List.mem_cons.1 hx with rfl | hx
    · omega
    · rw [List.mem_singleton.1 hx]; omega
end
end Go.Proofs.Treem
