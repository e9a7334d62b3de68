/- The first node that is wrong, by any judgement of a node; the judgement of the landed code, where one more than the greatest tag is 0; no program in it. -/
import Derived.Test.YtdjcbmpocgbcbaaL14Math
namespace Go.Proofs.Treem

def errF (f : Tr → Nat) : Tr → Nat
  | .e => 0
  | .n l k v g r => if f (.n l k v g r) ≠ 0 then f (.n l k v g r) else if errF f l ≠ 0 then errF f l else errF f r
def placeF (f : Tr → Nat) : Tr → Nat
  | .e => 0
  | .n l k v g r => if f (.n l k v g r) ≠ 0 then 0 else if errF f l ≠ 0 then 1 + placeF f l else 1 + placeF f l + placeF f r
def errL (f : Tr → Nat) : List Tr → Nat
  | [] => 0
  | t :: ts => if errF f t ≠ 0 then errF f t else errL f ts
def placeL (f : Tr → Nat) : List Tr → Nat
  | [] => 0
  | t :: ts => if errF f t ≠ 0 then placeF f t else placeF f t + placeL f ts
section
variable {f : Tr → Nat}
theorem errF_A : ∀ t : Tr, errF rootA t = errA t
  | .e => rfl
  | .n l k v g r => by rw [errF, errA, errF_A l, errF_A r]
theorem placeF_A : ∀ t : Tr, placeF rootA t = placeA t
  | .e => rfl
  | .n l k v g r => by rw [placeF, placeA, errF_A l, placeF_A l, placeF_A r]
theorem errF_n (l : Tr) (k v g : BitVec 64) (r : Tr) : errF f (.n l k v g r) = 0 ↔ f (.n l k v g r) = 0 ∧ errF f l = 0 ∧ errF f r = 0 := by
  rw [errF]
  by_cases h : f (.n l k v g r) = 0
  · rw [if_neg (by simp [h])]
    by_cases h1 : errF f l = 0
    · rw [if_neg (by simp [h1])]; simp [h, h1]
    · rw [if_pos h1]; simp [h1]
  · rw [if_pos h]; simp [h]
theorem placeF_all : ∀ t : Tr, errF f t = 0 → placeF f t = t.size
  | .e, _ => rfl
  | .n l k v g r, h => by
    obtain ⟨h0, h1, h2⟩ := (errF_n l k v g r).1 h
    rw [placeF, if_neg (by simp [h0]), if_neg (by simp [h1]), placeF_all l h1, placeF_all r h2, Tr.size]
theorem placeF_le : ∀ t : Tr, placeF f t ≤ t.size
  | .e => Nat.le_refl _
  | .n l k v g r => by
    have h1 := placeF_le l
    have h2 := placeF_le r
    rw [placeF, Tr.size]
    split
    · omega
    · split <;> omega
theorem errL_one (t : Tr) : errL f [t] = errF f t := by
  simp only [errL]; split <;> omega
theorem placeL_one (t : Tr) : placeL f [t] = placeF f t := by
  simp only [placeL]; split <;> omega
theorem errL_ok {t : Tr} (ts : List Tr) (h : errF f t = 0) : errL f (t :: ts) = errL f ts := by simp [errL, h]
theorem placeL_ok {t : Tr} (ts : List Tr) (h : errF f t = 0) : placeL f (t :: ts) = t.size + placeL f ts := by simp [placeL, h, placeF_all t h]
theorem errL_no {l : Tr} {k v g : BitVec 64} {r : Tr} (ts : List Tr) (h : f (.n l k v g r) ≠ 0) : errL f (.n l k v g r :: ts) = f (.n l k v g r) := by
  have : errF f (.n l k v g r) = f (.n l k v g r) := by rw [errF, if_pos h]
  rw [errL, this, if_pos h]
theorem placeL_no {l : Tr} {k v g : BitVec 64} {r : Tr} (ts : List Tr) (h : f (.n l k v g r) ≠ 0) : placeL f (.n l k v g r :: ts) = 0 := by
  have : errF f (.n l k v g r) = f (.n l k v g r) := by rw [errF, if_pos h]
  rw [placeL, this, if_pos h, placeF, if_pos h]
theorem errL_yes {l : Tr} {k v g : BitVec 64} {r : Tr} (ts : List Tr) (h : f (.n l k v g r) = 0) : errL f (.n l k v g r :: ts) = errL f (l :: r :: ts) := by
  simp only [errL]
  rw [show errF f (.n l k v g r) = if errF f l ≠ 0 then errF f l else errF f r from by rw [errF, if_neg (by simp [h])]]
  by_cases h1 : errF f l = 0
  · simp [h1]
  · simp [h1]
theorem placeL_yes {l : Tr} {k v g : BitVec 64} {r : Tr} (ts : List Tr) (h : f (.n l k v g r) = 0) : placeL f (.n l k v g r :: ts) = 1 + placeL f (l :: r :: ts) := by
  simp only [placeL]
  rw [show errF f (.n l k v g r) = if errF f l ≠ 0 then errF f l else errF f r from by rw [errF, if_neg (by simp [h])], show placeF f (.n l k v g r) = if errF f l ≠ 0 then 1 + placeF f l else 1 + placeF f l + placeF f r from by rw [placeF, if_neg (by simp [h])]]
  by_cases h1 : errF f l = 0
  · by_cases h2 : errF f r = 0
    · simp [h1, h2]; omega
    · simp [h1, h2]; omega
  · simp [h1]
/-- a tree that one has been at: if what is still to be gone by ahead of all else is right, it is right; and all that is smaller -/
def Past (f : Tr → Nat) (us : List Tr) (t : Tr) : Prop := ∃ a b, us = a ++ b ∧ (errL f a = 0 → errF f t = 0) ∧ ∀ u ∈ a, u.size < t.size
/-- one that stands at the head is right -/
theorem Past.again {us : List Tr} {t : Tr} (h : Past f (t :: us) t) : errF f t = 0 := by
  obtain ⟨a, b, e, h1, h2⟩ := h
  cases a with
  | nil => exact h1 rfl
  | cons u a =>
    cases e
    exact absurd (h2 _ (List.mem_cons_self ..)) (by omega)
theorem Past.ok {us : List Tr} {t u : Tr} (h : Past f (u :: us) t) (hu : errF f u = 0) : Past f us t := by
  obtain ⟨a, b, e, h1, h2⟩ := h
  cases a with
  | nil => exact ⟨[], us, rfl, fun _ => h1 rfl, fun x hx => by cases hx⟩
  | cons y a =>
    cases e
    exact ⟨a, b, rfl, fun h => h1 (by rw [errL_ok _ hu]; exact h), fun x hx => h2 x (List.mem_cons_of_mem _ hx)⟩
theorem Past.down {us : List Tr} {t l r : Tr} {k v g : BitVec 64} (h : Past f (.n l k v g r :: us) t) (hf : f (.n l k v g r) = 0) : Past f (l :: r :: us) t := by
  obtain ⟨a, b, e, h1, h2⟩ := h
  cases a with
  | nil => exact ⟨[], _, rfl, fun _ => h1 rfl, fun x hx => by cases hx⟩
  | cons y a =>
    cases e
    have hs := h2 _ (List.mem_cons_self ..)
    rw [Tr.size] at hs
    refine ⟨l :: r :: a, b, rfl, fun h => h1 (by rw [errL_yes _ hf]; exact h), fun x hx => ?_⟩
    rcases List.mem_cons.1 hx with rfl | hx
    · omega
    · rcases List.mem_cons.1 hx with rfl | hx
      · omega
      · exact h2 x (List.mem_cons_of_mem _ hx)
theorem Past.first {us : List Tr} {l r : Tr} {k v g : BitVec 64} (hf : f (.n l k v g r) = 0) : Past f (l :: r :: us) (.n l k v g r) := by
  refine ⟨[l, r], us, rfl, fun h => ?_, fun x hx => ?_⟩
  · rw [errF_n]
    by_cases h1 : errF f l = 0
    · rw [errL_ok _ h1, errL_one] at h
      exact ⟨hf, h1, h⟩
    · simp only [errL] at h
      rw [if_pos h1] at h
      exact absurd h h1
  · rw [Tr.size]
    rcases List.mem_cons.1 hx with rfl | hx
    · omega
    · rw [List.mem_singleton.1 hx]; omega
end
/-- what the landed code says of a node: one more than the greatest tag is 0 -/
def oneW (g p q : Nat) : Nat := if g ≠ (max p q + 1) % 18446744073709551616 then 140 else if 1 < max p q - min p q then 8 else 0
def rootW : Tr → Nat
  | .e => 0
  | .n l _ _ g r => oneW g.toNat l.tag.toNat r.tag.toNat
theorem oneW_small {g p q : Nat} (h : max p q + 1 < 18446744073709551616) : oneW g p q = oneA g p q := by
  rw [oneW, oneA, Nat.mod_eq_of_lt h]
/-- no side has the greatest tag -/
def Tame : Tr → Prop
  | .e => True
  | .n l _ _ _ r => l.tag.toNat + 1 < 18446744073709551616 ∧ r.tag.toNat + 1 < 18446744073709551616 ∧ Tame l ∧ Tame r
theorem tame_W : ∀ t : Tr, Tame t → errF rootW t = errA t ∧ placeF rootW t = placeA t
  | .e, _ => ⟨rfl, rfl⟩
  | .n l k v g r, ⟨h1, h2, h3, h4⟩ => by
    obtain ⟨a1, a2⟩ := tame_W l h3
    obtain ⟨b1, b2⟩ := tame_W r h4
    have e : rootW (.n l k v g r) = rootA (.n l k v g r) := oneW_small (by omega)
    rw [errF, errA, placeF, placeA, e, a1, a2, b1, b2]
    exact ⟨rfl, rfl⟩
theorem tame_may : ∀ t : Tr, errA t = 0 → t.size ≤ 5000 → Tame t ∧ t.tag.toNat ≤ t.size
  | .e, _, _ => ⟨trivial, Nat.le_refl _⟩
  | .n l k v g r, h, hs => by
    obtain ⟨h0, h1, h2⟩ := (err_n l k v g r).1 h
    rw [Tr.size] at hs
    obtain ⟨a1, a2⟩ := tame_may l h1 (by omega)
    obtain ⟨b1, b2⟩ := tame_may r h2 (by omega)
    have k3 := (oneA_zero.1 h0).1
    refine ⟨⟨by omega, by omega, a1, b1⟩, ?_⟩
    rw [show (Tr.n l k v g r).tag = g from rfl, k3, Tr.size]; omega
theorem tame_mayW : ∀ t : Tr, errF rootW t = 0 → t.size ≤ 5000 → Tame t ∧ t.tag.toNat ≤ t.size
  | .e, _, _ => ⟨trivial, Nat.le_refl _⟩
  | .n l k v g r, h, hs => by
    obtain ⟨h0, h1, h2⟩ := (errF_n l k v g r).1 h
    rw [Tr.size] at hs
    obtain ⟨a1, a2⟩ := tame_mayW l h1 (by omega)
    obtain ⟨b1, b2⟩ := tame_mayW r h2 (by omega)
    have e : rootW (.n l k v g r) = rootA (.n l k v g r) := oneW_small (by omega)
    rw [e] at h0
    have k3 := (oneA_zero.1 h0).1
    refine ⟨⟨by omega, by omega, a1, b1⟩, ?_⟩
    rw [show (Tr.n l k v g r).tag = g from rfl, k3, Tr.size]; omega
/-- whether a tree may be is told alike -/
theorem may_W (t : Tr) (hs : t.size ≤ 5000) : (errF rootW t == 0) = mayA t := by
  rw [mayA]
  by_cases h : errA t = 0
  · rw [(tame_W t (tame_may t h hs).1).1]
  · by_cases h' : errF rootW t = 0
    · exact absurd ((tame_W t (tame_mayW t h' hs).1).1 ▸ h') h
    · rw [beq_eq_false_iff_ne.2 h, beq_eq_false_iff_ne.2 h']
theorem tame_makeA (l r : Tr) (k v : BitVec 64) (h1 : Tame l) (h2 : Tame r) (h3 : l.tag.toNat ≤ 1000) (h4 : r.tag.toNat ≤ 1000) : Tame (makeA l k v r) := ⟨by omega, by omega, h1, h2⟩
theorem tame_least : ∀ h : Nat, h ≤ 100 → Tame (leastT h) ∧ Tame (leastT (h + 1))
  | 0, _ => ⟨trivial, ⟨by decide, by decide, trivial, trivial⟩⟩
  | h + 1, hh => by
    obtain ⟨a, b⟩ := tame_least h (by omega)
    refine ⟨b, ?_⟩
    have e1 := (leastT_is h (by omega)).1
    have e2 := (leastT_is (h + 1) (by omega)).1
    rw [show leastT (h + 1 + 1) = makeA (leastT h) (BitVec.ofNat 64 (h + 2)) 1#64 (leastT (h + 1)) by rw [leastT]]
    exact tame_makeA _ _ _ _ a b (by omega) (by omega)
/-- of which trees Check is asked in this round -/
def Fit (t : Tr) : Prop := Tame t
end Go.Proofs.Treem
