/- The plain mathematics of layer 10: trees, looked at; no program in it. -/
import Derived.Test.YtcnkgddldhkddaaDoorL9Math
namespace Go.Proofs.Treem

theorem pairs_len : ∀ t : Tr, t.pairs.length = t.size
  | .e => rfl
  | .n l k v g r => by simp only [Tr.pairs, Tr.size, List.length_append, List.length_cons, pairs_len l, pairs_len r]; omega
/-- a key is in a tree -/
def Tr.has : Tr → BitVec 64 → Bool
  | .e, _ => false
  | .n l k _ _ r, x => l.has x || decide (k = x) || r.has x
/-- how deep the first node lies, from left to right, that has a key; 0: none has -/
def Tr.deep : Tr → BitVec 64 → Nat
  | .e, _ => 0
  | .n l k _ _ r, x => if l.has x then l.deep x + 1 else if k = x then 1 else if r.has x then r.deep x + 1 else 0
/-- a key is that of a bead -/
def hasB (s : List St) (x : BitVec 64) : Bool := s.any fun b => decide (b.key = x)
theorem has_pre (x : BitVec 64) : ∀ t : Tr, hasB t.pre x = t.has x
  | .e => rfl
  | .n l k v g r => by
    have h1 := has_pre x l
    have h2 := has_pre x r
    simp only [hasB] at h1 h2
    simp only [hasB, Tr.pre, Tr.has, List.any_cons, List.any_append, h1, h2]
    cases l.has x <;> cases decide (k = x) <;> cases r.has x <;> rfl
theorem has_pairs (x : BitVec 64) : ∀ t : Tr, (∃ p ∈ t.pairs, p.1 = x) → t.has x = true
  | .e, h => by obtain ⟨p, hp, _⟩ := h; simp [Tr.pairs] at hp
  | .n l k v g r, h => by
    obtain ⟨p, hp, hx⟩ := h
    simp only [Tr.pairs, List.mem_append, List.mem_cons] at hp
    simp only [Tr.has, Bool.or_eq_true, decide_eq_true_eq]
    rcases hp with hp | hp | hp
    · exact .inl (.inl (has_pairs x l ⟨p, hp, hx⟩))
    · rw [hp] at hx; exact .inl (.inr hx)
    · exact .inr (has_pairs x r ⟨p, hp, hx⟩)
theorem deep_yes (x : BitVec 64) : ∀ t : Tr, t.has x = true → 1 ≤ t.deep x ∧ t.deep x ≤ t.high
  | .e, h => by simp [Tr.has] at h
  | .n l k v g r, h => by
    simp only [Tr.deep, Tr.high]
    by_cases h1 : l.has x = true
    · have := deep_yes x l h1
      rw [if_pos h1]; omega
    · rw [if_neg h1]
      by_cases h2 : k = x
      · rw [if_pos h2]; omega
      · rw [if_neg h2]
        have h3 : r.has x = true := by
          simp only [Tr.has, Bool.or_eq_true, decide_eq_true_eq] at h
          rcases h with (h | h) | h
          · exact absurd h h1
          · exact absurd h h2
          · exact h
        have := deep_yes x r h3
        rw [if_pos h3]; omega
theorem deep_no (x : BitVec 64) : ∀ t : Tr, t.has x = false → t.deep x = 0
  | .e, _ => rfl
  | .n l k v g r, h => by
    simp only [Tr.has, Bool.or_eq_false_iff, decide_eq_false_iff_not] at h
    obtain ⟨⟨h1, h2⟩, h3⟩ := h
    simp only [Tr.deep, h1, h3, Bool.false_eq_true, if_false, if_neg h2]
theorem high_le : ∀ t : Tr, t.high ≤ t.size
  | .e => Nat.le_refl _
  | .n l k v g r => by
    have h1 := high_le l
    have h2 := high_le r
    simp only [Tr.high, Tr.size]; omega
theorem size_lt : ∀ t : Tr, t.size < 2 ^ t.high
  | .e => by decide
  | .n l k v g r => by
    have h1 := size_lt l
    have h2 := size_lt r
    simp only [Tr.high, Tr.size]
    rw [Nat.pow_add, Nat.pow_one]
    have h3 : 2 ^ l.high ≤ 2 ^ max l.high r.high := Nat.pow_le_pow_right (by decide) (Nat.le_max_left _ _)
    have h4 : 2 ^ r.high ≤ 2 ^ max l.high r.high := Nat.pow_le_pow_right (by decide) (Nat.le_max_right _ _)
    omega
end Go.Proofs.Treem
