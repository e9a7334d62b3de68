/- The plain mathematics of package sift: predicates, which pairs they take, what is kept; no program in it. -/
import Derived.Test.YtjjhmenkgcldeaaL4Math
namespace Go.Proofs.Siftm
open Go.Proofs.Rowm

/-- a predicate: its kind, its two numbers, whether it is the other way round -/
structure Pd where
  k : Nat
  a : BitVec 64
  b : BitVec 64
  n : Bool
/-- what a key leaves, divided by a number -/
def left (x a : BitVec 64) : Int := x.toInt % a.toInt
/-- whether it may be -/
def mayK : Nat → BitVec 64 → BitVec 64 → Bool
  | 1, a, b => (a.toInt == 0) && (b.toInt == 0)
  | 2, _, _ => true
  | 3, _, _ => true
  | 4, a, b => decide (0 ≤ b.toInt) && decide (b.toInt < a.toInt)
  | 5, a, b => decide (b &&& ~~~a = 0#64)
  | _, _, _ => false
/-- what it takes, Not left aside -/
def sel : Nat → BitVec 64 → BitVec 64 → Pr → Bool
  | 2, a, b, x => decide (a.toInt ≤ x.1.toInt) && decide (x.1.toInt ≤ b.toInt)
  | 3, a, b, x => decide (a.toInt ≤ x.2.toInt) && decide (x.2.toInt ≤ b.toInt)
  | 4, a, b, x => left x.1 a == b.toInt
  | 5, a, b, x => decide (x.1 &&& a = b)
  | _, _, _, _ => true
def may (p : Pd) : Bool := mayK p.k p.a p.b
def takes (p : Pd) (x : Pr) : Bool := may p && (sel p.k p.a p.b x != p.n)
def flip (p : Pd) : Pd := ⟨p.k, p.a, p.b, !p.n⟩
/-- what is kept -/
def keep (p : Pd) (l : List Pr) : List Pr := l.filter (takes p)

theorem may_flip (p : Pd) : may (flip p) = may p := rfl
theorem takes_flip {p : Pd} (h : may p = true) (x : Pr) : takes (flip p) x = !takes p x := by
  unfold takes
  rw [may_flip, h]
  unfold flip
  cases sel p.k p.a p.b x <;> cases p.n <;> rfl
theorem takes_not {p : Pd} (h : may p = false) (x : Pr) : takes p x = false := by unfold takes; rw [h]; rfl
theorem may_range {p : Pd} (h : may p = true) : 1 ≤ p.k ∧ p.k ≤ 5 := by
  obtain ⟨k, a, b, n⟩ := p
  rcases Nat.lt_or_ge k 6 with h6 | h6
  · refine ⟨?_, Nat.le_of_lt_succ h6⟩
    rcases Nat.eq_zero_or_pos k with rfl | h0
    · exact absurd h (by simp [may, mayK])
    · exact h0
  · refine absurd h ?_
    obtain ⟨j, rfl⟩ : ∃ j, k = j + 6 := ⟨k - 6, by omega⟩
    simp [may, mayK]
theorem may_pos {a b : BitVec 64} (h : mayK 4 a b = true) : 0 < a.toInt := by
  simp [mayK] at h
  omega
theorem keep_append (p : Pd) (a b : List Pr) : keep p (a ++ b) = keep p a ++ keep p b := List.filter_append ..
theorem keep_keep (p : Pd) (l : List Pr) : keep p (keep p l) = keep p l := by
  unfold keep
  rw [List.filter_filter]
  simp
theorem keep_none {p : Pd} (h : may p = true) (l : List Pr) : keep (flip p) (keep p l) = [] := by
  unfold keep
  rw [List.filter_filter, List.filter_eq_nil_iff]
  intro x _
  rw [takes_flip h]
  cases takes p x <;> simp
theorem keep_len (p : Pd) (l : List Pr) : (keep p l).length ≤ l.length := List.length_filter_le _ _
theorem keep_both {p : Pd} (h : may p = true) : ∀ l : List Pr, (keep p l).length + (keep (flip p) l).length = l.length
  | [] => rfl
  | x :: l => by
    have ih := keep_both h l
    have hf := takes_flip h x
    unfold keep at ih ⊢
    rw [List.filter_cons, List.filter_cons, hf]
    cases takes p x <;> simp <;> omega
/-- what is kept of the first k pairs -/
theorem keep_next (p : Pd) (l : List Pr) (k : Nat) (h : k < l.length) : keep p (l.take (k + 1)) = if takes p l[k] then keep p (l.take k) ++ [l[k]] else keep p (l.take k) := by
  unfold keep
  rw [List.take_succ_eq_append_getElem h, List.filter_append]
  by_cases hk : takes p l[k] = true <;> simp [hk]

/-- the predicate of one number and one rest -/
def modP (a b : BitVec 64) : Pd := ⟨4, a, b, false⟩
theorem may_mod (a b : BitVec 64) : may (modP a b) = (decide (0 ≤ b.toInt) && decide (b.toInt < a.toInt)) := rfl
theorem takes_mod (a b : BitVec 64) (x : Pr) (ha : 0 < a.toInt) : takes (modP a b) x = decide (x.1.toInt % a.toInt = b.toInt) := by
  have h0 := Int.emod_nonneg x.1.toInt (Int.ne_of_gt ha)
  have h1 := Int.emod_lt_of_pos x.1.toInt ha
  unfold takes
  rw [may_mod]
  simp only [modP, sel, left]
  rw [Bool.eq_iff_iff]
  simp
  intro h
  omega
end Go.Proofs.Siftm
