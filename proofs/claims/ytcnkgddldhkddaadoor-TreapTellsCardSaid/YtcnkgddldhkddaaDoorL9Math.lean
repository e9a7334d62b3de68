/- The plain mathematics of trees and their beads (layer 9); no program in it. -/
import Derived.Lib.Hide
namespace Go.Proofs.Treem

/-- a tree -/
inductive Tr where
  | e : Tr
  | n (l : Tr) (k v g : BitVec 64) (r : Tr) : Tr
/-- a bead: a node's own -/
structure Bd where
  key : BitVec 64
  val : BitVec 64
  sum : BitVec 64
  size : BitVec 64
  tag : BitVec 64
  left : Bool
  right : Bool
deriving DecidableEq
/-- a bead without what is kept of the node -/
structure St where
  key : BitVec 64
  val : BitVec 64
  tag : BitVec 64
  left : Bool
  right : Bool
deriving DecidableEq
def strip (b : Bd) : St := ⟨b.key, b.val, b.tag, b.left, b.right⟩
def Tr.is : Tr → Bool
  | .e => false
  | .n .. => true
def Tr.size : Tr → Nat
  | .e => 0
  | .n l _ _ _ r => 1 + l.size + r.size
def Tr.sum : Tr → BitVec 64
  | .e => 0#64
  | .n l _ v _ r => l.sum + v + r.sum
/-- the beads, the root first, what is left, what is right -/
def Tr.pre : Tr → List St
  | .e => []
  | .n l k v g r => ⟨k, v, g, l.is, r.is⟩ :: (l.pre ++ r.pre)
/-- .. with what is kept -/
def Tr.told : Tr → List Bd
  | .e => []
  | .n l k v g r => ⟨k, v, l.sum + v + r.sum, BitVec.ofNat 64 (1 + l.size + r.size), g, l.is, r.is⟩ :: (l.told ++ r.told)
/-- the pairs, from left to right -/
def Tr.pairs : Tr → List (BitVec 64 × BitVec 64)
  | .e => []
  | .n l k v _ r => l.pairs ++ (k, v) :: r.pairs
def Tr.high : Tr → Nat
  | .e => 0
  | .n l _ _ _ r => 1 + max l.high r.high
theorem pre_len : ∀ t : Tr, t.pre.length = t.size
  | .e => rfl
  | .n l k v g r => by simp only [Tr.pre, Tr.size, List.length_cons, List.length_append, pre_len l, pre_len r]; omega
theorem told_len : ∀ t : Tr, t.told.length = t.size
  | .e => rfl
  | .n l k v g r => by simp only [Tr.told, Tr.size, List.length_cons, List.length_append, told_len l, told_len r]; omega
theorem told_strip : ∀ t : Tr, t.told.map strip = t.pre
  | .e => rfl
  | .n l k v g r => by simp only [Tr.told, Tr.pre, List.map_cons, List.map_append, told_strip l, told_strip r]; rfl
theorem is_size {t : Tr} (h : t.is = true) : 1 ≤ t.size := by
  cases t with
  | e => cases h
  | n l k v g r => simp only [Tr.size]; omega
theorem not_is {t : Tr} (h : t.is = false) : t = .e := by
  cases t with
  | e => rfl
  | n l k v g r => cases h
/-- how many beads the tree has that begins here -/
def ends : Nat → List St → Option Nat
  | 0, _ => none
  | _ + 1, [] => none
  | f + 1, x :: r =>
    match (if x.left then ends f r else some 0) with
    | none => none
    | some i => match (if x.right then ends f (r.drop i) else some 0) with
      | none => none
      | some j => some (1 + i + j)
theorem ends_pre : ∀ (t : Tr) (f : Nat) (rest : List St), t.is = true → t.size ≤ f → ends f (t.pre ++ rest) = some t.size := by
  intro t
  induction t with
  | e => intro f rest h; cases h
  | n l k v g r ihl ihr =>
    intro f rest _ hf
    simp only [Tr.size] at hf
    obtain ⟨f, rfl⟩ : ∃ f', f = f' + 1 := ⟨f - 1, by omega⟩
    simp only [Tr.pre, List.cons_append, List.append_assoc, ends]
    have h1 : (if l.is = true then ends f (l.pre ++ (r.pre ++ rest)) else some 0) = some l.size := by
      cases hl : l.is with
      | true => rw [if_pos rfl]; exact ihl f _ hl (by omega)
      | false => rw [if_neg (by simp), not_is hl]; rfl
    have h2 : (if r.is = true then ends f ((l.pre ++ (r.pre ++ rest)).drop l.size) else some 0) = some r.size := by
      rw [← pre_len l, List.drop_left]
      cases hr : r.is with
      | true => rw [if_pos rfl]; exact ihr f _ hr (by omega)
      | false => rw [if_neg (by simp), not_is hr]; rfl
    rw [h1]
    simp only
    rw [h2]
    simp only [Tr.size]
theorem ends_some : ∀ (f : Nat) (s : List St) (k : Nat), ends f s = some k → ∃ t : Tr, t.is = true ∧ k ≤ s.length ∧ t.pre = s.take k ∧ t.size = k := by
  intro f
  induction f with
  | zero => intro s k h; cases h
  | succ f ih =>
    intro s k h
    cases s with
    | nil => cases h
    | cons x r =>
      simp only [ends] at h
      obtain ⟨i, l, hl, hi, hpl, hsl⟩ : ∃ (i : Nat) (l : Tr), (if x.left = true then ends f r else some 0) = some i ∧ i ≤ r.length ∧ l.pre = r.take i ∧ l.size = i ∧ l.is = x.left := by
        cases hx : x.left with
        | false => exact ⟨0, .e, by simp, Nat.zero_le _, by simp [Tr.pre], rfl, rfl⟩
        | true =>
          rw [hx] at h
          cases he : ends f r with
          | none => rw [he] at h; simp at h
          | some i =>
            obtain ⟨t, h1, h2, h3, h4⟩ := ih r i he
            exact ⟨i, t, by simp, h2, h3, h4, h1⟩
      rw [hl] at h
      simp only at h
      obtain ⟨j, t, hj, hjr, hpr, hsr⟩ : ∃ (j : Nat) (t : Tr), (if x.right = true then ends f (r.drop i) else some 0) = some j ∧ j ≤ (r.drop i).length ∧ t.pre = (r.drop i).take j ∧ t.size = j ∧ t.is = x.right := by
        cases hx : x.right with
        | false => exact ⟨0, .e, by simp, Nat.zero_le _, by simp [Tr.pre], rfl, rfl⟩
        | true =>
          rw [hx] at h
          cases he : ends f (r.drop i) with
          | none => rw [he] at h; simp at h
          | some j =>
            obtain ⟨t, h1, h2, h3, h4⟩ := ih (r.drop i) j he
            exact ⟨j, t, by simp, h2, h3, h4, h1⟩
      rw [hj] at h
      simp only [Option.some.injEq] at h
      subst h
      rw [List.length_drop] at hjr
      refine ⟨.n l x.key x.val x.tag t, rfl, by simp; omega, ?_, by simp only [Tr.size]; omega⟩
      simp only [Tr.pre, hsl.2, hsr.2, hpl, hpr]
      rw [show 1 + i + j = i + j + 1 by omega, List.take_succ_cons, List.take_add]
/-- which beads are those of a tree -/
def mayB (s : List St) : Bool := decide (s.length = 0) || decide (ends s.length s = some s.length)
theorem may_tree {s : List St} (h : mayB s = true) : ∃ t : Tr, t.pre = s := by
  simp only [mayB, Bool.or_eq_true, decide_eq_true_eq] at h
  rcases h with h | h
  · exact ⟨.e, (List.eq_nil_of_length_eq_zero h).symm⟩
  · obtain ⟨t, _, _, h3, _⟩ := ends_some _ _ _ h
    exact ⟨t, by rw [h3, List.take_length]⟩
theorem tree_may (t : Tr) : mayB t.pre = true := by
  simp only [mayB, Bool.or_eq_true, decide_eq_true_eq]
  cases h : t.is with
  | false => left; rw [not_is h]; rfl
  | true =>
    right
    have := ends_pre t t.pre.length [] h (by rw [pre_len]; exact Nat.le_refl _)
    rw [List.append_nil] at this
    rw [this, pre_len]
/-- more steps than there are beads say the same -/
theorem ends_enough : ∀ (f : Nat) (s : List St), s.length ≤ f → ends f s = ends s.length s := by
  intro f
  induction f using Nat.strongRecOn with
  | _ f ih =>
    intro s hs
    cases s with
    | nil => cases f <;> rfl
    | cons x r =>
      rw [List.length_cons] at hs
      obtain ⟨f, rfl⟩ : ∃ f', f = f' + 1 := ⟨f - 1, by omega⟩
      have h1 : ends f r = ends r.length r := ih f (Nat.lt_succ_self f) r (by omega)
      have h2 : ∀ i, ends f (r.drop i) = ends r.length (r.drop i) := fun i => by
        have hd : (r.drop i).length ≤ r.length := by rw [List.length_drop]; omega
        rw [ih f (Nat.lt_succ_self f) _ (by omega), ih r.length (by omega) _ hd]
      simp only [ends, List.length_cons, h1, h2]
/-- how many beads the tree has that begins here, or that there is none -/
def endsL (s : List St) : Option Nat := ends s.length s
theorem ends_nil : endsL [] = none := rfl
/-- what a bead makes of what is found on its left, and on its right -/
def joinE (lf rt : Bool) (a : Option Nat) (b : Nat → Option Nat) : Option Nat :=
  match (if lf then a else some 0) with
  | none => none
  | some i => match (if rt then b i else some 0) with
    | none => none
    | some j => some (1 + i + j)
theorem ends_cons (x : St) (r : List St) : endsL (x :: r) = joinE x.left x.right (endsL r) (fun i => endsL (r.drop i)) := by
  have h2 : ∀ i, ends r.length (r.drop i) = endsL (r.drop i) := fun i => ends_enough _ _ (by rw [List.length_drop]; omega)
  show ends (r.length + 1) (x :: r) = _
  simp only [ends, h2]
  rfl
theorem ends_le {s : List St} {k : Nat} (h : endsL s = some k) : 1 ≤ k ∧ k ≤ s.length := by
  obtain ⟨t, h1, h2, _, h4⟩ := ends_some _ _ _ h
  exact ⟨h4 ▸ is_size h1, h2⟩
theorem ends_tree (t : Tr) (rest : List St) (h : t.is = true) : endsL (t.pre ++ rest) = some t.size :=
  ends_pre t _ rest h (by rw [List.length_append, pre_len]; omega)
end Go.Proofs.Treem
