/- Layer 10: trees with their nodes' addresses, and the spots that are gone by on a way over them. -/
import Derived.Test.YtadncdcblckpjaaL10Ok
namespace Go.Proofs.Ytadncdcblckpjaa
open Go.RowKit Go.Proofs.Treem Go.Proofs.Rowm

/-- a tree, node by node, where they lie -/
inductive AT where
  | e : AT
  | n (a : Addr) (x : No) (l r : AT) : AT
def AT.ptr : AT → Option Addr
  | .e => none
  | .n a .. => some a
def AT.sz : AT → BitVec 64
  | .e => 0#64
  | .n _ x .. => x.size
def AT.size : AT → Nat
  | .e => 0
  | .n _ _ l r => 1 + l.size + r.size
/-- what lies on a side: left, or right -/
def AT.side (d : Bool) : AT → AT
  | .e => .e
  | .n _ _ l r => if d then l else r
/-- a node that is gone by, and how many there are from the root to it -/
structure Sp where
  a : Addr
  x : No
  deep : Nat
def AT.spots (d : Bool) : Nat → AT → List Sp
  | _, .e => []
  | k, .n a x l r => if d then AT.spots d (k + 1) l ++ ⟨a, x, k⟩ :: AT.spots d (k + 1) r else AT.spots d (k + 1) r ++ ⟨a, x, k⟩ :: AT.spots d (k + 1) l
theorem AT.spots_n (d : Bool) (k : Nat) (a : Addr) (x : No) (l r : AT) : AT.spots d k (.n a x l r) = AT.spots d (k + 1) (AT.side d (.n a x l r)) ++ ⟨a, x, k⟩ :: AT.spots d (k + 1) (AT.side (!d) (.n a x l r)) := by
  cases d <;> rfl
theorem AT.size_side (d : Bool) (a : Addr) (x : No) (l r : AT) : (AT.n a x l r).size = 1 + (AT.side d (.n a x l r)).size + (AT.side (!d) (.n a x l r)).size := by
  cases d <;> simp [AT.size, AT.side]; omega
theorem AT.spots_len (d : Bool) : ∀ (t : AT) (k : Nat), (AT.spots d k t).length = t.size
  | .e, _ => rfl
  | .n a x l r, k => by
    cases d <;> simp only [AT.spots, AT.size, if_true, Bool.false_eq_true, if_false, List.length_append, List.length_cons, AT.spots_len _ l, AT.spots_len _ r] <;> omega
/-- the tree lies there -/
def AT.lies (Nd : NdP) (W : World) (B : Nat) : AT → Prop
  | .e => True
  | .n a x l r => Nd W B a x ∧ x.l = l.ptr ∧ x.r = r.ptr ∧ AT.lies Nd W B l ∧ AT.lies Nd W B r
variable {Nd : NdP}
theorem AT.lies.next (hN : NodeSays Nd) {W W' : World} {B : Nat} (hb : Below B W W') : ∀ {t : AT}, t.lies Nd W B → t.lies Nd W' B
  | .e, _ => trivial
  | .n .., ⟨h1, h2, h3, h4, h5⟩ => ⟨hN.next h1 hb, h2, h3, h4.next hN hb, h5.next hN hb⟩
theorem AT.lies.side (d : Bool) {W : World} {B : Nat} : ∀ {t : AT}, t.lies Nd W B → (t.side d).lies Nd W B
  | .e, _ => trivial
  | .n .., ⟨_, _, _, h4, h5⟩ => by cases d <;> assumption
theorem AT.lies.spot (d : Bool) {W : World} {B : Nat} : ∀ {t : AT} (k : Nat), t.lies Nd W B → ∀ s ∈ AT.spots d k t, Nd W B s.a s.x
  | .e, _, _, s, hs => by cases hs
  | .n a x l r, k, ⟨h1, _, _, h4, h5⟩, s, hs => by
    cases d <;> simp only [AT.spots, if_true, Bool.false_eq_true, if_false, List.mem_append, List.mem_cons] at hs
    · rcases hs with hs | rfl | hs
      · exact h5.spot false _ s hs
      · exact h1
      · exact h4.spot false _ s hs
    · rcases hs with hs | rfl | hs
      · exact h4.spot true _ s hs
      · exact h1
      · exact h5.spot true _ s hs
/-- the tree of pairs that it is -/
def AT.tr : AT → Tr
  | .e => .e
  | .n _ x l r => .n l.tr x.k x.v x.g r.tr
theorem AT.size_tr : ∀ t : AT, t.tr.size = t.size
  | .e => rfl
  | .n _ _ l r => by simp only [AT.tr, Tr.size, AT.size, AT.size_tr l, AT.size_tr r]
theorem AT.of_tree {W : World} {B : Nat} : ∀ (t : Tr) (p : Option Addr), TreeAt Nd W B t p → ∃ T : AT, T.ptr = p ∧ T.lies Nd W B ∧ T.tr = t
  | .e, p, h => ⟨.e, Eq.symm h, trivial, rfl⟩
  | .n l k v g r, p, ⟨a, pl, pr, h1, h2, h3, h4⟩ => by
    obtain ⟨L, e1, l1, t1⟩ := AT.of_tree l pl h3
    obtain ⟨R, e2, l2, t2⟩ := AT.of_tree r pr h4
    exact ⟨.n a _ L R, h1.symm, ⟨h2, e1.symm, e2.symm, l1, l2⟩, by rw [AT.tr, t1, t2]⟩
abbrev Sp.pr (s : Sp) : Pr := (s.x.k, s.x.v)
theorem AT.spots_right : ∀ (t : AT) (k : Nat), (AT.spots true k t).map Sp.pr = t.tr.pairs
  | .e, _ => rfl
  | .n a x l r, k => by simp only [AT.spots, if_true, AT.tr, Tr.pairs, List.map_append, List.map_cons, AT.spots_right l, AT.spots_right r]
theorem AT.spots_left : ∀ (t : AT) (k : Nat), (AT.spots false k t).map Sp.pr = t.tr.pairs.reverse
  | .e, _ => rfl
  | .n a x l r, k => by simp [AT.spots, AT.tr, Tr.pairs, AT.spots_left l, AT.spots_left r]
/-- the deepest of spots -/
def deepest (l : List Sp) : Nat := l.foldl (fun m s => max m s.deep) 0
theorem deepest_snoc (l : List Sp) (s : Sp) : deepest (l ++ [s]) = max (deepest l) s.deep := by simp [deepest]
theorem fold_max (l : List Sp) : ∀ m, l.foldl (fun m s => max m s.deep) m = max m (deepest l) := by
  induction l with
  | nil => intro m; simp [deepest]
  | cons s l ih => intro m; simp only [deepest, List.foldl_cons]; rw [ih, ih (max 0 s.deep)]; omega
theorem deepest_append (l r : List Sp) : deepest (l ++ r) = max (deepest l) (deepest r) := by
  rw [deepest, List.foldl_append, fold_max]; rfl
theorem AT.spots_deepest : ∀ (t : AT) (k : Nat), deepest (AT.spots true (k + 1) t) = if t.tr.high = 0 then 0 else k + t.tr.high
  | .e, k => rfl
  | .n a x l r, k => by
    have h1 := AT.spots_deepest l (k + 1)
    have h2 := AT.spots_deepest r (k + 1)
    simp only [AT.spots, if_true, AT.tr, Tr.high]
    rw [deepest_append, show (⟨a, x, k + 1⟩ : Sp) :: AT.spots true (k + 1 + 1) r = [⟨a, x, k + 1⟩] ++ AT.spots true (k + 1 + 1) r from rfl, deepest_append, h1, h2]
    have h3 : deepest [(⟨a, x, k + 1⟩ : Sp)] = k + 1 := by simp [deepest]
    rw [h3]
    split <;> split <;> split <;> omega
theorem deep_le (d : Bool) : ∀ (t : AT) (k : Nat), ∀ s ∈ AT.spots d k t, s.deep ≤ k + t.size
  | .e, _, s, hs => by cases hs
  | .n a x l r, k, s, hs => by
    have h1 := deep_le d l (k + 1) s
    have h2 := deep_le d r (k + 1) s
    rw [AT.size]
    cases d <;> simp only [AT.spots, if_true, Bool.false_eq_true, if_false, List.mem_append, List.mem_cons] at hs
    · rcases hs with hs | rfl | hs
      · have := h2 hs; omega
      · simp only; omega
      · have := h1 hs; omega
    · rcases hs with hs | rfl | hs
      · have := h1 hs; omega
      · simp only; omega
      · have := h2 hs; omega
theorem deep_one (d : Bool) : ∀ (t : AT) (k : Nat), ∀ s ∈ AT.spots d k t, k ≤ s.deep
  | .e, _, s, hs => by cases hs
  | .n a x l r, k, s, hs => by
    have h1 := deep_one d l (k + 1) s
    have h2 := deep_one d r (k + 1) s
    cases d <;> simp only [AT.spots, if_true, Bool.false_eq_true, if_false, List.mem_append, List.mem_cons] at hs
    · rcases hs with hs | rfl | hs
      · have := h2 hs; omega
      · exact Nat.le_refl _
      · have := h1 hs; omega
    · rcases hs with hs | rfl | hs
      · have := h1 hs; omega
      · exact Nat.le_refl _
      · have := h2 hs; omega
/-- how deep the first of spots lies that has a key; 0: none has -/
def firstDeep (l : List Sp) (k : BitVec 64) : Nat := match l.find? fun s => decide (s.x.k = k) with
  | none => 0
  | some s => s.deep
theorem AT.first_no : ∀ (t : AT) (k : Nat) (y : BitVec 64), t.tr.has y = false → (AT.spots true k t).find? (fun s => decide (s.x.k = y)) = none
  | .e, _, _, _ => rfl
  | .n a x l r, k, y, h => by
    simp only [AT.tr, Tr.has, Bool.or_eq_false_iff, decide_eq_false_iff_not] at h
    obtain ⟨⟨h1, h2⟩, h3⟩ := h
    simp only [AT.spots, if_true]
    rw [List.find?_append, AT.first_no l _ y h1, List.find?_cons_of_neg (by simp [h2]), AT.first_no r _ y h3]; rfl
theorem AT.first_yes : ∀ (t : AT) (k : Nat) (y : BitVec 64), t.tr.has y = true → ∃ s, (AT.spots true (k + 1) t).find? (fun s => decide (s.x.k = y)) = some s ∧ s.deep = k + t.tr.deep y
  | .e, _, _, h => by cases h
  | .n a x l r, k, y, h => by
    simp only [AT.spots, if_true, AT.tr, Tr.deep]
    rw [List.find?_append]
    by_cases h1 : l.tr.has y = true
    · obtain ⟨s, e1, e2⟩ := AT.first_yes l (k + 1) y h1
      rw [e1, if_pos h1]
      exact ⟨s, rfl, by rw [e2]; omega⟩
    · rw [if_neg h1, AT.first_no l _ y (by simpa using h1)]
      by_cases h2 : x.k = y
      · rw [if_pos h2, List.find?_cons_of_pos (by simp [h2])]
        exact ⟨_, rfl, rfl⟩
      · rw [if_neg h2, List.find?_cons_of_neg (by simp [h2])]
        have h3 : r.tr.has y = true := by
          simp only [AT.tr, Tr.has, Bool.or_eq_true, decide_eq_true_eq] at h
          rcases h with (h | h) | h
          · exact absurd h h1
          · exact absurd h h2
          · exact h
        obtain ⟨s, e1, e2⟩ := AT.first_yes r (k + 1) y h3
        rw [e1, if_pos h3]
        exact ⟨s, rfl, by rw [e2]; omega⟩
end Go.Proofs.Ytadncdcblckpjaa
