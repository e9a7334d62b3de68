/- The plain mathematics of a stable sort by merging in place: rows merged, turned about, put in place one by one; no program in it. -/
namespace Go.Proofs.Srt

section
variable {α : Type} (lt : α → α → Bool)

/-- two rows merged: of two that stand alike the first row's comes first -/
def mrg : List α → List α → List α
  | [], b => b
  | x :: a, [] => x :: a
  | x :: a, y :: b => if lt y x then y :: mrg (x :: a) b else x :: mrg a (y :: b)
  termination_by a b => a.length + b.length
theorem mrg_nil (a : List α) : mrg lt a [] = a := by cases a <;> simp [mrg]
theorem nil_mrg (b : List α) : mrg lt [] b = b := by simp [mrg]
theorem mrg_length (a b : List α) : (mrg lt a b).length = a.length + b.length := by
  fun_induction mrg lt a b with
  | case1 b => simp
  | case2 x a => simp
  | case3 x a y b h ih => simp only [List.length_cons] at ih ⊢; omega
  | case4 x a y b h ih => simp only [List.length_cons] at ih ⊢; omega
theorem mem_mrg (a b : List α) (z : α) : z ∈ mrg lt a b ↔ z ∈ a ∨ z ∈ b := by
  fun_induction mrg lt a b with
  | case1 b => simp
  | case2 x a => simp
  | case3 x a y b h ih => rw [List.mem_cons, ih, List.mem_cons (b := y)]; exact or_left_comm
  | case4 x a y b h ih => rw [List.mem_cons, ih, List.mem_cons (b := x)]; exact or_assoc.symm
/-- parted so that the first parts stand ahead of the second ones -/
theorem mrg_parts : ∀ (a b : List α) (a' b' : List α), (∀ x ∈ a, ∀ y ∈ b', lt y x = false) → (∀ x ∈ a', ∀ y ∈ b, lt y x = true) → mrg lt (a ++ a') (b ++ b') = mrg lt a b ++ mrg lt a' b'
  | [], [], a', b', _, _ => by simp [mrg]
  | [], y :: b, [], b', _, _ => by simp [mrg]
  | [], y :: b, x :: a', b', h1, h2 => by
    have ih := mrg_parts [] b (x :: a') b' h1 fun u hu v hv => h2 u hu v (List.mem_cons_of_mem _ hv)
    have := h2 x List.mem_cons_self y List.mem_cons_self
    simp only [List.nil_append, List.cons_append, nil_mrg] at ih ⊢
    rw [mrg, if_pos this, ih]
  | x :: a, [], a', [], _, _ => by simp [mrg_nil]
  | x :: a, [], a', y :: b', h1, h2 => by
    have ih := mrg_parts a [] a' (y :: b') (fun u hu v hv => h1 u (List.mem_cons_of_mem _ hu) v hv) h2
    have := h1 x List.mem_cons_self y List.mem_cons_self
    simp only [List.nil_append, List.cons_append, mrg_nil] at ih ⊢
    rw [mrg, if_neg (by rw [this]; decide), ih]
  | x :: a, y :: b, a', b', h1, h2 => by
    by_cases h : lt y x = true
    · have ih := mrg_parts (x :: a) b a' b' h1 fun u hu v hv => h2 u hu v (List.mem_cons_of_mem _ hv)
      simp only [List.cons_append] at ih ⊢
      rw [mrg, if_pos h, ih, mrg, if_pos h]; rfl
    · have ih := mrg_parts a (y :: b) a' b' (fun u hu v hv => h1 u (List.mem_cons_of_mem _ hu) v hv) h2
      simp only [List.cons_append] at ih ⊢
      rw [mrg, if_neg h, ih, mrg, if_neg h]; rfl
  termination_by a b => a.length + b.length
/-- one ahead of a row -/
theorem mrg_one (x : α) (b b' : List α) (h1 : ∀ y ∈ b, lt y x = true) (h2 : ∀ y ∈ b', lt y x = false) : mrg lt [x] (b ++ b') = b ++ x :: b' := by
  have e1 := mrg_parts lt [] b [x] b' (fun _ h => by simp at h) (fun u hu v hv => by simp at hu; subst hu; exact h1 v hv)
  have e2 := mrg_parts lt [x] [] [] b' (fun u hu v hv => by simp at hu; subst hu; exact h2 v hv) (fun _ h => by simp at h)
  simp only [List.nil_append, List.append_nil, nil_mrg, mrg_nil] at e1 e2
  rw [e1, e2]; rfl
/-- one behind a row -/
theorem mrg_last (y : α) (a a' : List α) (h1 : ∀ x ∈ a, lt y x = false) (h2 : ∀ x ∈ a', lt y x = true) : mrg lt (a ++ a') [y] = a ++ y :: a' := by
  have e1 := mrg_parts lt a [] a' [y] (fun u hu v hv => by simp at hv; subst hv; exact h1 u hu) (fun _ _ _ h => by simp at h)
  have e2 := mrg_parts lt [] [y] a' [] (fun _ h => by simp at h) (fun u hu v hv => by simp at hv; subst hv; exact h2 u hu)
  simp only [List.nil_append, List.append_nil, nil_mrg, mrg_nil] at e1 e2
  rw [e1, e2]; rfl
end

/-! ### by a number -/
section
variable {α : Type} (f : α → Nat)
def ltF (x y : α) : Bool := decide (f x < f y)
/-- no one stands ahead of one ahead of it -/
def Up (l : List α) : Prop := l.Pairwise fun x y => f x ≤ f y
theorem up_mrg (a b : List α) (ha : Up f a) (hb : Up f b) : Up f (mrg (ltF f) a b) := by
  fun_induction mrg (ltF f) a b with
  | case1 b => exact hb
  | case2 x a => exact ha
  | case3 x a y b h ih =>
    simp only [ltF, decide_eq_true_eq] at h
    have ha' := List.pairwise_cons.1 ha
    have hb' := List.pairwise_cons.1 hb
    refine List.pairwise_cons.2 ⟨fun z hz => ?_, ih ha hb'.2⟩
    rcases (mem_mrg (ltF f) _ _ z).1 hz with hz | hz
    · rcases List.mem_cons.1 hz with rfl | hz
      · omega
      · have := ha'.1 z hz; omega
    · exact hb'.1 z hz
  | case4 x a y b h ih =>
    simp only [ltF, decide_eq_true_eq] at h
    have ha' := List.pairwise_cons.1 ha
    have hb' := List.pairwise_cons.1 hb
    refine List.pairwise_cons.2 ⟨fun z hz => ?_, ih ha'.2 hb⟩
    rcases (mem_mrg (ltF f) _ _ z).1 hz with hz | hz
    · exact ha'.1 z hz
    · rcases List.mem_cons.1 hz with rfl | hz
      · omega
      · have := hb'.1 z hz; omega
def only (c : Nat) (l : List α) : List α := l.filter fun x => decide (f x = c)
theorem only_append (c : Nat) (a b : List α) : only f c (a ++ b) = only f c a ++ only f c b := List.filter_append ..
theorem only_cons (c : Nat) (x : α) (a : List α) : only f c (x :: a) = if f x = c then x :: only f c a else only f c a := by
  unfold only; by_cases h : f x = c <;> simp [h]
theorem only_none {c : Nat} {l : List α} (h : ∀ x ∈ l, f x ≠ c) : only f c l = [] := by
  unfold only; rw [List.filter_eq_nil_iff]; intro x hx; simpa using h x hx
/-- those of one number keep their order -/
theorem only_mrg (c : Nat) (a b : List α) (ha : Up f a) (hb : Up f b) : only f c (mrg (ltF f) a b) = only f c a ++ only f c b := by
  fun_induction mrg (ltF f) a b with
  | case1 b => rfl
  | case2 x a => simp [only]
  | case3 x a y b h ih =>
    simp only [ltF, decide_eq_true_eq] at h
    have ha' := List.pairwise_cons.1 ha
    have hb' := List.pairwise_cons.1 hb
    rw [only_cons, ih ha hb'.2, only_cons f c y]
    by_cases e : f y = c
    · rw [if_pos e, if_pos e, only_none f (l := x :: a)]
      · rfl
      · intro z hz
        rcases List.mem_cons.1 hz with rfl | hz
        · omega
        · have := ha'.1 z hz; omega
    · rw [if_neg e, if_neg e]
  | case4 x a y b h ih =>
    have ha' := List.pairwise_cons.1 ha
    rw [only_cons, ih ha'.2 hb, only_cons f c x]
    by_cases e : f x = c
    · rw [if_pos e, if_pos e]; rfl
    · rw [if_neg e, if_neg e]
/-- put in place one by one -/
def isort (l : List α) : List α := l.foldl (fun s y => mrg (ltF f) s [y]) []
theorem isort_snoc (l : List α) (y : α) : isort f (l ++ [y]) = mrg (ltF f) (isort f l) [y] := by simp [isort]
theorem isort_one (l : List α) : isort f (l.take 1) = l.take 1 := by
  cases l with
  | nil => rfl
  | cons x l => simp [isort, nil_mrg]
theorem up_one (y : α) : Up f [y] := List.pairwise_singleton _ _
theorem up_nil : Up f ([] : List α) := List.Pairwise.nil
theorem snoc_ind {P : List α → Prop} (h0 : P []) (h1 : ∀ l y, P l → P (l ++ [y])) (l : List α) : P l := by
  have : ∀ l : List α, P l.reverse := by
    intro l
    induction l with
    | nil => exact h0
    | cons x l ih => rw [List.reverse_cons]; exact h1 _ _ ih
  have := this l.reverse
  rwa [List.reverse_reverse] at this
theorem isort_holds (l : List α) : Up f (isort f l) ∧ (∀ c, only f c (isort f l) = only f c l) ∧ (isort f l).length = l.length := by
  refine snoc_ind (P := fun l => Up f (isort f l) ∧ (∀ c, only f c (isort f l) = only f c l) ∧ (isort f l).length = l.length) ⟨up_nil f, fun _ => rfl, rfl⟩ ?_ l
  intro l y ih
  obtain ⟨h1, h2, h3⟩ := ih
  rw [isort_snoc]
  exact ⟨up_mrg f _ _ h1 (up_one f y), fun c => by rw [only_mrg f c _ _ h1 (up_one f y), h2, only_append], by rw [mrg_length, h3, List.length_append]⟩
theorem up_append {a b : List α} (ha : Up f a) (hb : Up f b) (h : ∀ x ∈ a, ∀ y ∈ b, f x ≤ f y) : Up f (a ++ b) := List.pairwise_append.2 ⟨ha, hb, h⟩
theorem up_left {a b : List α} (h : Up f (a ++ b)) : Up f a := (List.pairwise_append.1 h).1
theorem up_right {a b : List α} (h : Up f (a ++ b)) : Up f b := (List.pairwise_append.1 h).2.1
theorem up_cross {a b : List α} (h : Up f (a ++ b)) : ∀ x ∈ a, ∀ y ∈ b, f x ≤ f y := (List.pairwise_append.1 h).2.2
theorem up_at {l : List α} (h : Up f l) {i j : Nat} {x y : α} (hij : i ≤ j) (hx : l[i]? = some x) (hy : l[j]? = some y) : f x ≤ f y := by
  obtain ⟨hi, rfl⟩ := List.getElem?_eq_some_iff.1 hx
  obtain ⟨hj, rfl⟩ := List.getElem?_eq_some_iff.1 hy
  rcases Nat.lt_or_ge i j with h1 | h1
  · exact (List.pairwise_iff_getElem.1 h) i j hi hj h1
  · have : i = j := by omega
    subst this; exact Nat.le_refl _
end

/-! ### blocks of one length, each in order -/
section
variable {α : Type} (f : α → Nat)
def seg (l : List α) (i j : Nat) : List α := (l.take j).drop i
theorem seg_cut (l : List α) (i m j : Nat) (h1 : i ≤ m) (h2 : m ≤ j) : seg l i m ++ seg l m j = seg l i j := by
  unfold seg
  have e : l.take m = (l.take j).take m := by rw [List.take_take, Nat.min_eq_left h2]
  rw [e, List.drop_take]
  have := List.take_append_drop (m - i) ((l.take j).drop i)
  rw [List.drop_drop, show i + (m - i) = m by omega] at this
  exact this
theorem seg_whole (l : List α) (n : Nat) (h : l.length ≤ n) : seg l 0 n = l := by unfold seg; rw [List.take_of_length_le h, List.drop_zero]
theorem seg_far (l : List α) (i j : Nat) (h : l.length ≤ i) : seg l i j = [] := by
  unfold seg; rw [List.drop_eq_nil_iff, List.length_take]; omega
theorem seg_end (l : List α) (i j k : Nat) (h : l.length ≤ j) (h2 : l.length ≤ k) : seg l i j = seg l i k := by
  unfold seg; rw [List.take_of_length_le h, List.take_of_length_le h2]
theorem seg_length (l : List α) (i j : Nat) (h1 : i ≤ j) (h2 : j ≤ l.length) : (seg l i j).length = j - i := by
  unfold seg; rw [List.length_drop, List.length_take]; omega
theorem seg_parts (l : List α) (i j : Nat) (h1 : i ≤ j) : l = l.take i ++ (seg l i j ++ l.drop j) := by
  have e : l.take i = seg l 0 i := by simp [seg]
  rw [e, ← List.append_assoc, seg_cut l 0 i j (Nat.zero_le _) h1]
  simp [seg]
/-- one segment of a list has become another one of its length -/
def put (l : List α) (i j : Nat) (s : List α) : List α := l.take i ++ (s ++ l.drop j)
section
variable {l s : List α} {i j : Nat} (h1 : i ≤ j) (h2 : j ≤ l.length) (hs : s.length = j - i)
include h1 h2 hs
theorem put_length : (put l i j s).length = l.length := by
  unfold put; simp only [List.length_append, List.length_take, List.length_drop]; omega
theorem seg_put_same : seg (put l i j s) i j = s := by
  unfold put seg
  rw [← List.append_assoc, List.take_append_of_le_length (by simp only [List.length_append, List.length_take]; omega), List.take_of_length_le (by simp only [List.length_append, List.length_take]; omega), List.drop_append_of_le_length (by rw [List.length_take]; omega), List.drop_of_length_le (by rw [List.length_take]; omega), List.nil_append]
theorem seg_put_behind {x y : Nat} (h : j ≤ x) : seg (put l i j s) x y = seg l x y := by
  have e : (put l i j s).drop j = l.drop j := by
    unfold put
    rw [← List.append_assoc, List.drop_append, List.drop_of_length_le (by simp only [List.length_append, List.length_take]; omega), List.nil_append, show j - (l.take i ++ s).length = 0 by simp only [List.length_append, List.length_take]; omega, List.drop_zero]
  unfold seg
  rw [List.drop_take, List.drop_take]
  have : ∀ m : List α, m.drop x = (m.drop j).drop (x - j) := fun m => by rw [List.drop_drop, show j + (x - j) = x by omega]
  rw [this, e, ← this]
end
theorem seg_put_ahead {l s : List α} {i j : Nat} (h1 : i ≤ j) (h2 : j ≤ l.length) {x y : Nat} (h : y ≤ i) : seg (put l i j s) x y = seg l x y := by
  unfold put seg
  rw [List.take_append_of_le_length (by rw [List.length_take]; omega), List.take_take, Nat.min_eq_left h]
theorem only_put {l s : List α} {i j : Nat} (h1 : i ≤ j) (c : Nat) (h : only f c s = only f c (seg l i j)) : only f c (put l i j s) = only f c l := by
  conv => rhs; rw [seg_parts l i j h1]
  unfold put
  rw [only_append, only_append, h, only_append, only_append]
/-- the blocks of k, up to the first t, are in order -/
def Blocks (l : List α) (k s t : Nat) : Prop := ∀ r, s ≤ r → r < t → Up f (seg l (r * k) ((r + 1) * k))
end
end Go.Proofs.Srt
