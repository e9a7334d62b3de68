/- Layer 13: how many unlike things a row has. No program. -/
import Derived.Test.YthhhkcjggfdagaaL9Math
namespace Go.Proofs.Cardm
variable {α : Type} [DecidableEq α]

/-- how many unlike ones there are -/
def card : List α → Nat
  | [] => 0
  | a :: l => if a ∈ l then card l else card l + 1
theorem card_le : ∀ l : List α, card l ≤ l.length
  | [] => Nat.le_refl _
  | a :: l => by have := card_le l; rw [card, List.length_cons]; split <;> omega
theorem card_split (p : α → Bool) : ∀ l : List α, card l = card (l.filter p) + card (l.filter fun a => !p a)
  | [] => rfl
  | a :: l => by
    have ih := card_split p l
    cases hp : p a with
    | true =>
      rw [List.filter_cons_of_pos (by simp [hp]), List.filter_cons_of_neg (by simp [hp]), card, card]
      by_cases h : a ∈ l
      · rw [if_pos h, if_pos (by simp [List.mem_filter, h, hp])]; exact ih
      · rw [if_neg h, if_neg (by simp [List.mem_filter, h])]; omega
    | false =>
      rw [List.filter_cons_of_neg (by simp [hp]), List.filter_cons_of_pos (by simp [hp]), card, card]
      by_cases h : a ∈ l
      · rw [if_pos h, if_pos (by simp [List.mem_filter, h, hp])]; exact ih
      · rw [if_neg h, if_neg (by simp [List.mem_filter, h])]; omega
theorem card_same {a : α} : ∀ l : List α, (∀ x ∈ l, x = a) → l ≠ [] → card l = 1
  | [], _, h => absurd rfl h
  | [b], _, _ => by simp [card]
  | b :: c :: l, h, _ => by
    have hb : b = a := h b (by simp)
    have hc : c = a := h c (by simp)
    rw [card, if_pos (by rw [hb, hc]; simp)]
    exact card_same (c :: l) (fun x hx => h x (List.mem_cons_of_mem _ hx)) (by simp)
theorem filter_less (a : α) : ∀ l : List α, a ∈ l → (l.filter fun x => decide (x ≠ a)).length < l.length
  | [], h => by cases h
  | b :: l, h => by
    by_cases hb : b = a
    · subst hb
      rw [List.filter_cons_of_neg (by simp)]
      have := List.length_filter_le (fun x => decide (x ≠ b)) l
      rw [List.length_cons]; omega
    · rw [List.filter_cons_of_pos (by simp [hb]), List.length_cons, List.length_cons]
      have := filter_less a l ((List.mem_cons.1 h).resolve_left (fun e => hb e.symm))
      omega
/-- rows of the same things have as many of them -/
theorem card_congr : ∀ (n : Nat) (l m : List α), l.length ≤ n → (∀ a, a ∈ l ↔ a ∈ m) → card l = card m
  | _, [], m, _, h => by
    cases m with
    | nil => rfl
    | cons a m => exact absurd ((h a).2 (by simp)) (by simp)
  | 0, a :: l, _, hn, _ => by simp at hn
  | n + 1, a :: l, m, hn, h => by
    have ham : a ∈ m := (h a).1 (by simp)
    have e1 := card_split (fun x => decide (x = a)) (a :: l)
    have e2 := card_split (fun x => decide (x = a)) m
    have f1 := filter_less a (a :: l) (by simp)
    have k1 : card ((a :: l).filter fun x => decide (x = a)) = 1 := card_same (a := a) _ (fun x hx => by simpa using (List.mem_filter.1 hx).2) (fun e => by
      have : a ∈ (a :: l).filter fun x => decide (x = a) := by simp
      rw [e] at this; cases this)
    have k2 : card (m.filter fun x => decide (x = a)) = 1 := card_same (a := a) _ (fun x hx => by simpa using (List.mem_filter.1 hx).2) (fun e => by
      have : a ∈ m.filter fun x => decide (x = a) := by simp [ham]
      rw [e] at this; cases this)
    have ih := card_congr n ((a :: l).filter fun x => decide (x ≠ a)) (m.filter fun x => decide (x ≠ a)) (by omega) (fun x => by simp only [List.mem_filter]; rw [h x])
    have g : ∀ k : List α, (k.filter fun x => !decide (x = a)) = k.filter fun x => decide (x ≠ a) := fun k => by
      congr 1; funext x; simp
    rw [e1, e2, k1, k2, g, g, ih]
theorem card_eq {l m : List α} (h : ∀ a, a ∈ l ↔ a ∈ m) : card l = card m := card_congr l.length l m (Nat.le_refl _) h
/-- how many of a row are not in another one; how many are -/
def newC (l m : List α) : Nat := card (l.filter fun a => decide (a ∉ m))
def sameC (l m : List α) : Nat := card (l.filter fun a => decide (a ∈ m))
theorem new_same (l m : List α) : newC l m + sameC l m = card l := by
  have := card_split (fun a => decide (a ∈ m)) l
  have g : (l.filter fun x => !decide (x ∈ m)) = l.filter fun x => decide (x ∉ m) := by congr 1; funext x; simp
  rw [g] at this
  unfold newC sameC
  omega
theorem new_le (l m : List α) : newC l m ≤ card l := by have := new_same l m; omega
theorem same_le (l m : List α) : sameC l m ≤ card l := by have := new_same l m; omega
theorem new_nil (l : List α) : newC l [] = card l := by unfold newC; congr 1; simp
theorem new_eq {l l' m m' : List α} (h : ∀ a, a ∈ l ↔ a ∈ l') (k : ∀ a, a ∈ m ↔ a ∈ m') : newC l m = newC l' m' := card_eq fun a => by simp [h a, k a]
theorem same_eq {l l' m m' : List α} (h : ∀ a, a ∈ l ↔ a ∈ l') (k : ∀ a, a ∈ m ↔ a ∈ m') : sameC l m = sameC l' m' := card_eq fun a => by simp [h a, k a]
theorem new_all {l m : List α} (h : ∀ a ∈ l, a ∈ m) : newC l m = 0 := by
  unfold newC
  rw [List.filter_eq_nil_iff.2 (fun a ha => by simp [h a ha])]; rfl
theorem same_no {l m : List α} (h : ∀ a ∈ l, a ∉ m) : sameC l m = 0 := by
  unfold sameC
  rw [List.filter_eq_nil_iff.2 (fun a ha => by simp [h a ha])]; rfl
theorem card_append (l m : List α) : card (l ++ m) = card l + newC m l := by
  have h := card_split (fun a => decide (a ∈ l)) (l ++ m)
  have e1 : card ((l ++ m).filter fun a => decide (a ∈ l)) = card l := card_eq fun a => by
    simp only [List.mem_filter, List.mem_append, decide_eq_true_eq]
    exact ⟨fun h => h.2, fun h => ⟨.inl h, h⟩⟩
  have e2 : card ((l ++ m).filter fun a => !decide (a ∈ l)) = newC m l := card_eq fun a => by
    simp only [List.mem_filter, List.mem_append, Bool.not_eq_true', decide_eq_false_iff_not, decide_eq_true_eq]
    exact ⟨fun h => ⟨h.1.resolve_left h.2, h.2⟩, fun h => ⟨.inr h.1, h.2⟩⟩
  omega
theorem card_cons (a : α) (l : List α) (h : a ∉ l) : card (a :: l) = card l + 1 := by rw [card, if_neg h]
theorem card_nodup : ∀ l : List α, l.Nodup → card l = l.length
  | [], _ => rfl
  | a :: l, h => by
    rw [List.nodup_cons] at h
    rw [card_cons a l h.1, card_nodup l h.2, List.length_cons]
theorem card_sub {l m : List α} (h : ∀ a ∈ l, a ∈ m) : card l ≤ card m := by
  have e : sameC m l = card l := card_eq fun a => by
    simp only [List.mem_filter, decide_eq_true_eq]
    exact ⟨fun x => x.2, fun x => ⟨h a x, x⟩⟩
  have := same_le m l
  omega
end Go.Proofs.Cardm
