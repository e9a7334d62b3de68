/- The plain mathematics of layer 12: trees whose keys rise in an order, bounds, the first node that is wrong; no program in it. -/
import Derived.Test.YtfndaeocdgcaeaaDoorL2Math
import Derived.Test.YtfndaeocdgcaeaaDoorL10Math
namespace Go.Proofs.Treem
open Ordm

/-- how two keys stand -/
def ltK (o : Nat) (a b : BitVec 64) : Prop := (code o a).toNat < (code o b).toNat
theorem ltK_stand {o : Nat} {a b : BitVec 64} : ltK o a b ↔ stand o a b < 0 := by
  unfold ltK stand
  rcases cmp_cases (code o a) (code o b) with ⟨h, e⟩ | ⟨h, e⟩ | ⟨h, e⟩
  · rw [e]; simp [h]
  · rw [e]; constructor
    · intro h'; omega
    · intro h'; omega
  · rw [e, h]; simp
theorem gtK_stand {o : Nat} {a b : BitVec 64} : ltK o b a ↔ 0 < stand o a b := by
  unfold ltK stand
  rcases cmp_cases (code o a) (code o b) with ⟨h, e⟩ | ⟨h, e⟩ | ⟨h, e⟩
  · rw [e]; constructor
    · intro h'; omega
    · intro h'; omega
  · rw [e]; simp [h]
  · rw [e, h]; simp
theorem ltK_trans {o : Nat} {a b c : BitVec 64} (h : ltK o a b) (k : ltK o b c) : ltK o a c := Nat.lt_trans h k
instance (o : Nat) (a b : BitVec 64) : Decidable (ltK o a b) := inferInstanceAs (Decidable (_ < _))
/-- the keys, from left to right -/
def Tr.keys (t : Tr) : List (BitVec 64) := t.pairs.map (·.1)
theorem keys_n (l : Tr) (k v g : BitVec 64) (r : Tr) : (Tr.n l k v g r).keys = l.keys ++ k :: r.keys := by simp [Tr.keys, Tr.pairs]
theorem keys_len (t : Tr) : t.keys.length = t.size := by rw [Tr.keys, List.length_map, pairs_len]
/-- keys that rise, each ahead of the next one -/
def risesK (o : Nat) : List (BitVec 64) → Bool
  | [] => true
  | [_] => true
  | a :: b :: l => decide (ltK o a b) && risesK o (b :: l)
theorem rises_pair {o : Nat} : ∀ l : List (BitVec 64), risesK o l = true ↔ l.Pairwise (ltK o)
  | [] => by simp [risesK]
  | [a] => by simp [risesK]
  | a :: b :: l => by
    have ih := rises_pair (o := o) (b :: l)
    rw [risesK, Bool.and_eq_true, decide_eq_true_eq, ih, List.pairwise_cons (a := a)]
    constructor
    · rintro ⟨h1, h2⟩
      refine ⟨fun c hc => ?_, h2⟩
      rcases List.mem_cons.1 hc with rfl | hc
      · exact h1
      · exact ltK_trans h1 ((List.pairwise_cons.1 h2).1 c hc)
    · rintro ⟨h1, h2⟩
      exact ⟨h1 b (List.mem_cons_self ..), h2⟩
/-- a bound: a key, and whether one has to stand behind it -/
abbrev Bnd := BitVec 64 × Bool
def okB (o : Nat) (k : BitVec 64) (b : Bnd) : Prop := if b.2 then ltK o b.1 k else ltK o k b.1
instance (o : Nat) (k : BitVec 64) (b : Bnd) : Decidable (okB o k b) := by unfold okB; infer_instance
def wrongB (o : Nat) (k : BitVec 64) (l : List Bnd) : Bool := decide (∃ b ∈ l, ¬ okB o k b)
/-- the first node that is wrong among the beads; how many there are, if none is -/
def firstT (o : Nat) : Tr → List Bnd → Nat
  | .e, _ => 0
  | .n l k _ _ r, b =>
    if wrongB o k b then 0
    else if firstT o l (b ++ [(k, false)]) < l.size then 1 + firstT o l (b ++ [(k, false)])
    else 1 + firstT o l (b ++ [(k, false)]) + firstT o r (b ++ [(k, true)])
theorem first_le (o : Nat) : ∀ (t : Tr) (b : List Bnd), firstT o t b ≤ t.size
  | .e, _ => Nat.le_refl _
  | .n l k v g r, b => by
    have h1 := first_le o l (b ++ [(k, false)])
    have h2 := first_le o r (b ++ [(k, true)])
    rw [firstT, Tr.size]
    split
    · omega
    · split <;> omega
theorem wrong_no {o : Nat} {k : BitVec 64} {l : List Bnd} : wrongB o k l = false ↔ ∀ b ∈ l, okB o k b := by simp [wrongB]
theorem wrong_more {o : Nat} {k : BitVec 64} {l : List Bnd} {b : Bnd} : wrongB o k (l ++ [b]) = false ↔ wrongB o k l = false ∧ okB o k b := by
  rw [wrong_no, wrong_no]
  constructor
  · intro h
    exact ⟨fun c hc => h c (List.mem_append_left _ hc), h b (List.mem_append_right _ (List.mem_singleton.2 rfl))⟩
  · rintro ⟨h1, h2⟩ c hc
    rcases List.mem_append.1 hc with hc | hc
    · exact h1 c hc
    · rw [List.mem_singleton.1 hc]; exact h2
/-- no node is wrong, just if all keys keep the bounds, and rise -/
theorem first_all (o : Nat) : ∀ (t : Tr) (b : List Bnd), firstT o t b = t.size ↔ (∀ k ∈ t.keys, wrongB o k b = false) ∧ t.keys.Pairwise (ltK o)
  | .e, b => by simp [firstT, Tr.size, Tr.keys, Tr.pairs]
  | .n l k v g r, b => by
    have h1 := first_le o l (b ++ [(k, false)])
    have h2 := first_le o r (b ++ [(k, true)])
    have i1 := first_all o l (b ++ [(k, false)])
    have i2 := first_all o r (b ++ [(k, true)])
    rw [keys_n, firstT, Tr.size]
    cases hw : wrongB o k b with
    | true =>
      rw [if_pos rfl]
      constructor
      · intro h; omega
      · rintro ⟨h, _⟩
        rw [h k (by simp)] at hw
        cases hw
    | false =>
      rw [if_neg (by simp)]
      have step : (if firstT o l (b ++ [(k, false)]) < l.size then 1 + firstT o l (b ++ [(k, false)]) else 1 + firstT o l (b ++ [(k, false)]) + firstT o r (b ++ [(k, true)])) = 1 + l.size + r.size ↔ firstT o l (b ++ [(k, false)]) = l.size ∧ firstT o r (b ++ [(k, true)]) = r.size := by
        split
        · constructor
          · intro h; omega
          · rintro ⟨h, _⟩; omega
        · constructor
          · intro h; exact ⟨by omega, by omega⟩
          · rintro ⟨h, h'⟩; omega
      rw [step, i1, i2, List.pairwise_append, List.pairwise_cons]
      constructor
      · rintro ⟨⟨a1, a2⟩, b1, b2⟩
        refine ⟨fun x hx => ?_, a2, ⟨fun x hx => ?_, b2⟩, fun x hx y hy => ?_⟩
        · rcases List.mem_append.1 hx with hx | hx
          · exact (wrong_more.1 (a1 x hx)).1
          · rcases List.mem_cons.1 hx with rfl | hx
            · exact hw
            · exact (wrong_more.1 (b1 x hx)).1
        · have := (wrong_more.1 (b1 x hx)).2
          simpa [okB] using this
        · have h3 := (wrong_more.1 (a1 x hx)).2
          have h3' : ltK o x k := by simpa [okB] using h3
          rcases List.mem_cons.1 hy with rfl | hy
          · exact h3'
          · have h4 := (wrong_more.1 (b1 y hy)).2
            exact ltK_trans h3' (by simpa [okB] using h4)
      · rintro ⟨h, a2, ⟨b1, b2⟩, c⟩
        refine ⟨⟨fun x hx => wrong_more.2 ⟨h x (List.mem_append_left _ hx), ?_⟩, a2⟩, fun x hx => wrong_more.2 ⟨h x (List.mem_append_right _ (List.mem_cons_of_mem _ hx)), ?_⟩, b2⟩
        · have := c x hx k (List.mem_cons_self ..)
          simpa [okB] using this
        · have := b1 x hx
          simpa [okB] using this
/-- a tree is sound just if its keys rise -/
theorem sound_rises (o : Nat) (t : Tr) : firstT o t [] = t.size ↔ risesK o t.keys = true := by
  rw [first_all, rises_pair]
  simp [wrongB]
/-- both are sound, and one stands ahead of the other one -/
def aheadT (o : Nat) (a b : Tr) : Bool := risesK o (a.keys ++ b.keys)
theorem ahead_is (o : Nat) (a b : Tr) : aheadT o a b = true ↔ risesK o a.keys = true ∧ risesK o b.keys = true ∧ ∀ x ∈ a.keys, ∀ y ∈ b.keys, ltK o x y := by
  rw [aheadT, rises_pair, rises_pair, rises_pair, List.pairwise_append]
/-- a sound tree's sides stand ahead of each other -/
theorem sides_ahead {o : Nat} {l r : Tr} {k v g : BitVec 64} (h : risesK o (Tr.n l k v g r).keys = true) : aheadT o l r = true := by
  rw [rises_pair, keys_n, List.pairwise_append, List.pairwise_cons] at h
  rw [aheadT, rises_pair, List.pairwise_append]
  exact ⟨h.1, h.2.1.2, fun x hx y hy => h.2.2 x hx y (List.mem_cons_of_mem _ hy)⟩
/-- a node of two trees is sound just if they stand on both sides of its key -/
theorem join_sound {o : Nat} {a b : Tr} {k v g : BitVec 64} : risesK o (Tr.n a k v g b).keys = true ↔ aheadT o a (.n .e k v g .e) = true ∧ aheadT o (.n .e k v g .e) b = true := by
  have e : (Tr.n .e k v g .e).keys = [k] := rfl
  rw [aheadT, aheadT, e, rises_pair, rises_pair, rises_pair, keys_n, List.pairwise_append, List.pairwise_append, List.pairwise_append, List.pairwise_cons]
  constructor
  · rintro ⟨h1, ⟨h2, h3⟩, h4⟩
    exact ⟨⟨h1, by simp, fun x hx y hy => by rw [List.mem_singleton.1 hy]; exact h4 x hx k (List.mem_cons_self ..)⟩, by simp, h3, fun x hx y hy => by rw [List.mem_singleton.1 hx]; exact h2 y hy⟩
  · rintro ⟨⟨h1, _, h2⟩, _, h3, h4⟩
    refine ⟨h1, ⟨fun y hy => h4 k (List.mem_singleton.2 rfl) y hy, h3⟩, fun x hx y hy => ?_⟩
    have hk := h2 x hx k (List.mem_singleton.2 rfl)
    rcases List.mem_cons.1 hy with rfl | hy
    · exact hk
    · exact ltK_trans hk (h4 k (List.mem_singleton.2 rfl) y hy)
end Go.Proofs.Treem
