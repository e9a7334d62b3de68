/- Layer 13: going over trees whose nodes may stand in them more than once, each node once: what has been met, and what is still to be gone by (a row of trees). No program. -/
import Derived.Test.YthhhkcjggfdagaaL13At
namespace Go.Proofs.Ythhhkcjggfdagaa
open Go.RowKit Go.Proofs.Treem Go.Proofs.Cardm
variable {Nd : NdP}

/-- S has been met (none among it), us is still to be gone by: whoever has been met, its sides have been met, or are still to be gone by -/
structure Vis (Nd : NdP) (W : World) (B : Nat) (S : List (Option Addr)) (us : List AT) : Prop where
  none : Option.none ∈ S
  nodup : S.Nodup
  lies : ∀ U ∈ us, U.lies Nd W B
  edge : ∀ a x l r, (AT.n a x l r).lies Nd W B → some a ∈ S → (l.ptr ∈ S ∨ l ∈ us) ∧ (r.ptr ∈ S ∨ r ∈ us)
section
variable {W : World} {B : Nat} {S : List (Option Addr)} {us : List AT}
theorem Vis.start (W : World) (B : Nat) : Vis Nd W B [Option.none] [] := ⟨List.mem_singleton.2 rfl, by simp, (fun U h => by cases h), fun a x l r _ h => by simp at h⟩
/-- one more tree is to be gone by -/
theorem Vis.push (h : Vis Nd W B S us) {T : AT} (hT : T.lies Nd W B) : Vis Nd W B S (T :: us) :=
  ⟨h.none, h.nodup, fun U hU => (List.mem_cons.1 hU).elim (fun e => e ▸ hT) (h.lies U), fun a x l r hl hs => by
    obtain ⟨h1, h2⟩ := h.edge a x l r hl hs
    exact ⟨h1.imp id (List.mem_cons_of_mem _), h2.imp id (List.mem_cons_of_mem _)⟩⟩
/-- the order in which they are gone by makes no difference here -/
theorem Vis.perm {vs : List AT} (h : Vis Nd W B S us) (hv : ∀ U, U ∈ us ↔ U ∈ vs) : Vis Nd W B S vs :=
  ⟨h.none, h.nodup, fun U hU => h.lies U ((hv U).2 hU), fun a x l r hl hs => by
    obtain ⟨h1, h2⟩ := h.edge a x l r hl hs
    exact ⟨h1.imp id (hv l).1, h2.imp id (hv r).1⟩⟩
/-- one that has been met is passed over -/
theorem Vis.seen {U : AT} (h : Vis Nd W B S (U :: us)) (hU : U.ptr ∈ S) : Vis Nd W B S us :=
  ⟨h.none, h.nodup, fun V hV => h.lies V (List.mem_cons_of_mem _ hV), fun a x l r hl hs => by
    obtain ⟨h1, h2⟩ := h.edge a x l r hl hs
    have k : ∀ V : AT, V ∈ U :: us → V.ptr ∈ S ∨ V ∈ us := fun V hV => (List.mem_cons.1 hV).elim (fun e => .inl (e ▸ hU)) .inr
    exact ⟨h1.elim .inl (k l), h2.elim .inl (k r)⟩⟩
/-- one that has not is met, and its sides are to be gone by -/
theorem Vis.meet (hN : NodeSays Nd) {a : Addr} {x : No} {l r : AT} (h : Vis Nd W B S (.n a x l r :: us)) (ha : some a ∉ S) : Vis Nd W B (S ++ [some a]) (l :: r :: us) := by
  have hl := h.lies _ (List.mem_cons_self ..)
  obtain ⟨h1, h2, h3, h4, h5⟩ := hl
  refine ⟨List.mem_append_left _ h.none, ?_, ?_, ?_⟩
  · rw [List.nodup_append]
    refine ⟨h.nodup, by simp, fun p hp q hq e => ?_⟩
    rw [List.mem_singleton] at hq
    subst e
    rw [hq] at hp
    exact ha hp
  · intro U hU
    rcases List.mem_cons.1 hU with rfl | hU
    · exact h4
    · rcases List.mem_cons.1 hU with rfl | hU
      · exact h5
      · exact h.lies U (List.mem_cons_of_mem _ hU)
  · intro b y l' r' hb hs
    have k : ∀ V : AT, (V.ptr ∈ S ∨ V ∈ AT.n a x l r :: us) → V.ptr ∈ S ++ [some a] ∨ V ∈ l :: r :: us := fun V hV => by
      rcases hV with hV | hV
      · exact .inl (List.mem_append_left _ hV)
      · rcases List.mem_cons.1 hV with rfl | hV
        · exact .inl (List.mem_append_right _ (List.mem_singleton.2 rfl))
        · exact .inr (List.mem_cons_of_mem _ (List.mem_cons_of_mem _ hV))
    rcases List.mem_append.1 hs with hs | hs
    · obtain ⟨k1, k2⟩ := h.edge b y l' r' hb hs
      exact ⟨k l' k1, k r' k2⟩
    · rw [List.mem_singleton] at hs
      cases hs
      have e := AT.same hN hb (show (AT.n a x l r).lies Nd W B from ⟨h1, h2, h3, h4, h5⟩) rfl
      cases e
      exact ⟨.inr (List.mem_cons_self ..), .inr (List.mem_cons_of_mem _ (List.mem_cons_self ..))⟩
/-- where nothing is left all of whatever has been met has been -/
theorem Vis.all (h : Vis Nd W B S []) : ∀ T : AT, T.lies Nd W B → T.ptr ∈ S → ∀ a ∈ T.addrs, some a ∈ S
  | .e, _, _, a, ha => by cases ha
  | .n b x l r, ht, hs, a, ha => by
    obtain ⟨h1, h2⟩ := h.edge b x l r ht hs
    obtain ⟨_, _, _, h4, h5⟩ := ht
    rcases AT.mem_n.1 ha with rfl | ha | ha
    · exact hs
    · exact h.all l h4 (h1.resolve_right (fun k => by cases k)) a ha
    · exact h.all r h5 (h2.resolve_right (fun k => by cases k)) a ha
end
/-- what has been met is of a row of places, and so is what is to be gone by -/
structure Within (L : List Addr) (S : List (Option Addr)) (us : List AT) : Prop where
  met : ∀ a, some a ∈ S → a ∈ L
  left : ∀ U ∈ us, ∀ a ∈ U.addrs, a ∈ L
theorem Within.seen {L : List Addr} {S : List (Option Addr)} {U : AT} {us : List AT} (h : Within L S (U :: us)) : Within L S us := ⟨h.met, fun V hV => h.left V (List.mem_cons_of_mem _ hV)⟩
theorem Within.meet {L : List Addr} {S : List (Option Addr)} {a : Addr} {x : No} {l r : AT} {us : List AT} (h : Within L S (.n a x l r :: us)) : Within L (S ++ [some a]) (l :: r :: us) := by
  have k := h.left _ (List.mem_cons_self ..)
  refine ⟨fun b hb => ?_, fun U hU b hb => ?_⟩
  · rcases List.mem_append.1 hb with hb | hb
    · exact h.met b hb
    · rw [List.mem_singleton] at hb
      cases hb
      exact k a (AT.mem_n.2 (.inl rfl))
  · rcases List.mem_cons.1 hU with rfl | hU
    · exact k b (AT.mem_n.2 (.inr (.inl hb)))
    · rcases List.mem_cons.1 hU with rfl | hU
      · exact k b (AT.mem_n.2 (.inr (.inr hb)))
      · exact h.left U (List.mem_cons_of_mem _ hU) b hb
theorem card_some (l : List Addr) : card (l.map some) = card l := by
  induction l with
  | nil => rfl
  | cons a l ih => simp only [List.map_cons, card, ih, List.mem_map, Option.some.injEq, exists_eq_right]
/-- no more have been met than there are, and none -/
theorem Within.len {L : List Addr} {S : List (Option Addr)} {us : List AT} (h : Within L S us) (hn : S.Nodup) : S.length ≤ card L + 1 := by
  have h1 := card_nodup S hn
  have h2 : card S ≤ card (none :: L.map some) := card_sub fun p hp => by
    cases p with
    | none => exact List.mem_cons_self ..
    | some a => exact List.mem_cons_of_mem _ (List.mem_map.2 ⟨a, h.met a hp, rfl⟩)
  rw [card_cons none _ (by simp), card_some] at h2
  omega
/-- what is left of a walk: it grows less with each step -/
def leftV (L : List Addr) (S : List (Option Addr)) (us : List AT) : Nat := 2 * (card L + 1 - S.length) + us.length
theorem left_seen (L : List Addr) (S : List (Option Addr)) (U : AT) (us : List AT) : leftV L S us < leftV L S (U :: us) := by unfold leftV; rw [List.length_cons]; omega
theorem left_meet {L : List Addr} {S : List (Option Addr)} {a : Addr} {x : No} {l r : AT} {us : List AT} (h : Within L S (.n a x l r :: us)) (hn : S.Nodup) (ha : some a ∉ S) : leftV L (S ++ [some a]) (l :: r :: us) < leftV L S (.n a x l r :: us) := by
  have h1 := h.meet.len (by
    rw [List.nodup_append]
    refine ⟨hn, by simp, fun p hp q hq e => ?_⟩
    rw [List.mem_singleton] at hq
    subst e
    rw [hq] at hp
    exact ha hp)
  unfold leftV
  simp only [List.length_append, List.length_cons, List.length_nil] at h1 ⊢
  omega
/-- as many have been met as there are -/
theorem Vis.count {W : World} {B : Nat} {S : List (Option Addr)} {L : List Addr} (h : Vis Nd W B S []) (hs : ∀ a, some a ∈ S ↔ a ∈ L) : S.length = card L + 1 := by
  have h1 := card_nodup S h.nodup
  have h2 : card S = card (Option.none :: L.map some) := card_eq fun p => by
    cases p with
    | none => simp [h.none]
    | some a => simp [hs a]
  rw [card_cons Option.none _ (by simp), card_some] at h2
  omega
end Go.Proofs.Ythhhkcjggfdagaa
