/- Layer 13: the nodes of a tree by where they lie; which of them stand in others, and which of those stand highest. -/
import Derived.Test.YthhhkcjggfdagaaL9At
import Derived.Test.YthhhkcjggfdagaaL13Math
import Derived.Test.YthhhkcjggfdagaaGOwn
namespace Go.Proofs.Ythhhkcjggfdagaa
open Go.RowKit Go.Proofs.Treem Go.Proofs.Cardm
variable {Nd : NdP}

/-- where a tree's nodes lie, from left to right -/
def AT.addrs : AT → List Addr
  | .e => []
  | .n a _ l r => l.addrs ++ a :: r.addrs
def addrsOf (os : List AT) : List Addr := os.flatMap AT.addrs
theorem AT.mem_n {a b : Addr} {x : No} {l r : AT} : b ∈ (AT.n a x l r).addrs ↔ b = a ∨ b ∈ l.addrs ∨ b ∈ r.addrs := by
  simp only [AT.addrs, List.mem_append, List.mem_cons]
  constructor
  · rintro (h | h | h)
    · exact .inr (.inl h)
    · exact .inl h
    · exact .inr (.inr h)
  · rintro (h | h | h)
    · exact .inr (.inl h)
    · exact .inl h
    · exact .inr (.inr h)
theorem AT.root_mem {T : AT} {a : Addr} (h : T.ptr = some a) : a ∈ T.addrs := by
  cases T with
  | e => cases h
  | n b x l r => cases h; exact AT.mem_n.2 (.inl rfl)
/-- what lies at one place is one tree -/
theorem AT.same (hN : NodeSays Nd) {W : World} {B B' : Nat} : ∀ {T U : AT}, T.lies Nd W B → U.lies Nd W B' → T.ptr = U.ptr → T = U
  | .e, .e, _, _, _ => rfl
  | .e, .n .., _, _, h => by cases h
  | .n .., .e, _, _, h => by cases h
  | .n a x l r, .n b y l' r', ⟨h1, h2, h3, h4, h5⟩, ⟨k1, k2, k3, k4, k5⟩, h => by
    cases h
    have e := hN.uniq h1 k1
    subst e
    rw [AT.same hN h4 k4 (h2.symm.trans k2), AT.same hN h5 k5 (h3.symm.trans k3)]
theorem AT.lies.lt (hN : NodeSays Nd) {W : World} {B : Nat} : ∀ {T : AT}, T.lies Nd W B → ∀ a ∈ T.addrs, a.block < B
  | .e, _, a, h => by cases h
  | .n b x l r, ⟨h1, _, _, h4, h5⟩, a, h => by
    rcases AT.mem_n.1 h with rfl | h | h
    · exact hN.lt h1
    · exact h4.lt hN a h
    · exact h5.lt hN a h
/-- each node of a tree is one's root that lies there, all of whose nodes are the tree's -/
theorem AT.sub_at {W : World} {B : Nat} : ∀ {T : AT}, T.lies Nd W B → ∀ a ∈ T.addrs, ∃ V : AT, V.ptr = some a ∧ V.lies Nd W B ∧ ∀ b ∈ V.addrs, b ∈ T.addrs
  | .e, _, a, h => by cases h
  | .n b x l r, ht, a, h => by
    have ht0 := ht
    obtain ⟨h1, h2, h3, h4, h5⟩ := ht
    rcases AT.mem_n.1 h with rfl | h | h
    · exact ⟨.n a x l r, rfl, ht0, fun b hb => hb⟩
    · obtain ⟨V, e, hv, hs⟩ := AT.sub_at h4 a h
      exact ⟨V, e, hv, fun b hb => AT.mem_n.2 (.inr (.inl (hs b hb)))⟩
    · obtain ⟨V, e, hv, hs⟩ := AT.sub_at h5 a h
      exact ⟨V, e, hv, fun b hb => AT.mem_n.2 (.inr (.inr (hs b hb)))⟩
/-- all of a node that is a tree's is the tree's -/
theorem AT.closed (hN : NodeSays Nd) {W : World} {B B' : Nat} {U V : AT} (hu : U.lies Nd W B) (hv : V.lies Nd W B') {a : Addr} (ha : V.ptr = some a) (hm : a ∈ U.addrs) : ∀ b ∈ V.addrs, b ∈ U.addrs := by
  obtain ⟨V', e, hv', hs⟩ := AT.sub_at hu a hm
  rw [AT.same hN hv hv' (ha.trans e.symm)]
  exact hs
/-- the highest nodes of a tree that are in a row, behind others -/
def AT.tops (O : List Addr) : AT → List AT → List AT
  | .e, out => out
  | .n a x l r, out => if a ∈ O then (if some a ∈ out.map AT.ptr then out else out ++ [.n a x l r]) else r.tops O (l.tops O out)
theorem AT.tops_more (O : List Addr) : ∀ (T : AT) (out : List AT), ∀ V ∈ out, V ∈ T.tops O out
  | .e, _, _, h => h
  | .n a x l r, out, V, h => by
    rw [AT.tops]
    split
    · split
      · exact h
      · exact List.mem_append_left _ h
    · exact AT.tops_more O r _ V (AT.tops_more O l out V h)
/-- each of them is the tree's, and in the row -/
theorem AT.tops_in {W : World} {B : Nat} (O : List Addr) : ∀ (T : AT) (out : List AT), T.lies Nd W B → ∀ V ∈ T.tops O out, V ∈ out ∨ (V.lies Nd W B ∧ (∃ a, V.ptr = some a ∧ a ∈ O) ∧ ∀ b ∈ V.addrs, b ∈ T.addrs)
  | .e, _, _, _, h => .inl h
  | .n a x l r, out, ht, V, h => by
    have ht0 := ht
    obtain ⟨h1, h2, h3, h4, h5⟩ := ht
    rw [AT.tops] at h
    split at h
    · rename_i ha
      split at h
      · exact .inl h
      · rcases List.mem_append.1 h with h | h
        · exact .inl h
        · rw [List.mem_singleton.1 h]
          exact .inr ⟨ht0, ⟨a, rfl, ha⟩, fun b hb => hb⟩
    · rcases AT.tops_in O r _ h5 V h with h | ⟨k1, k2, k3⟩
      · rcases AT.tops_in O l out h4 V h with h | ⟨k1, k2, k3⟩
        · exact .inl h
        · exact .inr ⟨k1, k2, fun b hb => AT.mem_n.2 (.inr (.inl (k3 b hb)))⟩
      · exact .inr ⟨k1, k2, fun b hb => AT.mem_n.2 (.inr (.inr (k3 b hb)))⟩
/-- whatever of the tree is in the row is one of theirs -/
theorem AT.tops_all (hN : NodeSays Nd) {W : World} {B : Nat} (O : List Addr) : ∀ (T : AT) (out : List AT), T.lies Nd W B → (∀ V ∈ out, V.lies Nd W B) → ∀ a ∈ T.addrs, a ∈ O → ∃ V ∈ T.tops O out, a ∈ V.addrs
  | .e, _, _, _, a, h, _ => by cases h
  | .n b x l r, out, ht, ho, a, h, hO => by
    have ht0 := ht
    obtain ⟨h1, h2, h3, h4, h5⟩ := ht
    have hl : ∀ V ∈ l.tops O out, V.lies Nd W B := fun V hV => (AT.tops_in O l out h4 V hV).elim (ho V) (fun k => k.1)
    rw [AT.tops]
    split
    · rename_i hb
      split
      · rename_i hm
        obtain ⟨V, hV, e⟩ := List.mem_map.1 hm
        refine ⟨V, hV, ?_⟩
        rw [AT.same hN (ho V hV) ht0 e]
        exact h
      · exact ⟨_, List.mem_append_right _ (List.mem_singleton.2 rfl), h⟩
    · rename_i hb
      rcases AT.mem_n.1 h with rfl | h | h
      · exact absurd hO hb
      · obtain ⟨V, hV, k⟩ := AT.tops_all hN O l out h4 ho a h hO
        exact ⟨V, AT.tops_more O r _ V hV, k⟩
      · exact AT.tops_all hN O r _ h5 hl a h hO
/-- they lie at places of their own -/
theorem AT.tops_nodup (O : List Addr) : ∀ (T : AT) (out : List AT), (out.map AT.ptr).Nodup → ((T.tops O out).map AT.ptr).Nodup
  | .e, _, h => h
  | .n a x l r, out, h => by
    rw [AT.tops]
    split
    · split
      · exact h
      · rename_i hm
        rw [List.map_append, List.nodup_append]
        refine ⟨h, by simp, ?_⟩
        intro p hp q hq e
        subst e
        rw [List.map_cons, List.map_nil, List.mem_singleton] at hq
        rw [hq] at hp
        exact hm hp
    · exact AT.tops_nodup O r _ (AT.tops_nodup O l out h)
/-- the answers of layer 13 -/
abbrev topsOf (O : List Addr) (T : AT) : List AT := T.tops O []
theorem tops_len {W : World} {B : Nat} (O : List Addr) (T : AT) (ht : T.lies Nd W B) : (topsOf O T).length ≤ card T.addrs := by
  have h1 := AT.tops_nodup O T [] List.nodup_nil
  have h2 := AT.tops_in (Nd := Nd) O T [] ht
  have h3 : ∀ V ∈ topsOf O T, ∃ a, V.ptr = some a ∧ a ∈ T.addrs := fun V hV => by
    rcases h2 V hV with h | ⟨_, ⟨a, e, _⟩, k⟩
    · cases h
    · exact ⟨a, e, k a (AT.root_mem e)⟩
  have e1 : card ((topsOf O T).map AT.ptr) = (topsOf O T).length := by rw [card_nodup _ h1, List.length_map]
  have e2 : card ((topsOf O T).map AT.ptr) ≤ card (T.addrs.map some) := card_sub fun p hp => by
    obtain ⟨V, hV, rfl⟩ := List.mem_map.1 hp
    obtain ⟨a, e, ha⟩ := h3 V hV
    rw [e]; exact List.mem_map.2 ⟨a, ha, rfl⟩
  have e3 : ∀ l : List Addr, card (l.map some) = card l := fun l => by
    induction l with
    | nil => rfl
    | cons a l ih => simp only [List.map_cons, card, ih, List.mem_map, Option.some.injEq, exists_eq_right]
  rw [e3] at e2
  omega
/-- all that the tops have is what a tree and an old one have in common -/
theorem tops_card (hN : NodeSays Nd) {W : World} {B B' : Nat} {T U : AT} (ht : T.lies Nd W B) (hu : U.lies Nd W B') : card (addrsOf (topsOf U.addrs T)) = sameC T.addrs U.addrs := card_eq fun a => by
  simp only [addrsOf, List.mem_flatMap, List.mem_filter, decide_eq_true_eq]
  constructor
  · rintro ⟨V, hV, ha⟩
    rcases AT.tops_in (Nd := Nd) U.addrs T [] ht V hV with h | ⟨k1, ⟨b, e, hb⟩, k3⟩
    · cases h
    · exact ⟨k3 a ha, AT.closed hN hu k1 e hb a ha⟩
  · rintro ⟨ha, hb⟩
    exact AT.tops_all hN U.addrs T [] ht (fun _ h => by cases h) a ha hb
end Go.Proofs.Ythhhkcjggfdagaa
