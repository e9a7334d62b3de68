/- Layer 13, as landed: going over trees by a step that tells of each node whether one goes on from it; what is noted then (a set of nodes), and the highest nodes that are noted. No program. -/
import Derived.Test.YthhhkcjggfdagaaL13Visit
import Derived.Test.YthhhkcjggfdagaaGPtrOld
namespace Go.Proofs.Ythhhkcjggfdagaa
open Go.RowKit Go.Proofs.Treem Go.Proofs.Cardm
variable {Nd : NdP}

section
variable {σ : Type} (step : σ → Option Addr → Bool × σ)
/-- the nodes of a tree from which one goes on, and what there is behind -/
def goV : AT → σ → List AT × σ
  | .e, s => ([], s)
  | .n a x l r, s => if (step s (some a)).1 = true then
      (.n a x l r :: ((goV l (step s (some a)).2).1 ++ (goV r (goV l (step s (some a)).2).2).1), (goV r (goV l (step s (some a)).2).2).2)
    else ([], (step s (some a)).2)
def goL : List AT → σ → List AT × σ
  | [], s => ([], s)
  | T :: us, s => ((goV step T s).1 ++ (goL us (goV step T s).2).1, (goL us (goV step T s).2).2)
theorem goL_e (us : List AT) (s : σ) : goL step (.e :: us) s = goL step us s := by simp [goL, goV]
theorem goL_no {a : Addr} {x : No} {l r : AT} (us : List AT) (s : σ) (h : (step s (some a)).1 = false) : goL step (.n a x l r :: us) s = goL step us (step s (some a)).2 := by simp [goL, goV, h]
theorem goL_yes {a : Addr} {x : No} {l r : AT} (us : List AT) (s : σ) (h : (step s (some a)).1 = true) : goL step (.n a x l r :: us) s = (.n a x l r :: (goL step (l :: r :: us) (step s (some a)).2).1, (goL step (l :: r :: us) (step s (some a)).2).2) := by
  simp [goL, goV, h, List.append_assoc]
theorem goL_one (T : AT) (s : σ) : goL step [T] s = goV step T s := by simp [goL]
end
/-- a node is noted; whether it wasn't -/
def noteStep (S : List (Option Addr)) (p : Option Addr) : Bool × List (Option Addr) := (!decide (p ∈ S), insP S p)
/-- what is noted by going over a tree -/
theorem note_go (hN : NodeSays Nd) {W : World} {B : Nat} {L : List Addr} : ∀ (T : AT) (S : List (Option Addr)) (vs : List AT), Vis Nd W B (none :: S) (T :: vs) → Within L (none :: S) (T :: vs) →
    Vis Nd W B (none :: (goV noteStep T S).2) vs ∧ Within L (none :: (goV noteStep T S).2) vs ∧ (goV noteStep T S).2 = S ++ (goV noteStep T S).1.map AT.ptr ∧ T.ptr ∈ none :: (goV noteStep T S).2 ∧ ∀ V ∈ (goV noteStep T S).1, ∀ b ∈ V.addrs, b ∈ T.addrs
  | .e, S, vs, h, k => ⟨h.seen (List.mem_cons_self ..), k.seen, by simp [goV], List.mem_cons_self .., fun V hV => by simp [goV] at hV⟩
  | .n a x l r, S, vs, h, k => by
    by_cases ha : some a ∈ S
    · have e : goV noteStep (.n a x l r) S = ([], S) := by simp [goV, noteStep, insP, ha]
      rw [e]
      exact ⟨h.seen (List.mem_cons_of_mem _ ha), k.seen, by simp, List.mem_cons_of_mem _ ha, fun V hV => by cases hV⟩
    · have ha' : some a ∉ none :: S := fun hx => (List.mem_cons.1 hx).elim (fun e => by cases e) ha
      have h1 := h.meet hN ha'
      have k1 := k.meet (a := a)
      have i1 : insP S (some a) = S ++ [some a] := by simp [insP, ha]
      obtain ⟨h2, k2, e2, m2, s2⟩ := note_go hN l (S ++ [some a]) (r :: vs) h1 k1
      obtain ⟨h3, k3, e3, m3, s3⟩ := note_go hN r (goV noteStep l (S ++ [some a])).2 vs h2 k2
      have e : goV noteStep (.n a x l r) S = (.n a x l r :: ((goV noteStep l (S ++ [some a])).1 ++ (goV noteStep r (goV noteStep l (S ++ [some a])).2).1), (goV noteStep r (goV noteStep l (S ++ [some a])).2).2) := by simp [goV, noteStep, i1, ha]
      rw [e]
      refine ⟨h3, k3, ?_, ?_, ?_⟩
      · show (goV noteStep r (goV noteStep l (S ++ [some a])).2).2 = _
        rw [e3, e2]
        simp [AT.ptr]
      · refine List.mem_cons_of_mem _ ?_
        show some a ∈ (goV noteStep r (goV noteStep l (S ++ [some a])).2).2
        rw [e3, e2]
        simp
      · intro V hV b hb
        rcases List.mem_cons.1 hV with rfl | hV
        · exact hb
        · rcases List.mem_append.1 hV with hV | hV
          · exact AT.mem_n.2 (.inr (.inl (s2 V hV b hb)))
          · exact AT.mem_n.2 (.inr (.inr (s3 V hV b hb)))
theorem note_all (hN : NodeSays Nd) {W : World} {B : Nat} {L : List Addr} : ∀ (us : List AT) (S : List (Option Addr)), Vis Nd W B (none :: S) us → Within L (none :: S) us →
    Vis Nd W B (none :: (goL noteStep us S).2) [] ∧ Within L (none :: (goL noteStep us S).2) [] ∧ (goL noteStep us S).2 = S ++ (goL noteStep us S).1.map AT.ptr ∧ ∀ T ∈ us, T.ptr ∈ none :: (goL noteStep us S).2
  | [], S, h, k => ⟨h, k, by simp [goL], fun T hT => by cases hT⟩
  | T :: us, S, h, k => by
    obtain ⟨h1, k1, e1, m1, -⟩ := note_go hN T S us h k
    obtain ⟨h2, k2, e2, m2⟩ := note_all hN us _ h1 k1
    refine ⟨h2, k2, ?_, ?_⟩
    · show (goL noteStep us (goV noteStep T S).2).2 = _
      rw [e2]
      show _ = S ++ ((goV noteStep T S).1 ++ (goL noteStep us (goV noteStep T S).2).1).map AT.ptr
      rw [List.map_append, ← List.append_assoc, ← e1]
    · intro V hV
      rcases List.mem_cons.1 hV with rfl | hV
      · show V.ptr ∈ none :: (goL noteStep us (goV noteStep V S).2).2
        rw [e2]
        rcases List.mem_cons.1 m1 with h | h
        · rw [h]; exact List.mem_cons_self ..
        · exact List.mem_cons_of_mem _ (List.mem_append_left _ h)
      · exact m2 V hV
/-- what is noted of trees: their nodes -/
theorem note_is (hN : NodeSays Nd) {W : World} {B : Nat} {us : List AT} {S : List (Option Addr)} {L0 : List Addr} (h : Vis Nd W B (none :: S) []) (hS : ∀ a, some a ∈ S ↔ a ∈ L0) (hl : ∀ U ∈ us, U.lies Nd W B) :
    Vis Nd W B (none :: (goL noteStep us S).2) [] ∧ (∀ a, some a ∈ (goL noteStep us S).2 ↔ a ∈ L0 ++ addrsOf us) ∧ (goL noteStep us S).2 = S ++ (goL noteStep us S).1.map AT.ptr := by
  have hv : Vis Nd W B (none :: S) us := ⟨h.none, h.nodup, hl, fun a x l r hx hs => by
    obtain ⟨h1, h2⟩ := h.edge a x l r hx hs
    exact ⟨.inl (h1.resolve_right (fun k => by cases k)), .inl (h2.resolve_right (fun k => by cases k))⟩⟩
  have hw : Within (L0 ++ addrsOf us) (none :: S) us := ⟨fun a ha => List.mem_append_left _ ((hS a).1 ((List.mem_cons.1 ha).resolve_left (fun e => by cases e))), fun U hU a ha => List.mem_append_right _ (List.mem_flatMap.2 ⟨U, hU, ha⟩)⟩
  obtain ⟨h1, h2, h3, h4⟩ := note_all hN us S hv hw
  refine ⟨h1, fun a => ⟨fun ha => h2.met a (List.mem_cons_of_mem _ ha), fun ha => ?_⟩, h3⟩
  rcases List.mem_append.1 ha with ha | ha
  · rw [h3]; exact List.mem_append_left _ ((hS a).2 ha)
  · obtain ⟨U, hU, ha⟩ := List.mem_flatMap.1 ha
    exact (List.mem_cons.1 (h1.all U (hl U hU) (h4 U hU) a ha)).resolve_left (fun e => by cases e)
theorem note_len {W : World} {B : Nat} {S : List (Option Addr)} {L : List Addr} (h : Vis Nd W B (none :: S) []) (hS : ∀ a, some a ∈ S ↔ a ∈ L) : S.length = card L := by
  have := h.count (L := L) (fun a => ⟨fun ha => (hS a).1 ((List.mem_cons.1 ha).resolve_left (fun e => by cases e)), fun ha => List.mem_cons_of_mem _ ((hS a).2 ha)⟩)
  rw [List.length_cons] at this
  omega
/-- how many are new -/
theorem note_new (hN : NodeSays Nd) {W : World} {B : Nat} {T : AT} {S : List (Option Addr)} {L0 : List Addr} (h : Vis Nd W B (none :: S) []) (hS : ∀ a, some a ∈ S ↔ a ∈ L0) (hl : T.lies Nd W B) :
    (goL noteStep [T] S).1.length = newC T.addrs L0 := by
  obtain ⟨h1, h2, h3⟩ := note_is hN (us := [T]) h hS (fun U hU => by rw [List.mem_singleton.1 hU]; exact hl)
  have e1 := note_len h hS
  have e2 := note_len h1 h2
  rw [h3, List.length_append, List.length_map] at e2
  have e3 : addrsOf [T] = T.addrs := by simp [addrsOf]
  rw [e3, card_append] at e2
  omega
theorem vis_nil (W : World) (B : Nat) : Vis Nd W B [none] [] := Vis.start W B

/-- which nodes are met, each once; which are new; the highest of those that aren't -/
structure Met where
  first : List (Option Addr)
  fresh : List (Option Addr)
  out : List (Option Addr)
def meetStep (m : Met) (p : Option Addr) : Bool × Met :=
  if p ∈ m.first then (false, { m with first := insP m.first p })
  else if p ∈ m.fresh then (false, ⟨insP m.first p, insP m.fresh p, m.out ++ [p]⟩)
  else (true, ⟨insP m.first p, insP m.fresh p, m.out⟩)
/-- all its highest ones are told already -/
def AT.have_ (O : List Addr) (out : List (Option Addr)) : AT → Prop
  | .e => True
  | .n a _ l r => if a ∈ O then some a ∈ out else l.have_ O out ∧ r.have_ O out
theorem AT.have_more {O : List Addr} {out out' : List (Option Addr)} (h : ∀ p ∈ out, p ∈ out') : ∀ T : AT, T.have_ O out → T.have_ O out'
  | .e, _ => trivial
  | .n a x l r, k => by
    unfold AT.have_ at k ⊢
    split
    · rename_i ha; rw [if_pos ha] at k; exact h _ k
    · rename_i ha; rw [if_neg ha] at k; exact ⟨AT.have_more h l k.1, AT.have_more h r k.2⟩
theorem AT.tops_have {O : List Addr} : ∀ (T : AT) (ts : List AT), T.have_ O (ts.map AT.ptr) → T.tops O ts = ts
  | .e, ts, _ => rfl
  | .n a x l r, ts, k => by
    unfold AT.have_ at k
    rw [AT.tops]
    split
    · rename_i ha; rw [if_pos ha] at k; rw [if_pos k]
    · rename_i ha; rw [if_neg ha] at k; rw [AT.tops_have l ts k.1, AT.tops_have r ts k.2]
theorem AT.have_tops {O : List Addr} : ∀ (T : AT) (ts : List AT), T.have_ O ((T.tops O ts).map AT.ptr)
  | .e, ts => trivial
  | .n a x l r, ts => by
    unfold AT.have_
    rw [AT.tops]
    by_cases ha : a ∈ O
    · rw [if_pos ha, if_pos ha]
      split
      · rename_i h; exact h
      · simp [AT.ptr]
    · rw [if_neg ha, if_neg ha]
      refine ⟨AT.have_more (fun p hp => ?_) l (AT.have_tops l ts), AT.have_tops r _⟩
      obtain ⟨V, hV, rfl⟩ := List.mem_map.1 hp
      exact List.mem_map.2 ⟨V, AT.tops_more O r _ V hV, rfl⟩
theorem meet_go (hN : NodeSays Nd) {W : World} {B : Nat} {O : List Addr} : ∀ (T : AT) (m : Met) (ts : List AT), T.lies Nd W B → m.out = ts.map AT.ptr → (∀ p ∈ m.out, p ∈ m.first) → (∀ a, some a ∈ m.fresh ↔ a ∈ O ∨ some a ∈ m.first) →
    (∀ V : AT, V.lies Nd W B → V ≠ .e → V.ptr ∈ m.first → V.size ≤ T.size → V.have_ O m.out) →
    (goV meetStep T m).2.out = (T.tops O ts).map AT.ptr ∧ (∀ p ∈ (goV meetStep T m).2.out, p ∈ (goV meetStep T m).2.first) ∧ (∀ a, some a ∈ (goV meetStep T m).2.fresh ↔ a ∈ O ∨ some a ∈ (goV meetStep T m).2.first) ∧
      (∀ V : AT, V.lies Nd W B → V ≠ .e → V.ptr ∈ (goV meetStep T m).2.first → V.ptr ∈ m.first ∨ V.have_ O (goV meetStep T m).2.out) ∧ (∀ p ∈ m.out, p ∈ (goV meetStep T m).2.out) ∧ (∀ p ∈ m.first, p ∈ (goV meetStep T m).2.first)
  | .e, m, ts, _, h1, h2, h3, h4 => ⟨h1, h2, h3, fun V _ _ hV => .inl hV, fun p hp => hp, fun p hp => hp⟩
  | .n a x l r, m, ts, hT, h1, h2, h3, h4 => by
    have hT0 := hT
    obtain ⟨-, -, -, hl, hr⟩ := hT
    by_cases hf : some a ∈ m.first
    · have e : goV meetStep (.n a x l r) m = ([], m) := by simp [goV, meetStep, hf, insP]
      rw [e]
      have hh := h4 _ hT0 (by simp) hf (Nat.le_refl _)
      rw [h1] at hh
      rw [AT.tops_have _ _ hh]
      exact ⟨h1, h2, h3, fun V _ _ hV => .inl hV, fun p hp => hp, fun p hp => hp⟩
    · have i1 : insP m.first (some a) = m.first ++ [some a] := by simp [insP, hf]
      by_cases hO : a ∈ O
      · have hfr : some a ∈ m.fresh := (h3 a).2 (.inl hO)
        have i2 : insP m.fresh (some a) = m.fresh := by simp [insP, hfr]
        have e : goV meetStep (.n a x l r) m = ([], ⟨m.first ++ [some a], m.fresh, m.out ++ [some a]⟩) := by simp [goV, meetStep, hf, hfr, i1, i2]
        rw [e]
        have hno : some a ∉ ts.map AT.ptr := fun hx => hf (h2 _ (h1 ▸ hx))
        refine ⟨?_, ?_, ?_, ?_, fun p hp => List.mem_append_left _ hp, fun p hp => List.mem_append_left _ hp⟩
        · rw [AT.tops, if_pos hO, if_neg hno, List.map_append, ← h1]; rfl
        · intro p hp
          rcases List.mem_append.1 hp with hp | hp
          · exact List.mem_append_left _ (h2 p hp)
          · exact List.mem_append_right _ hp
        · intro b
          rw [h3 b]
          constructor
          · rintro (h | h)
            · exact .inl h
            · exact .inr (List.mem_append_left _ h)
          · rintro (h | h)
            · exact .inl h
            · rcases List.mem_append.1 h with h | h
              · exact .inr h
              · rw [List.mem_singleton] at h; cases h; exact .inl hO
        · intro V hV hne hp
          rcases List.mem_append.1 hp with hp | hp
          · exact .inl hp
          · rw [List.mem_singleton] at hp
            have := AT.same hN hV hT0 hp
            subst this
            refine .inr ?_
            unfold AT.have_
            rw [if_pos hO]
            exact List.mem_append_right _ (List.mem_singleton.2 rfl)
      · have hfr : some a ∉ m.fresh := fun h => ((h3 a).1 h).elim hO hf
        have i2 : insP m.fresh (some a) = m.fresh ++ [some a] := by simp [insP, hfr]
        obtain ⟨m1, hm1⟩ : ∃ m1 : Met, (⟨m.first ++ [some a], m.fresh ++ [some a], m.out⟩ : Met) = m1 := ⟨_, rfl⟩
        have e : goV meetStep (.n a x l r) m = (.n a x l r :: ((goV meetStep l m1).1 ++ (goV meetStep r (goV meetStep l m1).2).1), (goV meetStep r (goV meetStep l m1).2).2) := by simp [goV, meetStep, hf, hfr, i1, i2, hm1]
        have f1 : m1.first = m.first ++ [some a] := hm1 ▸ rfl
        have f2 : m1.fresh = m.fresh ++ [some a] := hm1 ▸ rfl
        have f3 : m1.out = m.out := hm1 ▸ rfl
        have hs : (AT.n a x l r).size = 1 + l.size + r.size := rfl
        have big : ∀ V : AT, V.lies Nd W B → V.ptr = some a → V.size ≤ 1 + l.size + r.size → V = .n a x l r := fun V hV hp _ => AT.same hN hV hT0 hp
        have a1 := meet_go hN l m1 ts hl (f3.trans h1) (fun p hp => by rw [f1]; exact List.mem_append_left _ (h2 p (f3 ▸ hp))) (fun b => by
            rw [f1, f2]
            constructor
            · intro h
              rcases List.mem_append.1 h with h | h
              · exact ((h3 b).1 h).imp id (List.mem_append_left _)
              · exact .inr (List.mem_append_right _ h)
            · rintro (h | h)
              · exact List.mem_append_left _ ((h3 b).2 (.inl h))
              · rcases List.mem_append.1 h with h | h
                · exact List.mem_append_left _ ((h3 b).2 (.inr h))
                · exact List.mem_append_right _ h)
          (fun V hV hne hp hsz => by
            rw [f3]
            rw [f1] at hp
            rcases List.mem_append.1 hp with hp | hp
            · exact h4 V hV hne hp (by rw [hs]; omega)
            · rw [List.mem_singleton] at hp
              have := AT.same hN hV hT0 hp
              subst this
              rw [hs] at hsz
              omega)
        obtain ⟨c1, c2, c3, c4, c5, c6⟩ := a1
        obtain ⟨m2, hm2⟩ : ∃ m2, (goV meetStep l m1).2 = m2 := ⟨_, rfl⟩
        rw [hm2] at c1 c2 c3 c4 c5 c6
        have a2 := meet_go hN r m2 (l.tops O ts) hr c1 c2 c3 (fun V hV hne hp hsz => by
            rcases c4 V hV hne hp with hp | hh
            · rw [f1] at hp
              rcases List.mem_append.1 hp with hp | hp
              · exact AT.have_more (fun p hq => c5 p (f3.symm ▸ hq)) V (h4 V hV hne hp (by rw [hs]; omega))
              · rw [List.mem_singleton] at hp
                have := AT.same hN hV hT0 hp
                subst this
                rw [hs] at hsz
                omega
            · exact hh)
        obtain ⟨d1, d2, d3, d4, d5, d6⟩ := a2
        rw [e, hm2]
        have hend : (goV meetStep r m2).2.out = ((AT.n a x l r).tops O ts).map AT.ptr := by rw [d1, AT.tops, if_neg hO]
        refine ⟨hend, d2, d3, fun V hV hne hp => ?_, fun p hp => d5 p (c5 p (f3.symm ▸ hp)), fun p hp => d6 p (c6 p (by rw [f1]; exact List.mem_append_left _ hp))⟩
        rcases d4 V hV hne hp with hp | hh
        · rcases c4 V hV hne hp with hp | hh
          · rw [f1] at hp
            rcases List.mem_append.1 hp with hp | hp
            · exact .inl hp
            · rw [List.mem_singleton] at hp
              have := AT.same hN hV hT0 hp
              subst this
              refine .inr ?_
              show AT.have_ O (goV meetStep r m2).2.out (.n a x l r)
              rw [hend]
              exact AT.have_tops _ _
          · exact .inr (AT.have_more (fun p hq => d5 p hq) V hh)
        · exact .inr hh
/-- the highest ones that aren't new -/
theorem meet_tops (hN : NodeSays Nd) {W : World} {B : Nat} {O : List Addr} {T : AT} {S : List (Option Addr)} (hT : T.lies Nd W B) (hS : ∀ a, some a ∈ S ↔ a ∈ O) :
    (goL meetStep [T] ⟨[], S, []⟩).2.out = (topsOf O T).map AT.ptr := by
  rw [goL_one]
  exact (meet_go hN T ⟨[], S, []⟩ [] hT rfl (fun p hp => by cases hp) (fun a => by rw [hS a]; simp) (fun V _ _ hV => by cases hV)).1
end Go.Proofs.Ythhhkcjggfdagaa
