/- Layer 13, as landed: where the function stands that goes over the nodes of trees from which one goes on. -/
import Derived.Test.YthhhkcjggfdagaaL13Visit
import Derived.Test.YthhhkcjggfdagaaGPtrOld
import Derived.Test.YthhhkcjggfdagaaGFrom
import Derived.Test.YthhhkcjggfdagaaGApart
import Derived.Test.YthhhkcjggfdagaaL9Stand
import Derived.Shelf.Abstract
import Derived.Test.YthhhkcjggfdagaaGCut
import Derived.Test.YthhhkcjggfdagaaGOwn
import Derived.Laws.OwnMore
/- Layer 13, as landed: going over trees by a step that tells of each node whether one goes on from it; what is noted then (a set of nodes), and the highest nodes that are noted. No program. -/
namespace Go.Proofs.Ythhhkcjggfdagaa
open Go.RowKit Go.Proofs.Treem Go.Proofs.Cardm
variable {Nd : NdP}

section
variable {σ : Type} (step : σ → Option Addr → Bool × σ)
/-- the nodes of a tree from which one goes on, and what there is behind -/
def goV : AT → σ → List AT × σ
  | .e, s => ([], s)
  | .n a x l r, s => if (step s (some a)).1 = true then
      (.n a x l r :: ((goV l (step s (some a)).2).1 ++ (goV r (goV l (step s (some a)).2).2).1), (goV r (goV l (step s (some a)).2).2).2)
    else ([], (step s (some a)).2)
def goL : List AT → σ → List AT × σ
  | [], s => ([], s)
  | T :: us, s => ((goV step T s).1 ++ (goL us (goV step T s).2).1, (goL us (goV step T s).2).2)
theorem goL_e (us : List AT) (s : σ) : goL step (.e :: us) s = goL step us s := by simp [goL, goV]
theorem goL_no {a : Addr} {x : No} {l r : AT} (us : List AT) (s : σ) (h : (step s (some a)).1 = false) : goL step (.n a x l r :: us) s = goL step us (step s (some a)).2 := by simp [goL, goV, h]
theorem goL_yes {a : Addr} {x : No} {l r : AT} (us : List AT) (s : σ) (h : (step s (some a)).1 = true) : goL step (.n a x l r :: us) s = (.n a x l r :: (goL step (l :: r :: us) (step s (some a)).2).1, (goL step (l :: r :: us) (step s (some a)).2).2) := by
  simp [goL, goV, h, List.append_assoc]
theorem goL_one (T : AT) (s : σ) : goL step [T] s = goV step T s := by simp [goL]
end
/-- a node is noted; whether it wasn't -/
def noteStep (S : List (Option Addr)) (p : Option Addr) : Bool × List (Option Addr) := (!decide (p ∈ S), insP S p)
/-- what is noted by going over a tree -/
theorem note_go (hN : NodeSays Nd) {W : World} {B : Nat} {L : List Addr} : ∀ (T : AT) (S : List (Option Addr)) (vs : List AT), Vis Nd W B (none :: S) (T :: vs) → Within L (none :: S) (T :: vs) →
    Vis Nd W B (none :: (goV noteStep T S).2) vs ∧ Within L (none :: (goV noteStep T S).2) vs ∧ (goV noteStep T S).2 = S ++ (goV noteStep T S).1.map AT.ptr ∧ T.ptr ∈ none :: (goV noteStep T S).2 ∧ ∀ V ∈ (goV noteStep T S).1, ∀ b ∈ V.addrs, b ∈ T.addrs
  | .e, S, vs, h, k => ⟨h.seen (List.mem_cons_self ..), k.seen, by simp [goV], List.mem_cons_self .., fun V hV => by simp [goV] at hV⟩
  | .n a x l r, S, vs, h, k => by
    by_cases ha : some a ∈ S
    · have e : goV noteStep (.n a x l r) S = ([], S) := by simp [goV, noteStep, insP, ha]
      rw [e]
      exact ⟨h.seen (List.mem_cons_of_mem _ ha), k.seen, by simp, List.mem_cons_of_mem _ ha, fun V hV => by cases hV⟩
    · have ha' : some a ∉ none :: S := fun hx => (List.mem_cons.1 hx).elim (fun e => by cases e) ha
      have h1 := h.meet hN ha'
      have k1 := k.meet (a := a)
      have i1 : insP S (some a) = S ++ [some a] := by simp [insP, ha]
      obtain ⟨h2, k2, e2, m2, s2⟩ := note_go hN l (S ++ [some a]) (r :: vs) h1 k1
      obtain ⟨h3, k3, e3, m3, s3⟩ := note_go hN r (goV noteStep l (S ++ [some a])).2 vs h2 k2
      have e : goV noteStep (.n a x l r) S = (.n a x l r :: ((goV noteStep l (S ++ [some a])).1 ++ (goV noteStep r (goV noteStep l (S ++ [some a])).2).1), (goV noteStep r (goV noteStep l (S ++ [some a])).2).2) := by simp [goV, noteStep, i1, ha]
      rw [e]
      refine ⟨h3, k3, ?_, ?_, ?_⟩
      · show (goV noteStep r (goV noteStep l (S ++ [some a])).2).2 = _
        rw [e3, e2]
        simp [AT.ptr]
      · refine List.mem_cons_of_mem _ ?_
        show some a ∈ (goV noteStep r (goV noteStep l (S ++ [some a])).2).2
        rw [e3, e2]
        simp
      · intro V hV b hb
        rcases List.mem_cons.1 hV with rfl | hV
        · exact hb
        · rcases List.mem_append.1 hV with hV | hV
          · exact AT.mem_n.2 (.inr (.inl (s2 V hV b hb)))
          · exact AT.mem_n.2 (.inr (.inr (s3 V hV b hb)))
theorem note_all (hN : NodeSays Nd) {W : World} {B : Nat} {L : List Addr} : ∀ (us : List AT) (S : List (Option Addr)), Vis Nd W B (none :: S) us → Within L (none :: S) us →
    Vis Nd W B (none :: (goL noteStep us S).2) [] ∧ Within L (none :: (goL noteStep us S).2) [] ∧ (goL noteStep us S).2 = S ++ (goL noteStep us S).1.map AT.ptr ∧ ∀ T ∈ us, T.ptr ∈ none :: (goL noteStep us S).2
  | [], S, h, k => ⟨h, k, by simp [goL], fun T hT => by cases hT⟩
  | T :: us, S, h, k => by
    obtain ⟨h1, k1, e1, m1, -⟩ := note_go hN T S us h k
    obtain ⟨h2, k2, e2, m2⟩ := note_all hN us _ h1 k1
    refine ⟨h2, k2, ?_, ?_⟩
    · show (goL noteStep us (goV noteStep T S).2).2 = _
      rw [e2]
      show _ = S ++ ((goV noteStep T S).1 ++ (goL noteStep us (goV noteStep T S).2).1).map AT.ptr
      rw [List.map_append, ← List.append_assoc, ← e1]
    · intro V hV
      rcases List.mem_cons.1 hV with rfl | hV
      · show V.ptr ∈ none :: (goL noteStep us (goV noteStep V S).2).2
        rw [e2]
        rcases List.mem_cons.1 m1 with h | h
        · rw [h]; exact List.mem_cons_self ..
        · exact List.mem_cons_of_mem _ (List.mem_append_left _ h)
      · exact m2 V hV
/-- what is noted of trees: their nodes -/
theorem note_is (hN : NodeSays Nd) {W : World} {B : Nat} {us : List AT} {S : List (Option Addr)} {L0 : List Addr} (h : Vis Nd W B (none :: S) []) (hS : ∀ a, some a ∈ S ↔ a ∈ L0) (hl : ∀ U ∈ us, U.lies Nd W B) :
    Vis Nd W B (none :: (goL noteStep us S).2) [] ∧ (∀ a, some a ∈ (goL noteStep us S).2 ↔ a ∈ L0 ++ addrsOf us) ∧ (goL noteStep us S).2 = S ++ (goL noteStep us S).1.map AT.ptr := by
  have hv : Vis Nd W B (none :: S) us := ⟨h.none, h.nodup, hl, fun a x l r hx hs => by
    obtain ⟨h1, h2⟩ := h.edge a x l r hx hs
    exact ⟨.inl (h1.resolve_right (fun k => by cases k)), .inl (h2.resolve_right (fun k => by cases k))⟩⟩
  have hw : Within (L0 ++ addrsOf us) (none :: S) us := ⟨fun a ha => List.mem_append_left _ ((hS a).1 ((List.mem_cons.1 ha).resolve_left (fun e => by cases e))), fun U hU a ha => List.mem_append_right _ (List.mem_flatMap.2 ⟨U, hU, ha⟩)⟩
  obtain ⟨h1, h2, h3, h4⟩ := note_all hN us S hv hw
  refine ⟨h1, fun a => ⟨fun ha => h2.met a (List.mem_cons_of_mem _ ha), fun ha => ?_⟩, h3⟩
  rcases List.mem_append.1 ha with ha | ha
  · rw [h3]; exact List.mem_append_left _ ((hS a).2 ha)
  · obtain ⟨U, hU, ha⟩ := List.mem_flatMap.1 ha
    exact (List.mem_cons.1 (h1.all U (hl U hU) (h4 U hU) a ha)).resolve_left (fun e => by cases e)
theorem note_len {W : World} {B : Nat} {S : List (Option Addr)} {L : List Addr} (h : Vis Nd W B (none :: S) []) (hS : ∀ a, some a ∈ S ↔ a ∈ L) : S.length = card L := by
  have := h.count (L := L) (fun a => ⟨fun ha => (hS a).1 ((List.mem_cons.1 ha).resolve_left (fun e => by cases e)), fun ha => List.mem_cons_of_mem _ ((hS a).2 ha)⟩)
  rw [List.length_cons] at this
  omega
/-- how many are new -/
theorem note_new (hN : NodeSays Nd) {W : World} {B : Nat} {T : AT} {S : List (Option Addr)} {L0 : List Addr} (h : Vis Nd W B (none :: S) []) (hS : ∀ a, some a ∈ S ↔ a ∈ L0) (hl : T.lies Nd W B) :
    (goL noteStep [T] S).1.length = newC T.addrs L0 := by
  obtain ⟨h1, h2, h3⟩ := note_is hN (us := [T]) h hS (fun U hU => by rw [List.mem_singleton.1 hU]; exact hl)
  have e1 := note_len h hS
  have e2 := note_len h1 h2
  rw [h3, List.length_append, List.length_map] at e2
  have e3 : addrsOf [T] = T.addrs := by simp [addrsOf]
  rw [e3, card_append] at e2
  omega
theorem vis_nil (W : World) (B : Nat) : Vis Nd W B [none] [] := Vis.start W B

/-- which nodes are met, each once; which are new; the highest of those that aren't -/
structure Met where
  first : List (Option Addr)
  fresh : List (Option Addr)
  out : List (Option Addr)
def meetStep (m : Met) (p : Option Addr) : Bool × Met :=
  if p ∈ m.first then (false, { m with first := insP m.first p })
  else if p ∈ m.fresh then (false, ⟨insP m.first p, insP m.fresh p, m.out ++ [p]⟩)
  else (true, ⟨insP m.first p, insP m.fresh p, m.out⟩)
/-- all its highest ones are told already -/
def AT.have_ (O : List Addr) (out : List (Option Addr)) : AT → Prop
  | .e => True
  | .n a _ l r => if a ∈ O then some a ∈ out else l.have_ O out ∧ r.have_ O out
theorem AT.have_more {O : List Addr} {out out' : List (Option Addr)} (h : ∀ p ∈ out, p ∈ out') : ∀ T : AT, T.have_ O out → T.have_ O out'
  | .e, _ => trivial
  | .n a x l r, k => by
    unfold AT.have_ at k ⊢
    split
    · rename_i ha; rw [if_pos ha] at k; exact h _ k
    · rename_i ha; rw [if_neg ha] at k; exact ⟨AT.have_more h l k.1, AT.have_more h r k.2⟩
theorem AT.tops_have {O : List Addr} : ∀ (T : AT) (ts : List AT), T.have_ O (ts.map AT.ptr) → T.tops O ts = ts
  | .e, ts, _ => rfl
  | .n a x l r, ts, k => by
    unfold AT.have_ at k
    rw [AT.tops]
    split
    · rename_i ha; rw [if_pos ha] at k; rw [if_pos k]
    · rename_i ha; rw [if_neg ha] at k; rw [AT.tops_have l ts k.1, AT.tops_have r ts k.2]
theorem AT.have_tops {O : List Addr} : ∀ (T : AT) (ts : List AT), T.have_ O ((T.tops O ts).map AT.ptr)
  | .e, ts => trivial
  | .n a x l r, ts => by
    unfold AT.have_
    rw [AT.tops]
    by_cases ha : a ∈ O
    · rw [if_pos ha, if_pos ha]
      split
      · rename_i h; exact h
      · simp [AT.ptr]
    · rw [if_neg ha, if_neg ha]
      refine ⟨AT.have_more (fun p hp => ?_) l (AT.have_tops l ts), AT.have_tops r _⟩
      obtain ⟨V, hV, rfl⟩ := List.mem_map.1 hp
      exact List.mem_map.2 ⟨V, AT.tops_more O r _ V hV, rfl⟩
theorem meet_go (hN : NodeSays Nd) {W : World} {B : Nat} {O : List Addr} : ∀ (T : AT) (m : Met) (ts : List AT), T.lies Nd W B → m.out = ts.map AT.ptr → (∀ p ∈ m.out, p ∈ m.first) → (∀ a, some a ∈ m.fresh ↔ a ∈ O ∨ some a ∈ m.first) →
    (∀ V : AT, V.lies Nd W B → V ≠ .e → V.ptr ∈ m.first → V.size ≤ T.size → V.have_ O m.out) →
    (goV meetStep T m).2.out = (T.tops O ts).map AT.ptr ∧ (∀ p ∈ (goV meetStep T m).2.out, p ∈ (goV meetStep T m).2.first) ∧ (∀ a, some a ∈ (goV meetStep T m).2.fresh ↔ a ∈ O ∨ some a ∈ (goV meetStep T m).2.first) ∧
      (∀ V : AT, V.lies Nd W B → V ≠ .e → V.ptr ∈ (goV meetStep T m).2.first → V.ptr ∈ m.first ∨ V.have_ O (goV meetStep T m).2.out) ∧ (∀ p ∈ m.out, p ∈ (goV meetStep T m).2.out) ∧ (∀ p ∈ m.first, p ∈ (goV meetStep T m).2.first)
  | .e, m, ts, _, h1, h2, h3, h4 => ⟨h1, h2, h3, fun V _ _ hV => .inl hV, fun p hp => hp, fun p hp => hp⟩
  | .n a x l r, m, ts, hT, h1, h2, h3, h4 => by
    have hT0 := hT
    obtain ⟨-, -, -, hl, hr⟩ := hT
    by_cases hf : some a ∈ m.first
    · have e : goV meetStep (.n a x l r) m = ([], m) := by simp [goV, meetStep, hf, insP]
      rw [e]
      have hh := h4 _ hT0 (by simp) hf (Nat.le_refl _)
      rw [h1] at hh
      rw [AT.tops_have _ _ hh]
      exact ⟨h1, h2, h3, fun V _ _ hV => .inl hV, fun p hp => hp, fun p hp => hp⟩
    · have i1 : insP m.first (some a) = m.first ++ [some a] := by simp [insP, hf]
      by_cases hO : a ∈ O
      · have hfr : some a ∈ m.fresh := (h3 a).2 (.inl hO)
        have i2 : insP m.fresh (some a) = m.fresh := by simp [insP, hfr]
        have e : goV meetStep (.n a x l r) m = ([], ⟨m.first ++ [some a], m.fresh, m.out ++ [some a]⟩) := by simp [goV, meetStep, hf, hfr, i1, i2]
        rw [e]
        have hno : some a ∉ ts.map AT.ptr := fun hx => hf (h2 _ (h1 ▸ hx))
        refine ⟨?_, ?_, ?_, ?_, fun p hp => List.mem_append_left _ hp, fun p hp => List.mem_append_left _ hp⟩
        · rw [AT.tops, if_pos hO, if_neg hno, List.map_append, ← h1]; rfl
        · intro p hp
          rcases List.mem_append.1 hp with hp | hp
          · exact List.mem_append_left _ (h2 p hp)
          · exact List.mem_append_right _ hp
        · intro b
          rw [h3 b]
          constructor
          · rintro (h | h)
            · exact .inl h
            · exact .inr (List.mem_append_left _ h)
          · rintro (h | h)
            · exact .inl h
            · rcases List.mem_append.1 h with h | h
              · exact .inr h
              · rw [List.mem_singleton] at h; cases h; exact .inl hO
        · intro V hV hne hp
          rcases List.mem_append.1 hp with hp | hp
          · exact .inl hp
          · rw [List.mem_singleton] at hp
            have := AT.same hN hV hT0 hp
            subst this
            refine .inr ?_
            unfold AT.have_
            rw [if_pos hO]
            exact List.mem_append_right _ (List.mem_singleton.2 rfl)
      · have hfr : some a ∉ m.fresh := fun h => ((h3 a).1 h).elim hO hf
        have i2 : insP m.fresh (some a) = m.fresh ++ [some a] := by simp [insP, hfr]
        obtain ⟨m1, hm1⟩ : ∃ m1 : Met, (⟨m.first ++ [some a], m.fresh ++ [some a], m.out⟩ : Met) = m1 := ⟨_, rfl⟩
        have e : goV meetStep (.n a x l r) m = (.n a x l r :: ((goV meetStep l m1).1 ++ (goV meetStep r (goV meetStep l m1).2).1), (goV meetStep r (goV meetStep l m1).2).2) := by simp [goV, meetStep, hf, hfr, i1, i2, hm1]
        have f1 : m1.first = m.first ++ [some a] := hm1 ▸ rfl
        have f2 : m1.fresh = m.fresh ++ [some a] := hm1 ▸ rfl
        have f3 : m1.out = m.out := hm1 ▸ rfl
        have hs : (AT.n a x l r).size = 1 + l.size + r.size := rfl
        have big : ∀ V : AT, V.lies Nd W B → V.ptr = some a → V.size ≤ 1 + l.size + r.size → V = .n a x l r := fun V hV hp _ => AT.same hN hV hT0 hp
        have a1 := meet_go hN l m1 ts hl (f3.trans h1) (fun p hp => by rw [f1]; exact List.mem_append_left _ (h2 p (f3 ▸ hp))) (fun b => by
            rw [f1, f2]
            constructor
            · intro h
              rcases List.mem_append.1 h with h | h
              · exact ((h3 b).1 h).imp id (List.mem_append_left _)
              · exact .inr (List.mem_append_right _ h)
            · rintro (h | h)
              · exact List.mem_append_left _ ((h3 b).2 (.inl h))
              · rcases List.mem_append.1 h with h | h
                · exact List.mem_append_left _ ((h3 b).2 (.inr h))
                · exact List.mem_append_right _ h)
          (fun V hV hne hp hsz => by
            rw [f3]
            rw [f1] at hp
            rcases List.mem_append.1 hp with hp | hp
            · exact h4 V hV hne hp (by rw [hs]; omega)
            · rw [List.mem_singleton] at hp
              have := AT.same hN hV hT0 hp
              subst this
              rw [hs] at hsz
              omega)
        obtain ⟨c1, c2, c3, c4, c5, c6⟩ := a1
        obtain ⟨m2, hm2⟩ : ∃ m2, (goV meetStep l m1).2 = m2 := ⟨_, rfl⟩
        rw [hm2] at c1 c2 c3 c4 c5 c6
        have a2 := meet_go hN r m2 (l.tops O ts) hr c1 c2 c3 (fun V hV hne hp hsz => by
            rcases c4 V hV hne hp with hp | hh
            · rw [f1] at hp
              rcases List.mem_append.1 hp with hp | hp
              · exact AT.have_more (fun p hq => c5 p (f3.symm ▸ hq)) V (h4 V hV hne hp (by rw [hs]; omega))
              · rw [List.mem_singleton] at hp
                have := AT.same hN hV hT0 hp
                subst this
                rw [hs] at hsz
                omega
            · exact hh)
        obtain ⟨d1, d2, d3, d4, d5, d6⟩ := a2
        rw [e, hm2]
        have hend : (goV meetStep r m2).2.out = ((AT.n a x l r).tops O ts).map AT.ptr := by rw [d1, AT.tops, if_neg hO]
        refine ⟨hend, d2, d3, fun V hV hne hp => ?_, fun p hp => d5 p (c5 p (f3.symm ▸ hp)), fun p hp => d6 p (c6 p (by rw [f1]; exact List.mem_append_left _ hp))⟩
        rcases d4 V hV hne hp with hp | hh
        · rcases c4 V hV hne hp with hp | hh
          · rw [f1] at hp
            rcases List.mem_append.1 hp with hp | hp
            · exact .inl hp
            · rw [List.mem_singleton] at hp
              have := AT.same hN hV hT0 hp
              subst this
              refine .inr ?_
              show AT.have_ O (goV meetStep r m2).2.out (.n a x l r)
              rw [hend]
              exact AT.have_tops _ _
          · exact .inr (AT.have_more (fun p hq => d5 p hq) V hh)
        · exact .inr hh
/-- the highest ones that aren't new -/
theorem meet_tops (hN : NodeSays Nd) {W : World} {B : Nat} {O : List Addr} {T : AT} {S : List (Option Addr)} (hT : T.lies Nd W B) (hS : ∀ a, some a ∈ S ↔ a ∈ O) :
    (goL meetStep [T] ⟨[], S, []⟩).2.out = (topsOf O T).map AT.ptr := by
  rw [goL_one]
  exact (meet_go hN T ⟨[], S, []⟩ [] hT rfl (fun p hp => by cases hp) (fun a => by rw [hS a]; simp) (fun V _ _ hV => by cases hV)).1
end Go.Proofs.Ythhhkcjggfdagaa
/- Layer 13, as landed: what a function has to keep that is asked of each node whether one goes on from it. -/
namespace Go.Proofs.Ythhhkcjggfdagaa
open Go.RowKit Go.Shelf Go.Proofs.Treem Go.Proofs.Cardm
set_option maxRecDepth 100000
variable {Nd : NdP}

/-- all nodes that lay there lie there -/
def NK (w W : World) : Prop := w.heap.size ≤ W.heap.size ∧ ∀ (k : Nat) (cs : Array Value), w.heap[k]? = some (.cells cs 55 (0, 0)) → W.heap[k]? = some (.cells cs 55 (0, 0))
theorem NK.refl (w : World) : NK w w := ⟨Nat.le_refl _, fun _ _ h => h⟩
theorem NK.trans {a b c : World} (h : NK a b) (k : NK b c) : NK a c := ⟨Nat.le_trans h.1 k.1, fun i cs hi => k.2 i cs (h.2 i cs hi)⟩
theorem NK.of_below {w W : World} (h : Below w.heap.size w W) : NK w W := ⟨h.size, fun k _ hk => (h.block k (Array.getElem?_eq_some_iff.1 hk).1).trans hk⟩
theorem NK.of_kf {free : TypeId → Bool} {W W' : World} (h : Kf free 0 W W') (hf : free 55 = false) : NK W W' := ⟨h.size, fun k cs hk => h.mid k cs _ _ hf hk⟩
theorem NK.of_grown {W W' : World} {row : Option Nat} (h : W.grownBy W' row) (hr : ∀ r, row = some r → ∀ cs, W.heap[r]? ≠ some (.cells cs 55 (0, 0))) : NK W W' :=
  ⟨h.size, fun k cs hk => (h.block k (Array.getElem?_eq_some_iff.1 hk).1 (fun e => hr k e.symm cs hk)).trans hk⟩
theorem NK.node (hN : NodeSays Nd) {w W : World} (h : NK w W) {B : Nat} {a : Addr} {x : No} (hn : Nd w B a x) : Nd W B a x := by
  obtain ⟨cs, hc⟩ := hN.kind hn
  exact hN.only hn ((h.2 _ cs hc).trans hc.symm)
theorem NK.lies (hN : NodeSays Nd) {w W : World} (h : NK w W) {B : Nat} : ∀ {T : AT}, T.lies Nd w B → T.lies Nd W B
  | .e, _ => trivial
  | .n .., ⟨h1, h2, h3, h4, h5⟩ => ⟨h.node hN h1, h2, h3, h.lies hN h4, h.lies hN h5⟩
/-- a pointer to a node, or none -/
def GoodN (w : World) (p : Option Addr) : Prop := ∀ a, p = some a → ∃ cs, w.heap[a.block]? = some (.cells cs 55 (0, 0))
theorem GoodN.good {w W : World} {p : Option Addr} (h : GoodN w p) (k : NK w W) : GoodP W p := fun a e => by
  obtain ⟨cs, hc⟩ := h a e
  exact ⟨cs, _, k.2 _ cs hc⟩
theorem GoodN.root (hN : NodeSays Nd) {w : World} {B : Nat} {T : AT} (h : T.lies Nd w B) : GoodN w T.ptr := fun a e => by
  cases T with
  | e => cases e
  | n b x l r => cases e; exact hN.kind h.1
/-- all but a footprint is as it was -/
structure Keep (Ft : Nat → Prop) (W W' : World) : Prop where
  os : W'.os = W.os
  tape : W'.tape = W.tape
  output : W'.output = W.output
  size : W.heap.size ≤ W'.heap.size
  block : ∀ k, k < W.heap.size → ¬ Ft k → W'.heap[k]? = W.heap[k]?
theorem Keep.put {Ft : Nat → Prop} (W : World) (r : Nat) (o : Obj) (h : Ft r) : Keep Ft W (W.putObj r o) := by
  have hg := grownBy_putObj' W r o
  exact ⟨hg.os, hg.tape, hg.output, hg.size, fun k hk hf => hg.block k hk (fun e => by cases e; exact hf h)⟩
/-- a footprint is as it was, and all nodes -/
structure Fr (Ft : Nat → Prop) (W W' : World) : Prop where
  nk : NK W W'
  same : ∀ k, Ft k → W'.heap[k]? = W.heap[k]?
/-- a function F (cap: what it has of its own) that is asked of each node whether one goes on from it: it notes something of its own (Env), some of it made from B to C -/
structure GoesOn {σ : Type} (Nd : NdP) (w0 : World) (F : FuncId) (cap : Array Value) (B C : Nat) (mine free : TypeId → Bool) (U : AT → Prop) (step : σ → Option Addr → Bool × σ) (pot : σ → Nat) (Env : σ → (Nat → Prop) → World → Prop) : Prop where
  enters : Enters Try.prog F
  calls : ∀ (s : σ) (Ft : Nat → Prop) (W : World) (a : Addr) (x : No) (l r : AT), Env s Ft W → U (.n a x l r) → NK w0 W →
    Calls Try.prog F (#[.pointer (some a)] ++ cap) W fun e W' => e = .returned (.bool (step s (some a)).1) ∧ ∃ Ft', Env (step s (some a)).2 Ft' W' ∧ Keep Ft W W' ∧ ∀ k, Ft' k → Ft k ∨ W.heap.size ≤ k
  foot : ∀ (s : σ) (Ft : Nat → Prop) (W : World), Env s Ft W → ∀ k, Ft k → B ≤ k ∧ ∃ o, W.heap[k]? = some o ∧ ((o.isCells = false ∧ k < C) ∨ ∃ cs t fr, o = .cells cs t fr ∧ mine t = true ∧ free t = false ∧ t ≠ 55)
  frame : ∀ (s : σ) (Ft : Nat → Prop) (W W' : World), Env s Ft W → Fr Ft W W' → Env s Ft W'
  less : ∀ (s : σ) (Ft : Nat → Prop) (W : World) (a : Addr) (x : No) (l r : AT), Env s Ft W → U (.n a x l r) → ((step s (some a)).1 = true → pot (step s (some a)).2 < pot s) ∧ pot (step s (some a)).2 ≤ pot s
section
variable {σ : Type} {w0 : World} {F : FuncId} {cap : Array Value} {B C : Nat} {mine free : TypeId → Bool} {U : AT → Prop} {step : σ → Option Addr → Bool × σ} {pot : σ → Nat} {Env : σ → (Nat → Prop) → World → Prop}
theorem GoesOn.kept (h : GoesOn Nd w0 F cap B C mine free U step pot Env) {s : σ} {Ft : Nat → Prop} {W W' : World} (he : Env s Ft W) (hk : Keep Ft W W') : NK W W' :=
  ⟨hk.size, fun k cs hc => (hk.block k (Array.getElem?_eq_some_iff.1 hc).1 (fun hf => by
    obtain ⟨-, o, ho, hx⟩ := h.foot s Ft W he k hf
    rw [hc] at ho
    cases ho
    rcases hx with ⟨hx, _⟩ | ⟨cs', t, fr, e, _, _, ht⟩
    · cases hx
    · cases e; exact ht rfl)).trans hc⟩
theorem GoesOn.lt (h : GoesOn Nd w0 F cap B C mine free U step pot Env) {s : σ} {Ft : Nat → Prop} {W : World} (he : Env s Ft W) {k : Nat} (hk : Ft k) : k < W.heap.size := by
  obtain ⟨-, o, ho, -⟩ := h.foot s Ft W he k hk
  exact (Array.getElem?_eq_some_iff.1 ho).1
theorem GoesOn.turn (h : GoesOn Nd w0 F cap B C mine free U step pot Env) {s : σ} {Ft : Nat → Prop} {W W' : World} (he : Env s Ft W) (hk : Keep Ft W W') {D : Nat} (hD : ∀ k, Ft k → k < C ∨ D ≤ k) : TurnF mine B C D W W' :=
  ⟨hk.os, hk.tape, hk.output, hk.size, fun k o ho hx => (hk.block k (Array.getElem?_eq_some_iff.1 ho).1 (fun hf => by
    obtain ⟨hB, o', ho', hy⟩ := h.foot s Ft W he k hf
    have hd := hD k hf
    rw [ho] at ho'
    cases ho'
    rcases hx with hx | hx | ⟨cs, t, fr, rfl, ht⟩
    · omega
    · omega
    · rcases hy with ⟨hy, _⟩ | ⟨_, _, _, e, hm, _⟩
      · cases hy
      · cases e; rw [hm] at ht; cases ht)).trans ho⟩
/-- a yield keeps it -/
theorem GoesOn.yield (h : GoesOn Nd w0 F cap B C mine free U step pot Env) {s : σ} {Ft : Nat → Prop} {W W' : World} (he : Env s Ft W) {D : Nat} (hk : KeepsF B C D W W') (hf : Kf free 0 W W') (hn : free 55 = false) : Env s Ft W' :=
  h.frame s Ft W W' he ⟨.of_kf hf hn, fun k hx => by
    obtain ⟨hB, o, ho, hy⟩ := h.foot s Ft W he k hx
    rw [ho]
    rcases hy with ⟨hy, hC⟩ | ⟨cs, t, fr, rfl, _, ht, _⟩
    · exact hk.same k o (.inl ⟨hB, hC⟩) ho hy
    · exact hf.mid k cs t fr ht ho⟩
/-- what grows is none of it -/
theorem GoesOn.grown (h : GoesOn Nd w0 F cap B C mine free U step pot Env) {s : σ} {Ft : Nat → Prop} {W W' : World} (he : Env s Ft W) {row : Option Nat} (hg : W.grownBy W' row) (hr : ∀ r, row = some r → ¬ Ft r ∧ ∀ cs, W.heap[r]? ≠ some (.cells cs 55 (0, 0))) : Env s Ft W' :=
  h.frame s Ft W W' he ⟨.of_grown hg (fun r e => (hr r e).2), fun k hx => hg.block k (h.lt he hx) (fun e => (hr k e.symm).1 hx)⟩
theorem GoesOn.below (h : GoesOn Nd w0 F cap B C mine free U step pot Env) {s : σ} {Ft : Nat → Prop} {W W' : World} (he : Env s Ft W) (hb : Below W.heap.size W W') : Env s Ft W' :=
  h.frame s Ft W W' he ⟨.of_below hb, fun k hx => hb.block k (h.lt he hx)⟩
end
end Go.Proofs.Ythhhkcjggfdagaa
namespace Go.Proofs.Ythhhkcjggfdagaa
open Go.RowKit Go.Shelf Go.Proofs.Treem Go.Proofs.Cardm
set_option maxRecDepth 100000
variable {Nd : NdP}

abbrev valsT (ts : List AT) : List Value := ts.map fun T => Value.pointer T.ptr
section
variable {σ : Type} {w0 W1 : World} {F : FuncId} {cap : Array Value} {B C D : Nat} {mine free : TypeId → Bool} {U : AT → Prop} {step : σ → Option Addr → Bool × σ} {pot : σ → Nat} {Env : σ → (Nat → Prop) → World → Prop}
  {X : Nat → Prop} {J : List Value → World → Prop} {tot : List AT} {fin : σ} {s : σ} {Ft : Nat → Prop} {us rest : List AT} {pre pend : List Value} {v : Value} {w w' : World}
/-- those at us are still to be gone by, the first one next, then those at rest; pend: told now; X: what it was made of, as it lay -/
structure AtP (w0 W1 : World) (C D : Nat) (U : AT → Prop) (step : σ → Option Addr → Bool × σ) (pot : σ → Nat) (Env : σ → (Nat → Prop) → World → Prop) (X : Nat → Prop) (J : List Value → World → Prop) (tot : List AT) (fin : σ)
    (s : σ) (Ft : Nat → Prop) (us rest : List AT) (pre pend : List Value) (w : World) : Prop where
  nk : NK w0 w
  env : Env s Ft w
  ftd : ∀ k, Ft k → k < C ∨ D ≤ k
  ftx : ∀ k, X k → ¬ Ft k
  fx : ∀ k, X k → w.heap[k]? = W1.heap[k]?
  ls : ∀ u ∈ us, U u
  rs : ∀ u ∈ rest, U u
  j : J pre w
  sz : D ≤ w.heap.size
  all : pre ++ pend ++ valsT (goL step (us ++ rest) s).1 = valsT tot
  fin : (goL step (us ++ rest) s).2 = fin
  pot : 2 * pot s + us.length ≤ 10001
/-- the stack -/
structure OpP (Ft : Nat → Prop) (D : Nat) (us : List AT) (v : Value) (w : World) : Prop where
  ow : w.ownsRow D 25 1 v us.length (valsT us.reverse)
  nft : ∀ r, v.ownBlock = some r → ¬ Ft r
theorem AtP.begin {T : AT} (h : AtP w0 W1 C D U step pot Env X J tot fin s Ft [] (T :: rest) pre pend w) : AtP w0 W1 C D U step pot Env X J tot fin s Ft [T] rest pre pend w :=
  ⟨h.nk, h.env, h.ftd, h.ftx, h.fx, fun u hu => h.rs u (by rw [List.mem_singleton.1 hu]; exact List.mem_cons_self ..), fun u hu => h.rs u (List.mem_cons_of_mem _ hu), h.j, h.sz, h.all, h.fin, by have := h.pot; simp only [List.length_nil, List.length_cons] at this ⊢; omega⟩
theorem AtP.below (hG : GoesOn Nd w0 F cap B C mine free U step pot Env) (hJ : AbideF mine B C D J) (hX : ∀ k, X k → k < D) (h : AtP w0 W1 C D U step pot Env X J tot fin s Ft us rest pre pend w) (hb : Below w.heap.size w w') : AtP w0 W1 C D U step pot Env X J tot fin s Ft us rest pre pend w' :=
  ⟨h.nk.trans (.of_below hb), hG.below h.env hb, h.ftd, h.ftx, fun k hk => (hb.block k (Nat.lt_of_lt_of_le (hX k hk) h.sz)).trans (h.fx k hk), h.ls, h.rs, hJ _ _ _ h.j (.of_below hb), Nat.le_trans h.sz hb.size, h.all, h.fin, h.pot⟩
theorem AtP.none_ (h : AtP w0 W1 C D U step pot Env X J tot fin s Ft (.e :: us) rest pre pend w) : AtP w0 W1 C D U step pot Env X J tot fin s Ft us rest pre pend w := by
  refine ⟨h.nk, h.env, h.ftd, h.ftx, h.fx, fun u hu => h.ls u (List.mem_cons_of_mem _ hu), h.rs, h.j, h.sz, ?_, ?_, ?_⟩
  · have := h.all; rw [List.cons_append, goL_e] at this; exact this
  · have := h.fin; rw [List.cons_append, goL_e] at this; exact this
  · have := h.pot; rw [List.length_cons] at this; omega
/-- one doesn't go on -/
theorem AtP.no (hG : GoesOn Nd w0 F cap B C mine free U step pot Env) (hJ : AbideF mine B C D J) (hX : ∀ k, X k → k < D) {a : Addr} {x : No} {l r : AT} {Ft' : Nat → Prop} (h : AtP w0 W1 C D U step pot Env X J tot fin s Ft (.n a x l r :: us) rest pre pend w) (hs : (step s (some a)).1 = false)
    (he : Env (step s (some a)).2 Ft' w') (hk : Keep Ft w w') (hf : ∀ k, Ft' k → Ft k ∨ w.heap.size ≤ k) : AtP w0 W1 C D U step pot Env X J tot fin (step s (some a)).2 Ft' us rest pre pend w' := by
  have hD := h.sz
  refine ⟨h.nk.trans (hG.kept h.env hk), he, fun k hx => ?_, fun k hx hx' => ?_, fun k hx => (hk.block k (Nat.lt_of_lt_of_le (hX k hx) hD) (h.ftx k hx)).trans (h.fx k hx), fun u hu => h.ls u (List.mem_cons_of_mem _ hu), h.rs, hJ _ _ _ h.j (hG.turn h.env hk h.ftd), Nat.le_trans hD hk.size, ?_, ?_, ?_⟩
  · rcases hf k hx with hx | hx
    · exact h.ftd k hx
    · exact .inr (Nat.le_trans hD hx)
  · rcases hf k hx' with hx' | hx'
    · exact h.ftx k hx hx'
    · have := hX k hx; omega
  · have := h.all; rw [List.cons_append, goL_no _ _ _ hs] at this; exact this
  · have := h.fin; rw [List.cons_append, goL_no _ _ _ hs] at this; exact this
  · have h1 := h.pot
    have h2 := (hG.less s Ft w a x l r h.env (h.ls _ (List.mem_cons_self ..))).2
    rw [List.length_cons] at h1
    omega
/-- one goes on: the node is told, both its sides are to be gone by -/
theorem AtP.yes (hG : GoesOn Nd w0 F cap B C mine free U step pot Env) (hJ : AbideF mine B C D J) (hX : ∀ k, X k → k < D) (hU : ∀ a x l r, U (.n a x l r) → U l ∧ U r) {a : Addr} {x : No} {l r : AT} {Ft' : Nat → Prop} (h : AtP w0 W1 C D U step pot Env X J tot fin s Ft (.n a x l r :: us) rest pre [] w) (hs : (step s (some a)).1 = true)
    (he : Env (step s (some a)).2 Ft' w') (hk : Keep Ft w w') (hf : ∀ k, Ft' k → Ft k ∨ w.heap.size ≤ k) : AtP w0 W1 C D U step pot Env X J tot fin (step s (some a)).2 Ft' (l :: r :: us) rest pre [.pointer (some a)] w' := by
  have hD := h.sz
  have hu := hU a x l r (h.ls _ (List.mem_cons_self ..))
  refine ⟨h.nk.trans (hG.kept h.env hk), he, fun k hx => ?_, fun k hx hx' => ?_, fun k hx => (hk.block k (Nat.lt_of_lt_of_le (hX k hx) hD) (h.ftx k hx)).trans (h.fx k hx), fun u hu' => ?_, h.rs, hJ _ _ _ h.j (hG.turn h.env hk h.ftd), Nat.le_trans hD hk.size, ?_, ?_, ?_⟩
  · rcases hf k hx with hx | hx
    · exact h.ftd k hx
    · exact .inr (Nat.le_trans hD hx)
  · rcases hf k hx' with hx' | hx'
    · exact h.ftx k hx hx'
    · have := hX k hx; omega
  · rcases List.mem_cons.1 hu' with rfl | hu'
    · exact hu.1
    · rcases List.mem_cons.1 hu' with rfl | hu'
      · exact hu.2
      · exact h.ls u (List.mem_cons_of_mem _ hu')
  · have := h.all; rw [List.cons_append, goL_yes _ _ _ hs] at this
    rw [← this]
    simp [AT.ptr]
  · have := h.fin; rw [List.cons_append, goL_yes _ _ _ hs] at this; exact this
  · have h1 := h.pot
    have h2 := (hG.less s Ft w a x l r h.env (h.ls _ (List.mem_cons_self ..))).1 hs
    rw [List.length_cons] at h1
    simp only [List.length_cons]
    omega
theorem AtP.told {y : Value} (h : AtP w0 W1 C D U step pot Env X J tot fin s Ft us rest pre [y] w) : pre ++ [y] <+: valsT tot := ⟨_, h.all⟩
/-- a node has been told -/
theorem AtP.yielded (hG : GoesOn Nd w0 F cap B C mine free U step pot Env) (hn : free 55 = false) (hX : ∀ k, X k → k < D ∧ ∃ cs t fr, W1.heap[k]? = some (.cells cs t fr) ∧ free t = false) {y : Value} (h : AtP w0 W1 C D U step pot Env X J tot fin s Ft us rest pre [y] w)
    (hj : J (pre ++ [y]) w') (hk : Kf free 0 w w') (hf : KeepsF B C D w w') : AtP w0 W1 C D U step pot Env X J tot fin s Ft us rest (pre ++ [y]) [] w' :=
  ⟨h.nk.trans (.of_kf hk hn), hG.yield h.env hf hk hn, h.ftd, h.ftx, fun k hx => by
    obtain ⟨-, cs, t, fr, hc, ht⟩ := hX k hx
    rw [hc]
    exact hk.mid k cs t fr ht ((h.fx k hx).trans hc), h.ls, h.rs, hj, Nat.le_trans h.sz hk.size, by have := h.all; simpa using this, h.fin, h.pot⟩
/-- the stack has grown -/
theorem AtP.grown (hG : GoesOn Nd w0 F cap B C mine free U step pot Env) (hJ : AbideF mine B C D J) (hX : ∀ k, X k → k < D) (hm : mine 25 = true) (hB : B ≤ D) (h : AtP w0 W1 C D U step pot Env X J tot fin s Ft us rest pre pend w) {n : Nat} {xs : List Value} (ho : w.ownsRow D 25 1 v n xs) (hv : ∀ r, v.ownBlock = some r → ¬ Ft r)
    (hg : w.grownBy w' v.ownBlock) : AtP w0 W1 C D U step pot Env X J tot fin s Ft us rest pre pend w' :=
  ⟨h.nk.trans (.of_grown hg (row_kind ho)), hG.grown h.env hg (fun r e => ⟨hv r e, row_kind ho r e⟩), h.ftd, h.ftx, fun k hx => (hg.block k (Nat.lt_of_lt_of_le (hX k hx) h.sz) (fun e => by
    have h1 := (ho.lt k e.symm).1
    have h2 := hX k hx
    omega)).trans (h.fx k hx), h.ls, h.rs, hJ _ _ _ h.j (.row hg ho hm hB (Nat.le_refl _)), Nat.le_trans h.sz hg.size, h.all, h.fin, h.pot⟩
theorem OpP.pop {T : AT} {A : Option Addr} {m n c : Nat} (h : OpP Ft D (T :: us) (.slice A n c) w) (hm : us.length = m) (hn : m + 1 = n) : OpP Ft D us (.slice A m c) w := by
  subst hm hn
  have ho := h.ow
  rw [List.reverse_cons, valsT, List.map_append] at ho
  have ht := owned_take ho us.length (by simp)
  rw [show us.length * 1 = (us.reverse.map fun u => Value.pointer u.ptr).length by simp, List.take_left] at ht
  refine ⟨ht, fun r e => h.nft r ?_⟩
  rcases ho.2 with ⟨e1, _⟩ | ⟨g, cap, cur, e1, _⟩
  · cases e1
  · cases e1; exact e
theorem OpP.top {T : AT} {A : Option Addr} {n m c : Nat} (h : OpP Ft D (T :: us) (.slice A n c) w) (hm : us.length = m) : ∃ ad, A = some ad ∧ w.cell? (ad.add m) = some (.pointer T.ptr) := by
  obtain ⟨A', c', e1, -, -, -⟩ := own_slice h.ow
  cases e1
  have ho := h.ow
  rw [List.reverse_cons, valsT, List.map_append] at ho
  obtain ⟨ad, e, _, hc⟩ := (Row.of_own ho) m (.pointer T.ptr) (by rw [List.getElem?_append_right (by simp [hm])]; simp [hm])
  exact ⟨ad, e, hc⟩
theorem own_block_at {Y Z : World} {base n size : Nat} {e : TypeId} {v : Value} {xs : List Value} (h : Y.ownsRow base e size v n xs) (hs : ∀ r, v.ownBlock = some r → Z.heap[r]? = Y.heap[r]?) : Z.ownsRow base e size v n xs := by
  refine ⟨h.1, ?_⟩
  rcases h.2 with hn | ⟨g, cap, cur, h1, h2, h3, rest⟩
  · exact .inl hn
  · exact .inr ⟨g, cap, cur, h1, h2, (hs g (by rw [h1]; rfl)).trans h3, rest⟩
theorem OpP.asked {Ft' : Nat → Prop} (h : OpP Ft D us v w) (hk : Keep Ft w w') (hf : ∀ k, Ft' k → Ft k ∨ w.heap.size ≤ k) : OpP Ft' D us v w' := by
  have hl : ∀ r, v.ownBlock = some r → r < w.heap.size := fun r e => (h.ow.lt r e).2
  exact ⟨own_block_at h.ow (fun r e => hk.block r (hl r e) (h.nft r e)), fun r e hx => (hf r hx).elim (h.nft r e) (fun k => by have := hl r e; omega)⟩
theorem OpP.yielded (h : OpP Ft D us v w) (hk : Kf free 0 w w') (hn : free 25 = false) : OpP Ft D us v w' := ⟨hk.owned h.ow hn, h.nft⟩
theorem OpP.fresh (hG : GoesOn Nd w0 F cap B C mine free U step pot Env) (he : Env s Ft w) (T : AT) (hD : D ≤ w.heap.size) : OpP Ft D [T] (.slice (some ⟨w.heap.size, 0, none⟩) 1 1) (w.alloc (.cells #[.pointer T.ptr] 25)) :=
  ⟨World.ownsRow_lit w #[.pointer T.ptr] 1 hD (by decide) rfl, fun r e hx => by
    obtain rfl : w.heap.size = r := by simpa [Value.ownBlock] using e
    have := hG.lt he hx
    omega⟩
theorem OpP.push {l r : AT} {tmp : Obj} {v1 : Value} {w1 : World} (hG : GoesOn Nd w0 F cap B C mine free U step pot Env) (he : Env s Ft w) (h : OpP Ft D us v w)
    (ho : w1.ownsRow D 25 1 v1 (us.length + 2) (valsT us.reverse ++ [.pointer r.ptr, .pointer l.ptr])) (hw : v1.ownBlock = v.ownBlock ∨ ∀ k, v1.ownBlock = some k → (w.alloc tmp).heap.size ≤ k) : OpP Ft D (l :: r :: us) v1 w1 := by
  refine ⟨?_, fun k e hx => ?_⟩
  · simp only [List.reverse_cons, valsT, List.map_append, List.length_cons, List.append_assoc, List.map_cons, List.map_nil] at ho ⊢
    exact ho
  · rcases hw with hw | hw
    · exact h.nft k (hw ▸ e) hx
    · have h1 := hw k e
      have h2 := hG.lt he hx
      simp at h1
      omega
end
end Go.Proofs.Ythhhkcjggfdagaa
