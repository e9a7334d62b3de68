/- Package rbjoin, as landed: the turn. Made by wip/gen/layer17join.py. -/
import Derived.Test.YtifhnaelkjfmdabJA
import Derived.Test.YtifhnaelkjfmdabGMap
import Derived.Test.YtifhnaelkjfmdabGHeld
import Derived.Shelf.Abstract
import Derived.Laws.EntriesVeiled
import Derived.Deep.RegionHeld3
import Derived.Deep.Cut
import Derived.IntWalk
/- Layer 17, as landed: red-black trees on the way inward, and what may stand in their places. -/
namespace Go.Proofs.Ytifhnaelkjfmdab
open Go.RowKit Go.Proofs.Treem Go.Proofs.Cardm
variable {Nd : NdP}

/-- a part of this black height, red or not -/
structure _root_.Go.Proofs.Treem.Pt (t : Tr) (h : Nat) (c : Bool) : Prop where
  part : partR t = true
  tag : t.tag.toNat = 2 * h + (if c = true then 1 else 0)
theorem _root_.Go.Proofs.Treem.Pt.high {t : Tr} {h : Nat} {c : Bool} (p : Pt t h c) : highR t = h := by
  have := p.tag
  unfold highR
  cases c <;> simp at this <;> omega
theorem _root_.Go.Proofs.Treem.Pt.red {t : Tr} {h : Nat} {c : Bool} (p : Pt t h c) : redR t = c := by
  have := p.tag
  cases c with
  | true => rw [red_iff]; simp at this; omega
  | false => rw [red_no]; simp at this; omega
theorem _root_.Go.Proofs.Treem.Pt.same {t : Tr} {h k : Nat} {c e : Bool} (p : Pt t h c) (q : Pt t k e) : h = k ∧ c = e := ⟨by rw [← p.high, q.high], by rw [← p.red, q.red]⟩
theorem _root_.Go.Proofs.Treem.Pt.of {t : Tr} (h : partR t = true) : Pt t (highR t) (redR t) := by
  refine ⟨h, ?_⟩
  cases hr : redR t with
  | true => have := red_iff.1 hr; unfold highR; simp; omega
  | false => have := red_no.1 hr; unfold highR; simp; omega
/-- half the rank -/
theorem _root_.Go.Proofs.Treem.Pt.hb {t : Tr} {h : Nat} {c : Bool} (p : Pt t h c) (hs : h ≤ 1000) : hbR t = h + (if c = true then 1 else 0) := by
  unfold hbR
  cases c with
  | false => rw [black_no p.red, p.high]; rfl
  | true =>
    cases t with
    | e => exact absurd p.red (by decide)
    | n l k v g r =>
      rw [black_yes p.red]
      have h1 : g.toNat = 2 * h + 1 := p.tag
      unfold highR
      show (g + 1#64).toNat / 2 = _
      rw [BitVec.toNat_add, show (1#64).toNat = 1 from rfl, h1, Nat.mod_eq_of_lt (by omega), if_pos rfl]
      omega
/-- the tag of a node over an outer and an inner side -/
def tagD (d : Bool) (O I : AT) (b : Bool) : BitVec 64 := tagR (if d then O else I).tr b
theorem tagD_nat {d : Bool} {O I : AT} {h : Nat} (hO : highR O.tr = h) (hI : highR I.tr = h) (hs : h ≤ 1000) (b : Bool) : (tagD d O I b).toNat = 2 * h + (if b = true then 1 else 2) := by
  have hx : highR (if d then O else I).tr = h := by cases d <;> assumption
  unfold tagD tagR
  rw [hx, BitVec.toNat_ofNat]
  cases b
  · simp; omega
  · simp; omega
theorem _root_.Go.Proofs.Treem.Pt.redTr {l r : Tr} {k v g : BitVec 64} {h : Nat} (hl : Pt l h false) (hr : Pt r h false) (hg : g.toNat = 2 * h + 1) : Pt (.n l k v g r) h true := by
  have h1 := hl.tag
  have h2 := hr.tag
  simp at h1 h2
  exact ⟨part_n.2 ⟨oneR_zero.2 (.inl (by omega)), hl.part, hr.part⟩, hg⟩
theorem _root_.Go.Proofs.Treem.Pt.blackTr {l r : Tr} {k v g : BitVec 64} {h : Nat} {p q : Bool} (hl : Pt l h p) (hr : Pt r h q) (hg : g.toNat = 2 * h + 2) : Pt (.n l k v g r) (h + 1) false := by
  have h1 := hl.tag
  have h2 := hr.tag
  have h3 : (if p = true then 1 else 0) ≤ 1 := by split <;> omega
  have h4 : (if q = true then 1 else 0) ≤ 1 := by split <;> omega
  exact ⟨part_n.2 ⟨oneR_zero.2 (.inr (by omega)), hl.part, hr.part⟩, by rw [if_neg (by decide)]; exact hg⟩
theorem _root_.Go.Proofs.Treem.Pt.redNode {d : Bool} {a : Addr} {x : No} {O I : AT} {h : Nat} (hO : Pt O.tr h false) (hI : Pt I.tr h false) (hg : x.g.toNat = 2 * h + 1) : Pt (AT.mk d a x O I).tr h true := by
  cases d
  · exact Pt.redTr (l := I.tr) (r := O.tr) hI hO hg
  · exact Pt.redTr (l := O.tr) (r := I.tr) hO hI hg
theorem _root_.Go.Proofs.Treem.Pt.blackNode {d : Bool} {a : Addr} {x : No} {O I : AT} {h : Nat} {p q : Bool} (hO : Pt O.tr h p) (hI : Pt I.tr h q) (hg : x.g.toNat = 2 * h + 2) : Pt (AT.mk d a x O I).tr (h + 1) false := by
  cases d
  · exact Pt.blackTr (l := I.tr) (r := O.tr) hI hO hg
  · exact Pt.blackTr (l := O.tr) (r := I.tr) hO hI hg
theorem _root_.Go.Proofs.Treem.Pt.node {l r : Tr} {k v g : BitVec 64} {h : Nat} {c : Bool} (t : Pt (.n l k v g r) h c) : (c = true ∧ Pt l h false ∧ Pt r h false) ∨ (c = false ∧ ∃ m p q, h = m + 1 ∧ Pt l m p ∧ Pt r m q) := by
  obtain ⟨h1, h2, h3⟩ := part_n.1 t.part
  have h4 : g.toNat = 2 * h + (if c = true then 1 else 0) := t.tag
  have hl := Pt.of h2
  have hr := Pt.of h3
  rcases oneR_zero.1 h1 with ⟨e1, e2, e3⟩ | ⟨e1, e2⟩
  · have ec : c = true := by
      cases c with
      | true => rfl
      | false => rw [if_neg (by decide)] at h4; omega
    subst ec
    rw [if_pos rfl] at h4
    refine .inl ⟨rfl, ⟨h2, ?_⟩, ⟨h3, ?_⟩⟩
    · rw [if_neg (by decide)]; omega
    · rw [if_neg (by decide)]; omega
  · have ec : c = false := by
      cases c with
      | false => rfl
      | true => rw [if_pos rfl] at h4; omega
    subst ec
    rw [if_neg (by decide)] at h4
    have e5 : highR r = highR l := e2
    rw [e5] at hr
    refine .inr ⟨rfl, highR l, redR l, redR r, ?_, hl, hr⟩
    unfold highR; omega
theorem _root_.Go.Proofs.Treem.Pt.apart {d : Bool} {a : Addr} {x : No} {O I : AT} {h : Nat} {c : Bool} (t : Pt (AT.mk d a x O I).tr h c) : (c = true ∧ Pt O.tr h false ∧ Pt I.tr h false) ∨ (c = false ∧ ∃ m p q, h = m + 1 ∧ Pt O.tr m p ∧ Pt I.tr m q) := by
  cases d
  · rcases Pt.node (l := I.tr) (r := O.tr) t with ⟨h1, h2, h3⟩ | ⟨h1, m, p, q, h2, h3, h4⟩
    · exact .inl ⟨h1, h3, h2⟩
    · exact .inr ⟨h1, m, q, p, h2, h4, h3⟩
  · exact Pt.node (l := O.tr) (r := I.tr) t
/-- whether the lower tree may stand beside another one, below a red node -/
def fitsR (t u : Tr) : Bool := !redR t && decide (highR t ≤ highR u)
/-- how far the way goes -/
theorem Way.pt {d : Bool} {H : AT} {h : Nat} {c : Bool} (hH : Pt H.tr h c) : ∀ {ps : List AT} {T : AT}, Way d H ps T → ∃ m e, Pt T.tr m e ∧ T.tr.tag.toNat + ps.length ≤ H.tr.tag.toNat ∧ m ≤ h
  | [], T, w => by
    obtain rfl : T = H := w
    exact ⟨h, c, hH, Nat.le_refl _, Nat.le_refl _⟩
  | N :: ps, T, ⟨⟨a, x, O, e⟩, k⟩ => by
    obtain ⟨q, s, h1, h2, h5⟩ := k.pt hH
    have h3 := h1.tag
    rw [e] at h1
    rw [List.length_cons]
    rcases h1.apart with ⟨rfl, -, k2⟩ | ⟨rfl, m, p, q', k1, -, k2⟩
    · have k3 := k2.tag
      rw [if_pos rfl] at h3
      rw [if_neg (by decide)] at k3
      exact ⟨_, _, k2, by omega, h5⟩
    · have k3 := k2.tag
      have k4 : (if q' = true then 1 else 0) ≤ 1 := by split <;> omega
      rw [if_neg (by decide)] at h3
      exact ⟨_, _, k2, by omega, by omega⟩
theorem Way.low {d : Bool} {H : AT} {h g : Nat} {c : Bool} {u : Tr} (hH : Pt H.tr h c) (hu : highR u = g) (hg : 2 * g ≤ H.tr.tag.toNat) : ∀ {ps : List AT} {T : AT}, Way d H ps T → (∀ N ∈ ps, fitsR N.tr u = false) → 2 * g ≤ T.tr.tag.toNat
  | [], T, w, _ => by
    obtain rfl : T = H := w
    exact hg
  | N :: ps, T, ⟨⟨a, x, O, e⟩, k⟩, hf => by
    have h0 := Way.low hH hu hg k (fun M hM => hf M (List.mem_cons_of_mem _ hM))
    have h1 := hf N (List.mem_cons_self ..)
    obtain ⟨q, s, h2, -, -⟩ := k.pt hH
    have h3 := h2.tag
    unfold fitsR at h1
    rw [h2.red, h2.high, hu] at h1
    rw [e] at h2
    rcases h2.apart with ⟨rfl, -, k2⟩ | ⟨rfl, m, p, q', k1, -, k2⟩
    · have k3 := k2.tag
      rw [if_pos rfl] at h3
      rw [if_neg (by decide)] at k3
      omega
    · have k3 := k2.tag
      rw [if_neg (by decide)] at h3
      have h4 : ¬ q ≤ g := by simpa using h1
      omega
/-- where it ends: beside a black tree as high as the lower one -/
theorem Way.end_ {d : Bool} {H : AT} {h g : Nat} {c : Bool} {u : Tr} (hH : Pt H.tr h c) (hu : highR u = g) (hg : 2 * g ≤ H.tr.tag.toNat) {ps : List AT} {T : AT} (w : Way d H ps T) (hf : ∀ N ∈ ps, fitsR N.tr u = false) (hT : fitsR T.tr u = true) : Pt T.tr g false ∧ 2 * g + ps.length ≤ H.tr.tag.toNat := by
  have h1 := Way.low hH hu hg w hf
  obtain ⟨m, e, h2, h3, -⟩ := w.pt hH
  unfold fitsR at hT
  rw [h2.red, h2.high, hu] at hT
  simp at hT
  obtain ⟨rfl, h4⟩ := hT
  have h5 := h2.tag
  rw [if_neg (by decide)] at h5
  obtain rfl : m = g := by omega
  exact ⟨h2, by omega⟩
/-- what stands in the place of M, of M's pairs, the pair, and those of the lower tree: a part of the same black height, or else, where M is red, a red node with a red one inside -/
structure Rep17 (d : Bool) (H L : AT) (k v : BitVec 64) (base : List Addr) (ps : List AT) (M T : AT) (n : Nat) : Prop where
  way : Way d H ps M
  made : ∃ a x O I m c, T = AT.mk d a x O I ∧ a ∉ base ∧ Pt M.tr m c ∧ m ≤ 1000 ∧ ((∃ e, Pt T.tr m e ∧ (c = true → e = true)) ∨ (c = true ∧ x.g.toNat = 2 * m + 1 ∧ Pt O.tr m false ∧ ∃ b y P J, I = AT.mk d b y P J ∧ b ∉ base ∧ y.g.toNat = 2 * m + 1 ∧ Pt P.tr m false ∧ Pt J.tr m false))
  pairs : prD d T.tr = prD d M.tr ++ (k, v) :: prD d L.tr
  few : freshS base T ≤ n + 2
/-- the beginning -/
theorem Rep17.start {d : Bool} {H L : AT} {k v : BitVec 64} {base : List Addr} {ps : List AT} {M : AT} {a : Addr} {x : No} {g : Nat} (hw : Way d H ps M) (hM : Pt M.tr g false) (hL : Pt L.tr g false) (hs : g ≤ 1000) (hx : x.k = k ∧ x.v = v ∧ x.g = tagD d M L true) (ha : a ∉ base)
    (oH : ∀ b ∈ H.addrs, b ∈ base) (oL : freshS base L ≤ 1) : Rep17 d H L k v base ps M (AT.mk d a x M L) 0 := by
  refine ⟨hw, ⟨a, x, M, L, g, false, rfl, ha, hM, hs, .inl ⟨true, hM.redNode hL ?_, fun h => nomatch h⟩⟩, ?_, ?_⟩
  · rw [hx.2.2, tagD_nat hM.high hL.high hs, if_pos rfl]
  · rw [prD_mk, hx.1, hx.2.1]
  · rw [freshS_mk, freshS_old (J := M) (fun b hb => oH b (hw.old.1 b hb)), if_neg ha]; omega
/-- a turn is asked for just where a red one has a red one inside -/
theorem Rep17.test {d : Bool} {H L : AT} {k v : BitVec 64} {base : List Addr} {ps : List AT} {M T : AT} {n : Nat} (r : Rep17 d H L k v base ps M T n) :
    ((redR T.tr && redR (T.side (!d)).tr) = false ∧ ∃ a x O I m c e, T = AT.mk d a x O I ∧ a ∉ base ∧ Pt M.tr m c ∧ m ≤ 1000 ∧ Pt T.tr m e ∧ (c = true → e = true)) ∨
    ((redR T.tr = true ∧ redR (T.side (!d)).tr = true) ∧ ∃ a x O b y P J m, T = AT.mk d a x O (AT.mk d b y P J) ∧ a ∉ base ∧ b ∉ base ∧ Pt M.tr m true ∧ m ≤ 1000 ∧ x.g.toNat = 2 * m + 1 ∧ y.g.toNat = 2 * m + 1 ∧ Pt O.tr m false ∧ Pt P.tr m false ∧ Pt J.tr m false) := by
  obtain ⟨-, ⟨a, x, O, I, m, c, e, ha, hM, hs, h⟩, -, -⟩ := r
  rcases h with ⟨e', h1, h2⟩ | ⟨rfl, h1, h2, b, y, P, J, rfl, hb, h3, h4, h5⟩
  · refine .inl ⟨?_, a, x, O, I, m, c, e', e, ha, hM, hs, h1, h2⟩
    cases e' with
    | false => rw [h1.red]; rfl
    | true =>
      rw [e] at h1 ⊢
      rw [h1.red, AT.mk_in]
      rcases h1.apart with ⟨-, -, k2⟩ | ⟨k1, -⟩
      · rw [k2.red]; rfl
      · cases k1
  · refine .inr ⟨⟨?_, ?_⟩, a, x, O, b, y, P, J, m, e, ha, hb, hM, hs, h1, h3, h2, h4, h5⟩
    · rw [e]
      have : (AT.mk d a x O (AT.mk d b y P J)).tr.tag = x.g := by cases d <;> rfl
      rw [red_iff, this]; omega
    · rw [e, AT.mk_in]
      have : (AT.mk d b y P J).tr.tag = y.g := by cases d <;> rfl
      rw [red_iff, this]; omega
/-- a node on the way, of another inner side -/
theorem Rep17.over {d : Bool} {H L : AT} {k v : BitVec 64} {base : List Addr} {N : AT} {ps : List AT} {M T : AT} {n h : Nat} {ch : Bool} (hH : Pt H.tr h ch) (hh : h ≤ 1000) (r : Rep17 d H L k v base (N :: ps) M T n) (ht : (redR T.tr && redR (T.side (!d)).tr) = false) {b : Addr} {z : No}
    (hz : ∀ a y l r, N = .n a y l r → z.k = y.k ∧ z.v = y.v) (hg : z.g = tagD d (N.side d) T (redR N.tr)) (hb : b ∉ base) (oH : ∀ b ∈ H.addrs, b ∈ base) : Rep17 d H L k v base ps N (AT.mk d b z (N.side d) T) (n + 1) := by
  obtain ⟨a, x, O, I, m, c, e, eT, ha, hM, hs, hT, hc⟩ : ∃ a x O I m c e, T = AT.mk d a x O I ∧ a ∉ base ∧ Pt M.tr m c ∧ m ≤ 1000 ∧ Pt T.tr m e ∧ (c = true → e = true) := by
    rcases r.test with ⟨-, h⟩ | ⟨⟨h1, h2⟩, -⟩
    · exact h
    · rw [h1, h2] at ht; cases ht
  obtain ⟨hw, -, hp, hf⟩ := r
  obtain ⟨⟨aN, xN, ON, eN⟩, kN⟩ := hw
  obtain ⟨nn, cn, h1, -, hn⟩ := kN.pt hH
  have oN : ∀ b ∈ ON.addrs, b ∈ base := fun b hb => oH b (kN.old.1 b (eN ▸ AT.mem_mk.2 (.inr (.inl hb))))
  have hzz : z.k = xN.k ∧ z.v = xN.v := hz aN xN _ _ eN
  subst eN
  rw [h1.red] at hg
  rw [AT.mk_out] at hg ⊢
  refine ⟨kN, ⟨b, z, ON, T, nn, cn, rfl, hb, h1, by omega, ?_⟩, ?_, ?_⟩
  · rcases h1.apart with ⟨rfl, k1, k2⟩ | ⟨rfl, m', p, q, rfl, k1, k2⟩
    · obtain ⟨rfl, rfl⟩ := k2.same hM
      have hg2 : z.g.toNat = 2 * nn + 1 := by rw [hg, tagD_nat k1.high hT.high hs, if_pos rfl]
      cases e with
      | false => exact .inl ⟨true, k1.redNode hT hg2, fun _ => rfl⟩
      | true =>
        rw [eT] at hT
        rcases hT.apart with ⟨-, j1, j2⟩ | ⟨j1, -⟩
        · refine .inr ⟨rfl, hg2, k1, a, x, O, I, eT, ha, ?_, j1, j2⟩
          have h3 := hT.tag
          have h4 : (AT.mk d a x O I).tr.tag = x.g := by cases d <;> rfl
          rw [h4, if_pos rfl] at h3
          exact h3
        · cases j1
    · obtain ⟨rfl, rfl⟩ := k2.same hM
      exact .inl ⟨false, k1.blackNode hT (by rw [hg, tagD_nat k1.high hT.high hs, if_neg (by decide)]), fun h => nomatch h⟩
  · rw [prD_mk, prD_mk, hp, hzz.1, hzz.2]; simp
  · rw [freshS_mk, freshS_old oN, if_neg hb]; omega
/-- the turn -/
theorem Rep17.turn {d : Bool} {H L : AT} {k v : BitVec 64} {base : List Addr} {N : AT} {ps : List AT} {M O P J : AT} {aT bT : Addr} {x y : No} {n h : Nat} {ch : Bool} (hH : Pt H.tr h ch) (hh : h ≤ 1000) (r : Rep17 d H L k v base (N :: ps) M (AT.mk d aT x O (AT.mk d bT y P J)) n)
    (ht : redR (AT.mk d aT x O (AT.mk d bT y P J)).tr = true ∧ redR (AT.mk d bT y P J).tr = true) {a b c : Addr} {z1 z2 z3 : No}
    (hz1 : ∀ a y l r, N = .n a y l r → z1.k = y.k ∧ z1.v = y.v) (hg1 : z1.g = tagD d (N.side d) O false) (hz2 : z2.k = y.k ∧ z2.v = y.v ∧ z2.g = y.g + 1#64)
    (hz3 : z3.k = x.k ∧ z3.v = x.v ∧ z3.g = tagD d (AT.mk d a z1 (N.side d) O) (AT.mk d b z2 P J) true) (hab : a ∉ base ∧ b ∉ base ∧ c ∉ base) (oH : ∀ b ∈ H.addrs, b ∈ base) :
    Rep17 d H L k v base ps N (AT.mk d c z3 (AT.mk d a z1 (N.side d) O) (AT.mk d b z2 P J)) (n + 1) ∧ redR N.tr = false := by
  obtain ⟨m, haT, hbT, hM, hs, g1, g2, q1, q2, q3⟩ : ∃ m, aT ∉ base ∧ bT ∉ base ∧ Pt M.tr m true ∧ m ≤ 1000 ∧ x.g.toNat = 2 * m + 1 ∧ y.g.toNat = 2 * m + 1 ∧ Pt O.tr m false ∧ Pt P.tr m false ∧ Pt J.tr m false := by
    rcases r.test with ⟨h, -⟩ | ⟨-, a', x', O', b', y', P', J', m, e, h⟩
    · rw [AT.mk_in, ht.1, ht.2] at h; cases h
    · have e0 : AT.mk d aT x O (AT.mk d bT y P J) = AT.mk d a' x' O' (AT.mk d b' y' P' J') := e
      cases d <;> (simp only [AT.mk, Bool.false_eq_true, if_false, if_true] at e0; injection e0 with e1 e2 e3 e4)
      · injection e3 with f1 f2 f3 f4
        subst e1 e2 e4 f1 f2 f3 f4
        exact ⟨m, h⟩
      · injection e4 with f1 f2 f3 f4
        subst e1 e2 e3 f1 f2 f3 f4
        exact ⟨m, h⟩
  obtain ⟨hw, -, hp, hf⟩ := r
  obtain ⟨⟨aN, xN, ON, eN⟩, kN⟩ := hw
  obtain ⟨nn, cn, h1, -, hn⟩ := kN.pt hH
  have oN : ∀ b ∈ ON.addrs, b ∈ base := fun b hb => oH b (kN.old.1 b (eN ▸ AT.mem_mk.2 (.inr (.inl hb))))
  have hzz : z1.k = xN.k ∧ z1.v = xN.v := hz1 aN xN _ _ eN
  subst eN
  rw [AT.mk_out] at hg1 hz3 ⊢
  obtain ⟨rfl, m', p, q, rfl, k1, k2⟩ : cn = false ∧ ∃ m' p q, nn = m' + 1 ∧ Pt ON.tr m' p ∧ Pt M.tr m' q := by
    rcases h1.apart with ⟨-, -, k2⟩ | k
    · cases (k2.same hM).2
    · exact k
  obtain ⟨rfl, rfl⟩ := k2.same hM
  have i1 : Pt (AT.mk d a z1 ON O).tr (m' + 1) false := k1.blackNode q1 (by rw [hg1, tagD_nat k1.high q1.high hs, if_neg (by decide)])
  have i2 : Pt (AT.mk d b z2 P J).tr (m' + 1) false := q2.blackNode q3 (by rw [hz2.2.2, BitVec.toNat_add, show (1#64).toNat = 1 from rfl, g2, Nat.mod_eq_of_lt (by omega)])
  have i3 : Pt (AT.mk d c z3 (AT.mk d a z1 ON O) (AT.mk d b z2 P J)).tr (m' + 1) true := i1.redNode i2 (by rw [hz3.2.2, tagD_nat i1.high i2.high (by omega), if_pos rfl])
  refine ⟨⟨kN, ⟨c, z3, _, _, m' + 1, false, rfl, hab.2.2, h1, by omega, .inl ⟨true, i3, fun h => nomatch h⟩⟩, ?_, ?_⟩, h1.red⟩
  · rw [prD_mk, prD_mk] at hp
    rw [prD_mk, prD_mk, prD_mk, prD_mk, hzz.1, hzz.2, hz2.1, hz2.2.1, hz3.1, hz3.2.1]
    simp only [List.append_assoc, List.cons_append] at hp ⊢
    rw [hp]
  · rw [freshS_mk, freshS_mk, if_neg haT, if_neg hbT] at hf
    rw [freshS_mk, freshS_mk, freshS_mk, freshS_old oN, if_neg hab.1, if_neg hab.2.1, if_neg hab.2.2]
    omega
/-- U is T made black: itself, or a new node -/
def Blk (base : List Addr) (T U : AT) : Prop := U.tr = blackR T.tr ∧ ((U = T ∧ redR T.tr = false) ∨ ∃ a x b y l r, T = .n a x l r ∧ U = .n b y l r ∧ b ∉ base ∧ redR T.tr = true ∧ y.k = x.k ∧ y.v = x.v ∧ y.g = x.g + 1#64)
theorem Blk.pairs {base : List Addr} {T U : AT} (h : Blk base T U) : U.tr.pairs = T.tr.pairs := by
  obtain ⟨-, ⟨rfl, -⟩ | ⟨a, x, b, y, l, r, rfl, rfl, -, -, e1, e2, -⟩⟩ := h
  · rfl
  · simp only [AT.tr, Tr.pairs, e1, e2]
theorem Blk.few {base : List Addr} {T U : AT} (h : Blk base T U) (hT : ∀ a ∈ T.addrs, a ∈ base) : freshS base U ≤ 1 := by
  obtain ⟨-, ⟨rfl, -⟩ | ⟨a, x, b, y, l, r, rfl, rfl, hb, -⟩⟩ := h
  · rw [freshS_old hT]; omega
  · rw [freshS_new hb, freshS_old (old_left hT), freshS_old (old_right hT)]; omega
theorem Blk.red {base : List Addr} {d : Bool} {a : Addr} {x : No} {O I U : AT} (h : Blk base (AT.mk d a x O I) U) (hr : redR (AT.mk d a x O I).tr = true) : ∃ b y, U = AT.mk d b y O I ∧ b ∉ base ∧ y.k = x.k ∧ y.v = x.v ∧ y.g = x.g + 1#64 := by
  obtain ⟨-, ⟨-, h1⟩ | ⟨a', x', b, y, l, r, e1, rfl, hb, -, e2, e3, e4⟩⟩ := h
  · rw [hr] at h1; cases h1
  · refine ⟨b, y, ?_⟩
    cases d <;> (simp only [AT.mk, Bool.false_eq_true, if_false, if_true] at e1 ⊢; injection e1 with f1 f2 f3 f4; subst f1 f2 f3 f4; exact ⟨rfl, hb, e2, e3, e4⟩)
/-- what comes of it: of the lower tree's pairs, the pair, and the higher one's -/
structure Join17 (d : Bool) (H L : AT) (k v : BitVec 64) (base : List Addr) (J : AT) : Prop where
  may : mayR J.tr = true
  pairs : prD d J.tr = prD d H.tr ++ (k, v) :: prD d L.tr
  high : highR J.tr = hbR H.tr ∨ highR J.tr = hbR H.tr + 1
  new : 1 ≤ newC J.addrs base
  few : newC J.addrs base ≤ 2 * hbR H.tr - 2 * highR L.tr + 3
/-- the end -/
theorem Rep17.done {d : Bool} {H L : AT} {k v : BitVec 64} {base : List Addr} {M T J : AT} {n h g : Nat} {ch : Bool} (hH : Pt H.tr h ch) (hh : h ≤ 1000) (hL : highR L.tr = g) (hn : 2 * g + n ≤ H.tr.tag.toNat) (r : Rep17 d H L k v base [] M T n) (hJ : Blk base T J) : Join17 d H L k v base J := by
  obtain ⟨hw, ⟨a, x, O, I, m, c, e, ha, hM, hs, ho⟩, hp, hf⟩ := r
  obtain rfl : M = H := hw
  obtain ⟨rfl, rfl⟩ := hM.same hH
  have hhb := hH.hb hh
  have htag := hH.tag
  have hmost : n + 2 ≤ 2 * hbR M.tr - 2 * highR L.tr + 3 := by
    rw [hhb, hL]
    cases c
    · simp at htag ⊢; omega
    · simp at htag ⊢; omega
  obtain ⟨hJ1, hJ2⟩ := hJ
  have hpr : J.tr.pairs = T.tr.pairs := Blk.pairs ⟨hJ1, hJ2⟩
  have hpd : prD d J.tr = prD d T.tr := by unfold prD; rw [hpr]
  rcases hJ2 with ⟨rfl, hr⟩ | ⟨a', x', b, y, l, r', eT, rfl, hb, hr, -, -, hy⟩
  · obtain ⟨e', h1, h2⟩ : ∃ e, Pt J.tr m e ∧ (c = true → e = true) := by
      rcases ho with h | ⟨-, h1, -⟩
      · exact h
      · exfalso
        rw [e, red_no] at hr
        have h4 : (AT.mk d a x O I).tr.tag = x.g := by cases d <;> rfl
        rw [h4] at hr; omega
    obtain rfl : e' = false := by rw [← h1.red, hr]
    obtain rfl : c = false := by
      cases c with
      | false => rfl
      | true => exact absurd (h2 rfl) (by decide)
    refine ⟨by rw [may_R, h1.part, hr]; rfl, hp, .inl (by rw [h1.high, hhb]; rfl), ?_, ?_⟩
    · rw [e]; exact new_root ha _ _ _
    · have := new_le_S base J
      omega
  · have hg : x'.g.toNat = 2 * m + 1 := by
      rcases ho with ⟨e', h1, -⟩ | ⟨-, h1, -⟩
      · obtain rfl : e' = true := by rw [← h1.red, hr]
        have h2 := h1.tag
        rw [if_pos rfl, eT] at h2
        exact h2
      · have e0 := e.symm.trans eT
        cases d <;> (simp only [AT.mk, Bool.false_eq_true, if_false, if_true] at e0; injection e0 with e1 e2 e3 e4; rw [← e2]; exact h1)
    have hyg : y.g.toNat = 2 * m + 2 := by rw [hy, BitVec.toNat_add, show (1#64).toNat = 1 from rfl, hg, Nat.mod_eq_of_lt (by omega)]
    have hsub : ∃ p q, Pt l.tr m p ∧ Pt r'.tr m q := by
      rcases ho with ⟨e', h1, -⟩ | ⟨-, h1, h2, b', y', P, J', rfl, -, h3, h4, h5⟩
      · obtain rfl : e' = true := by rw [← h1.red, hr]
        rw [eT] at h1
        rcases Pt.node (l := l.tr) (r := r'.tr) h1 with ⟨-, k1, k2⟩ | ⟨k1, -⟩
        · exact ⟨_, _, k1, k2⟩
        · cases k1
      · have k := h4.redNode (d := d) (a := b') h5 h3
        have e0 := e.symm.trans eT
        cases d
        · simp only [AT.mk, Bool.false_eq_true, if_false] at e0 k
          injection e0 with e1 e2 e3 e4
          subst e3 e4
          exact ⟨_, _, k, h2⟩
        · simp only [AT.mk, if_true] at e0 k
          injection e0 with e1 e2 e3 e4
          subst e3 e4
          exact ⟨_, _, h2, k⟩
    obtain ⟨p, q, k1, k2⟩ := hsub
    have hJp : Pt (AT.n b y l r').tr (m + 1) false := Pt.blackNode (d := true) (a := b) (x := y) (O := l) (I := r') k1 k2 hyg
    refine ⟨by rw [may_R, hJp.part, hJp.red]; rfl, hpd.trans hp, ?_, new_root hb _ _ _, ?_⟩
    · rw [hJp.high, hhb]
      cases c
      · exact .inr rfl
      · exact .inl rfl
    · have h1 := new_le_S base (.n b y l r')
      have h2 : freshS base (.n b y l r') ≤ freshS base T := by
        have e0 := e.symm.trans eT
        have ha' : a' ∉ base := by
          have e5 : a' = a := by
            cases d <;> (simp only [AT.mk, Bool.false_eq_true, if_false, if_true] at e0; injection e0 with e1; exact e1.symm)
          rw [e5]; exact ha
        rw [eT, freshS_new hb, freshS_new ha']; omega
      omega
end Go.Proofs.Ytifhnaelkjfmdab
/- Package rbjoin, as landed: what the two sides answer (fits, put, outer, inner, over); Most; a tree made black. Made by wip/gen/layer17join.py. -/
namespace Go.Proofs.Ytifhnaelkjfmdab
open Go.RowKit Go.Shelf Go.Proofs.Treem Go.Proofs.Cardm
set_option maxRecDepth 100000
variable {Nd : NdP}

theorem high17 (hV : RbSays Nd) (W : World) (T : AT) (h : Stand Nd W T) : Calls Try.prog 20 #[.pointer T.ptr] W fun e w' => e = .returned (.int .i64 (highR T.tr : Int)) ∧ Below W.heap.size W w' := hV.high W T.tr T.ptr h.tree
theorem red17 (hV : RbSays Nd) (W : World) (T : AT) (h : Stand Nd W T) : Calls Try.prog 21 #[.pointer T.ptr] W fun e w' => e = .returned (.bool (redR T.tr)) ∧ Below W.heap.size W w' := hV.red W T.tr T.ptr h.tree
theorem left17 (hN : NodeSays Nd) (W : World) (T : AT) (h : Stand Nd W T) : Calls Try.prog 16 #[.pointer T.ptr] W fun e w' => e = .returned (.pointer (T.side true).ptr) ∧ Below W.heap.size W w' := by
  cases T with
  | e => exact (hN.left0 W).mono (by rintro e w' ⟨rfl, hb⟩; exact ⟨rfl, hb⟩)
  | n a x l r =>
    obtain ⟨h1, h2, -⟩ := Stand.sides hN h
    exact (hN.left W _ a _ h1).mono (by rintro e w' ⟨rfl, rfl⟩; exact ⟨by rw [h2]; rfl, Below.refl _ _⟩)
theorem right17 (hN : NodeSays Nd) (W : World) (T : AT) (h : Stand Nd W T) : Calls Try.prog 17 #[.pointer T.ptr] W fun e w' => e = .returned (.pointer (T.side false).ptr) ∧ Below W.heap.size W w' := by
  cases T with
  | e => exact (hN.right0 W).mono (by rintro e w' ⟨rfl, hb⟩; exact ⟨rfl, hb⟩)
  | n a x l r =>
    obtain ⟨h1, -, h2, -⟩ := Stand.sides hN h
    exact (hN.right W _ a _ h1).mono (by rintro e w' ⟨rfl, rfl⟩; exact ⟨by rw [h2]; rfl, Below.refl _ _⟩)
theorem Stand.side {W : World} {N : AT} (hN : NodeSays Nd) (d : Bool) (h : Stand Nd W N) : Stand Nd W (N.side d) := by
  cases N with
  | e => exact Stand.none_ W
  | n a x l r =>
    obtain ⟨-, -, -, h4, h5⟩ := Stand.sides hN h
    cases d
    · exact h5
    · exact h4
/-- Blacken: itself, or a new node -/
theorem black17 (hN : NodeSays Nd) (hV : RbSays Nd) (w : World) (T : AT) (h : Stand Nd w T) (base : List Addr) (hb : ∀ a ∈ base, a.block < w.heap.size) : Calls Try.prog 14 #[.pointer T.ptr] w fun e w' => ∃ U : AT, e = .returned (.pointer U.ptr) ∧ Stand Nd w' U ∧ Blk base T U ∧ Below w.heap.size w w' := by
  cases hr : redR T.tr with
  | false => exact (hV.blackNo w T h hr).mono fun e w' ⟨k1, k2⟩ => ⟨T, k1, h.after hN k2, ⟨(black_no hr).symm, .inl ⟨rfl, hr⟩⟩, k2⟩
  | true =>
    cases T with
    | e => cases hr
    | n a x L R =>
      refine (hV.blackYes w a x L R h hr).mono ?_
      rintro e w' ⟨b, y, rfl, ⟨e1, e2, e3⟩, k1, hB, k2⟩
      refine ⟨.n b y L R, rfl, k1, ⟨?_, .inr ⟨a, x, b, y, L, R, rfl, rfl, fun hm => ?_, hr, e1, e2, e3⟩⟩, k2⟩
      · have := black_yes (l := L.tr) (k := x.k) (v := x.v) (g := x.g) (r := R.tr) hr
        rw [show (AT.n a x L R).tr = .n L.tr x.k x.v x.g R.tr from rfl, this, AT.tr, e1, e2, e3]
      · have := hb b hm; omega
set_option maxHeartbeats 8000000 in
/-- whether the lower tree may stand beside another one -/
theorem fits17_any (hN : NodeSays Nd) (hV : RbSays Nd) (w : World) (k v : BitVec 64) (L T : AT) (hT : Stand Nd w T) (hL : Stand Nd w L) : Calls Try.prog 96 #[.agg #[K k, K v, .pointer L.ptr], .pointer T.ptr] w fun e w' => e = .returned (.bool (fitsR T.tr L.tr)) ∧ Below w.heap.size w w' := by
  have cR := Lib.hid (fun W h => red17 hV W T h)
  have cT := Lib.hid (fun W h => high17 hV W T h)
  have cL := Lib.hid (fun W h => high17 hV W L h)
  unfold fitsR
  obtain ⟨W0, hW0⟩ : ∃ W, w.alloc (.cells #[K k, K v, .pointer L.ptr] 77) = W := ⟨_, rfl⟩
  obtain ⟨g0, hg0⟩ : ∃ g, w.heap.size = g := ⟨_, rfl⟩
  have hB0 : Below w.heap.size w W0 := hW0 ▸ (Below.refl _ w).alloc (Nat.le_refl _) _
  have hH0 : Has W0 g0 77 #[K k, K v, .pointer L.ptr] := hg0 ▸ hW0 ▸ Has.new w _ _
  have k2 : W0.cell? ⟨g0, 2, none⟩ = some (.pointer L.ptr) := hH0.cell 2
  have B0 := Lib.hid hB0
  have hN' := Lib.hid hN
  have TS := Lib.hid (hT.after hN hB0)
  have LS := Lib.hid (hL.after hN hB0)
  obtain ⟨P, hP⟩ : ∃ P, highR T.tr = P := ⟨_, rfl⟩
  obtain ⟨Q, hQ⟩ : ∃ Q, highR L.tr = Q := ⟨_, rfl⟩
  rw [hP] at cT ⊢
  rw [hQ] at cL ⊢
  obtain ⟨pl, hpl⟩ : ∃ p, L.ptr = p := ⟨_, rfl⟩
  obtain ⟨pt, hpt⟩ : ∃ p, T.ptr = p := ⟨_, rfl⟩
  rw [hpl] at cL k2 hW0
  rw [hpt] at cT cR
  rw [hpl, hpt]
  have HW0 := Lib.hid hW0
  have HG0 := Lib.hid hg0
  cases hr : redR T.tr with
  | true =>
    rw [hr] at cR
    clear hr hP hQ hpl hpt hT hL hH0 hB0 hN hW0 hg0 hV
    go_enter Try.func96, Try.ntmps96
    go_wp2_with fail
    rw [HW0.out, HG0.out]
    refine wp_region_held_drew (S := fun W => W.cell? ⟨g0, 2, none⟩ = some (.pointer pl) ∧ Below W0.heap.size W0 W) (by kernel_rfl) ⟨k2, (Below.refl _ W0).drew⟩ (fun hS => ?_)
    refine wpAnyH_take (i := 0) (oi := ?dqr1q0) (v := ?dvr1q0) ?hir1q0 (by kernel_rfl) (by kernel_rfl) (by kernel_rfl) ?hQr1q0 (Or.inl ⟨?hwr1q0, ?hyr1q0⟩) hS ?hrr1q0
    case hir1q0 => simp only [List.getElem?_toArray, List.getElem?_cons_zero]; rfl
    case hQr1q0 => exact fun _ _ _ h => h
    case hwr1q0 => rfl
    case hyr1q0 => (intro w hSw; (try dsimp only at hSw); go_simp; (try with_reducible rfl))
    simp only [Act.put, List.setIfInBounds_toArray, List.set_cons_zero, List.set_cons_succ]
    refine wpAnyH_ready (rs := [1]) (by kernel_rfl) (by simp) ?_
    refine AllReadyH.cons (o := ?dqr1q1) ?hir1q1 (fun K hK => ?_) AllReadyH.nil
    case hir1q1 => simp only [List.getElem?_toArray, List.getElem?_cons_succ, List.getElem?_cons_zero]; rfl
    go_simp
    refine (cR.out _ (TS.out.after hN'.out hS.2)).mono ?_
    rintro e u1 ⟨rfl, hb1⟩
    have hS2 := (And.intro (keep_cell hb1 hS.1) (Below.after hS.2 hb1))
    clear hS
    refine hK.out _ _ hS2 (fun hS => ?_)
    clear hS2 hK K
    try simp only [Act.put, List.setIfInBounds_toArray, List.set_cons_zero, List.set_cons_succ]
    refine wpAnyH_take (i := 2) (oi := ?dqr1q2) (v := ?dvr1q2) ?hir1q2 (by kernel_rfl) (by kernel_rfl) (by kernel_rfl) ?hQr1q2 (Or.inl ⟨?hwr1q2, ?hyr1q2⟩) hS ?hrr1q2
    case hir1q2 => simp only [List.getElem?_toArray, List.getElem?_cons_succ, List.getElem?_cons_zero]; rfl
    case hQr1q2 => exact fun _ _ _ h => h
    case hwr1q2 => rfl
    case hyr1q2 => (intro w hSw; (try dsimp only at hSw); go_simp; (try with_reducible rfl))
    simp only [Act.put, List.setIfInBounds_toArray, List.set_cons_zero, List.set_cons_succ]
    refine wpAnyH_take (i := 3) (oi := ?dqr1q3) (v := ?dvr1q3) ?hir1q3 (by kernel_rfl) (by kernel_rfl) (by kernel_rfl) ?hQr1q3 (Or.inl ⟨?hwr1q3, ?hyr1q3⟩) hS ?hrr1q3
    case hir1q3 => simp only [List.getElem?_toArray, List.getElem?_cons_succ, List.getElem?_cons_zero]; rfl
    case hQr1q3 => exact fun _ _ _ h => h
    case hwr1q3 => rfl
    case hyr1q3 => (intro w hSw; (try dsimp only at hSw); go_simp; (try with_reducible rfl))
    simp only [Act.put, List.setIfInBounds_toArray, List.set_cons_zero, List.set_cons_succ]
    refine wpAnyH_take (i := 4) (oi := ?dqr1q4) (v := undef) ?hir1q4 (by kernel_rfl) (by kernel_rfl) (by kernel_rfl) ?hQr1q4 (Or.inr ⟨?hwr1q4, rfl⟩) hS ?hrr1q4
    case hir1q4 => simp only [List.getElem?_toArray, List.getElem?_cons_succ, List.getElem?_cons_zero]; rfl
    case hQr1q4 => exact fun _ _ _ h => h
    case hwr1q4 => rfl
    simp only [Act.put, List.setIfInBounds_toArray, List.set_cons_zero, List.set_cons_succ]
    refine wpAnyH_take (i := 5) (oi := ?dqr1q5) (v := undef) ?hir1q5 (by kernel_rfl) (by kernel_rfl) (by kernel_rfl) ?hQr1q5 (Or.inr ⟨?hwr1q5, rfl⟩) hS ?hrr1q5
    case hir1q5 => simp only [List.getElem?_toArray, List.getElem?_cons_succ, List.getElem?_cons_zero]; rfl
    case hQr1q5 => exact fun _ _ _ h => h
    case hwr1q5 => rfl
    simp only [Act.put, List.setIfInBounds_toArray, List.set_cons_zero, List.set_cons_succ]
    refine wpAnyH_take (i := 6) (oi := ?dqr1q6) (v := undef) ?hir1q6 (by kernel_rfl) (by kernel_rfl) (by kernel_rfl) ?hQr1q6 (Or.inr ⟨?hwr1q6, rfl⟩) hS ?hrr1q6
    case hir1q6 => simp only [List.getElem?_toArray, List.getElem?_cons_succ, List.getElem?_cons_zero]; rfl
    case hQr1q6 => exact fun _ _ _ h => h
    case hwr1q6 => rfl
    simp only [Act.put, List.setIfInBounds_toArray, List.set_cons_zero, List.set_cons_succ]
    refine wpAnyH_take (i := 7) (oi := ?dqr1q7) (v := undef) ?hir1q7 (by kernel_rfl) (by kernel_rfl) (by kernel_rfl) ?hQr1q7 (Or.inr ⟨?hwr1q7, rfl⟩) hS ?hrr1q7
    case hir1q7 => simp only [List.getElem?_toArray, List.getElem?_cons_succ, List.getElem?_cons_zero]; rfl
    case hQr1q7 => exact fun _ _ _ h => h
    case hwr1q7 => rfl
    simp only [Act.put, List.setIfInBounds_toArray, List.set_cons_zero, List.set_cons_succ]
    refine wpAnyH_take (i := 8) (oi := ?dqr1q8) (v := undef) ?hir1q8 (by kernel_rfl) (by kernel_rfl) (by kernel_rfl) ?hQr1q8 (Or.inr ⟨?hwr1q8, rfl⟩) hS ?hrr1q8
    case hir1q8 => simp only [List.getElem?_toArray, List.getElem?_cons_succ, List.getElem?_cons_zero]; rfl
    case hQr1q8 => exact fun _ _ _ h => h
    case hwr1q8 => rfl
    simp only [Act.put, List.setIfInBounds_toArray, List.set_cons_zero, List.set_cons_succ]
    refine wpAnyH_take (i := 9) (oi := ?dqr1q9) (v := undef) ?hir1q9 (by kernel_rfl) (by kernel_rfl) (by kernel_rfl) ?hQr1q9 (Or.inr ⟨?hwr1q9, rfl⟩) hS ?hrr1q9
    case hir1q9 => simp only [List.getElem?_toArray, List.getElem?_cons_succ, List.getElem?_cons_zero]; rfl
    case hQr1q9 => exact fun _ _ _ h => h
    case hwr1q9 => rfl
    simp only [Act.put, List.setIfInBounds_toArray, List.set_cons_zero, List.set_cons_succ]
    refine wpAnyH_take (i := 10) (oi := ?dqr1q10) (v := ?dvr1q10) ?hir1q10 (by kernel_rfl) (by kernel_rfl) (by kernel_rfl) ?hQr1q10 (Or.inl ⟨?hwr1q10, ?hyr1q10⟩) hS ?hrr1q10
    case hir1q10 => simp only [List.getElem?_toArray, List.getElem?_cons_succ, List.getElem?_cons_zero]; rfl
    case hQr1q10 => exact fun _ _ _ h => h
    case hwr1q10 => rfl
    case hyr1q10 => (intro w hSw; (try dsimp only at hSw); go_simp; (try with_reducible rfl))
    simp only [Act.put, List.setIfInBounds_toArray, List.set_cons_zero, List.set_cons_succ]
    refine wpAnyH_take (i := 11) (oi := ?dqr1q11) (v := ?dvr1q11) ?hir1q11 (by kernel_rfl) (by kernel_rfl) (by kernel_rfl) ?hQr1q11 (Or.inl ⟨?hwr1q11, ?hyr1q11⟩) hS ?hrr1q11
    case hir1q11 => simp only [List.getElem?_toArray, List.getElem?_cons_succ, List.getElem?_cons_zero]; rfl
    case hQr1q11 => exact fun _ _ _ h => h
    case hwr1q11 => rfl
    case hyr1q11 => (intro w hSw; (try dsimp only at hSw); go_simp; (try with_reducible rfl))
    simp only [Act.put, List.setIfInBounds_toArray, List.set_cons_zero, List.set_cons_succ]
    refine wpAnyH_done (by kernel_rfl) ?_ _
    go_wp2
    go_ret
    exact ⟨rfl, Below.after B0.out hS.2⟩
  | false =>
    rw [hr] at cR
    clear hr hP hQ hpl hpt hT hL hH0 hB0 hN hW0 hg0 hV
    go_enter Try.func96, Try.ntmps96
    go_wp2_with fail
    rw [HW0.out, HG0.out]
    refine wp_region_held_drew (S := fun W => W.cell? ⟨g0, 2, none⟩ = some (.pointer pl) ∧ Below W0.heap.size W0 W) (by kernel_rfl) ⟨k2, (Below.refl _ W0).drew⟩ (fun hS => ?_)
    refine wpAnyH_take (i := 0) (oi := ?dqr2q0) (v := ?dvr2q0) ?hir2q0 (by kernel_rfl) (by kernel_rfl) (by kernel_rfl) ?hQr2q0 (Or.inl ⟨?hwr2q0, ?hyr2q0⟩) hS ?hrr2q0
    case hir2q0 => simp only [List.getElem?_toArray, List.getElem?_cons_zero]; rfl
    case hQr2q0 => exact fun _ _ _ h => h
    case hwr2q0 => rfl
    case hyr2q0 => (intro w hSw; (try dsimp only at hSw); go_simp; (try with_reducible rfl))
    simp only [Act.put, List.setIfInBounds_toArray, List.set_cons_zero, List.set_cons_succ]
    refine wpAnyH_ready (rs := [1]) (by kernel_rfl) (by simp) ?_
    refine AllReadyH.cons (o := ?dqr2q1) ?hir2q1 (fun K hK => ?_) AllReadyH.nil
    case hir2q1 => simp only [List.getElem?_toArray, List.getElem?_cons_succ, List.getElem?_cons_zero]; rfl
    go_simp
    refine (cR.out _ (TS.out.after hN'.out hS.2)).mono ?_
    rintro e u1 ⟨rfl, hb1⟩
    have hS2 := (And.intro (keep_cell hb1 hS.1) (Below.after hS.2 hb1))
    clear hS
    refine hK.out _ _ hS2 (fun hS => ?_)
    clear hS2 hK K
    try simp only [Act.put, List.setIfInBounds_toArray, List.set_cons_zero, List.set_cons_succ]
    refine wpAnyH_take (i := 2) (oi := ?dqr2q2) (v := ?dvr2q2) ?hir2q2 (by kernel_rfl) (by kernel_rfl) (by kernel_rfl) ?hQr2q2 (Or.inl ⟨?hwr2q2, ?hyr2q2⟩) hS ?hrr2q2
    case hir2q2 => simp only [List.getElem?_toArray, List.getElem?_cons_succ, List.getElem?_cons_zero]; rfl
    case hQr2q2 => exact fun _ _ _ h => h
    case hwr2q2 => rfl
    case hyr2q2 => (intro w hSw; (try dsimp only at hSw); go_simp; (try with_reducible rfl))
    simp only [Act.put, List.setIfInBounds_toArray, List.set_cons_zero, List.set_cons_succ]
    refine wpAnyH_take (i := 3) (oi := ?dqr2q3) (v := ?dvr2q3) ?hir2q3 (by kernel_rfl) (by kernel_rfl) (by kernel_rfl) ?hQr2q3 (Or.inl ⟨?hwr2q3, ?hyr2q3⟩) hS ?hrr2q3
    case hir2q3 => simp only [List.getElem?_toArray, List.getElem?_cons_succ, List.getElem?_cons_zero]; rfl
    case hQr2q3 => exact fun _ _ _ h => h
    case hwr2q3 => rfl
    case hyr2q3 => (intro w hSw; (try dsimp only at hSw); go_simp; (try with_reducible rfl))
    simp only [Act.put, List.setIfInBounds_toArray, List.set_cons_zero, List.set_cons_succ]
    refine wpAnyH_take (i := 4) (oi := ?dqr2q4) (v := ?dvr2q4) ?hir2q4 (by kernel_rfl) (by kernel_rfl) (by kernel_rfl) ?hQr2q4 (Or.inl ⟨?hwr2q4, ?hyr2q4⟩) hS ?hrr2q4
    case hir2q4 => simp only [List.getElem?_toArray, List.getElem?_cons_succ, List.getElem?_cons_zero]; rfl
    case hQr2q4 => exact fun _ _ _ h => h
    case hwr2q4 => rfl
    case hyr2q4 => (intro w hSw; (try dsimp only at hSw); go_simp; (try with_reducible rfl))
    simp only [Act.put, List.setIfInBounds_toArray, List.set_cons_zero, List.set_cons_succ]
    refine wpAnyH_take (i := 6) (oi := ?dqr2q6) (v := ?dvr2q6) ?hir2q6 (by kernel_rfl) (by kernel_rfl) (by kernel_rfl) ?hQr2q6 (Or.inl ⟨?hwr2q6, ?hyr2q6⟩) hS ?hrr2q6
    case hir2q6 => simp only [List.getElem?_toArray, List.getElem?_cons_succ, List.getElem?_cons_zero]; rfl
    case hQr2q6 => exact fun _ _ _ h => h
    case hwr2q6 => rfl
    case hyr2q6 => (intro w hSw; (try dsimp only at hSw); go_simp; (try with_reducible rfl))
    simp only [Act.put, List.setIfInBounds_toArray, List.set_cons_zero, List.set_cons_succ]
    refine wpAnyH_take (i := 7) (oi := ?dqr2q7) (v := ?dvr2q7) ?hir2q7 (by kernel_rfl) (by kernel_rfl) (by kernel_rfl) ?hQr2q7 (Or.inl ⟨?hwr2q7, ?hyr2q7⟩) hS ?hrr2q7
    case hir2q7 => simp only [List.getElem?_toArray, List.getElem?_cons_succ, List.getElem?_cons_zero]; rfl
    case hQr2q7 => exact fun _ _ _ h => h
    case hwr2q7 => rfl
    case hyr2q7 => (intro w hSw; (try dsimp only at hSw); go_simp; (try with_reducible rfl))
    simp only [Act.put, List.setIfInBounds_toArray, List.set_cons_zero, List.set_cons_succ]
    refine wpAnyH_ready (rs := [5]) (by kernel_rfl) (by simp) ?_
    refine AllReadyH.cons (o := ?dqr2q5) ?hir2q5 (fun K hK => ?_) AllReadyH.nil
    case hir2q5 => simp only [List.getElem?_toArray, List.getElem?_cons_succ, List.getElem?_cons_zero]; rfl
    go_simp
    refine (cT.out _ (TS.out.after hN'.out hS.2)).mono ?_
    rintro e u2 ⟨rfl, hb2⟩
    have hS2 := (And.intro (keep_cell hb2 hS.1) (Below.after hS.2 hb2))
    clear hS
    refine hK.out _ _ hS2 (fun hS => ?_)
    clear hS2 hK K
    try simp only [Act.put, List.setIfInBounds_toArray, List.set_cons_zero, List.set_cons_succ]
    refine wpAnyH_ready (rs := [8]) (by kernel_rfl) (by simp) ?_
    refine AllReadyH.cons (o := ?dqr2q8) ?hir2q8 (fun K hK => ?_) AllReadyH.nil
    case hir2q8 => simp only [List.getElem?_toArray, List.getElem?_cons_succ, List.getElem?_cons_zero]; rfl
    go_simp
    refine (cL.out _ (LS.out.after hN'.out hS.2)).mono ?_
    rintro e u3 ⟨rfl, hb3⟩
    have hS2 := (And.intro (keep_cell hb3 hS.1) (Below.after hS.2 hb3))
    clear hS
    refine hK.out _ _ hS2 (fun hS => ?_)
    clear hS2 hK K
    try simp only [Act.put, List.setIfInBounds_toArray, List.set_cons_zero, List.set_cons_succ]
    refine wpAnyH_take (i := 9) (oi := ?dqr2q9) (v := ?dvr2q9) ?hir2q9 (by kernel_rfl) (by kernel_rfl) (by kernel_rfl) ?hQr2q9 (Or.inl ⟨?hwr2q9, ?hyr2q9⟩) hS ?hrr2q9
    case hir2q9 => simp only [List.getElem?_toArray, List.getElem?_cons_succ, List.getElem?_cons_zero]; rfl
    case hQr2q9 => exact fun _ _ _ h => h
    case hwr2q9 => rfl
    case hyr2q9 => (intro w hSw; (try dsimp only at hSw); go_simp; (try with_reducible rfl))
    simp only [Act.put, List.setIfInBounds_toArray, List.set_cons_zero, List.set_cons_succ]
    refine wpAnyH_take (i := 10) (oi := ?dqr2q10) (v := ?dvr2q10) ?hir2q10 (by kernel_rfl) (by kernel_rfl) (by kernel_rfl) ?hQr2q10 (Or.inl ⟨?hwr2q10, ?hyr2q10⟩) hS ?hrr2q10
    case hir2q10 => simp only [List.getElem?_toArray, List.getElem?_cons_succ, List.getElem?_cons_zero]; rfl
    case hQr2q10 => exact fun _ _ _ h => h
    case hwr2q10 => rfl
    case hyr2q10 => (intro w hSw; (try dsimp only at hSw); go_simp; (try with_reducible rfl))
    simp only [Act.put, List.setIfInBounds_toArray, List.set_cons_zero, List.set_cons_succ]
    refine wpAnyH_take (i := 11) (oi := ?dqr2q11) (v := ?dvr2q11) ?hir2q11 (by kernel_rfl) (by kernel_rfl) (by kernel_rfl) ?hQr2q11 (Or.inl ⟨?hwr2q11, ?hyr2q11⟩) hS ?hrr2q11
    case hir2q11 => simp only [List.getElem?_toArray, List.getElem?_cons_succ, List.getElem?_cons_zero]; rfl
    case hQr2q11 => exact fun _ _ _ h => h
    case hwr2q11 => rfl
    case hyr2q11 => (intro w hSw; (try dsimp only at hSw); go_simp; (try with_reducible rfl))
    simp only [Act.put, List.setIfInBounds_toArray, List.set_cons_zero, List.set_cons_succ]
    refine wpAnyH_done (by kernel_rfl) ?_ _
    go_wp2
    go_ret
    exact ⟨rfl, Below.after B0.out hS.2⟩
set_option maxHeartbeats 4000000 in
theorem outerR17 (hN : NodeSays Nd) (w : World) (k v : BitVec 64) (L T : AT) (hT : Stand Nd w T) : Calls Try.prog 98 #[.agg #[K k, K v, .pointer L.ptr], .pointer T.ptr] w fun e w' => e = .returned (.pointer (T.side true).ptr) ∧ Below w.heap.size w w' := by
  have hB0 : Below w.heap.size w (w.alloc (.cells #[K k, K v, .pointer L.ptr] 79)) := (Below.refl _ w).alloc (Nat.le_refl _) _
  have c1 := Lib.hid (left17 hN _ T (hT.after hN hB0))
  have B0 := Lib.hid hB0
  obtain ⟨pt, hpt⟩ : ∃ p, T.ptr = p := ⟨_, rfl⟩
  obtain ⟨ps, hps⟩ : ∃ p, (T.side true).ptr = p := ⟨_, rfl⟩
  rw [hpt, hps] at c1
  rw [hpt, hps]
  clear hpt hps hT hN hB0
  go_enter Try.func98, Try.ntmps98
  go_wp2_with fail
  refine c1.out.mono ?_
  rintro e w1 ⟨rfl, hb⟩
  have b1 := Lib.hid (Below.after B0.out hb)
  clear hb
  go_wp2
  go_ret
  exact ⟨rfl, b1.out⟩
set_option maxHeartbeats 4000000 in
theorem innerR17 (hN : NodeSays Nd) (w : World) (k v : BitVec 64) (L T : AT) (hT : Stand Nd w T) : Calls Try.prog 97 #[.agg #[K k, K v, .pointer L.ptr], .pointer T.ptr] w fun e w' => e = .returned (.pointer (T.side false).ptr) ∧ Below w.heap.size w w' := by
  have hB0 : Below w.heap.size w (w.alloc (.cells #[K k, K v, .pointer L.ptr] 79)) := (Below.refl _ w).alloc (Nat.le_refl _) _
  have c1 := Lib.hid (right17 hN _ T (hT.after hN hB0))
  have B0 := Lib.hid hB0
  obtain ⟨pt, hpt⟩ : ∃ p, T.ptr = p := ⟨_, rfl⟩
  obtain ⟨ps, hps⟩ : ∃ p, (T.side false).ptr = p := ⟨_, rfl⟩
  rw [hpt, hps] at c1
  rw [hpt, hps]
  clear hpt hps hT hN hB0
  go_enter Try.func97, Try.ntmps97
  go_wp2_with fail
  refine c1.out.mono ?_
  rintro e w1 ⟨rfl, hb⟩
  have b1 := Lib.hid (Below.after B0.out hb)
  clear hb
  go_wp2
  go_ret
  exact ⟨rfl, b1.out⟩
set_option maxHeartbeats 4000000 in
theorem putR17 (hN : NodeSays Nd) (hV : RbSays Nd) (w : World) (k v : BitVec 64) (L T : AT) (hT : Stand Nd w T) (hL : Stand Nd w L) : Calls Try.prog 100 #[.agg #[K k, K v, .pointer L.ptr], .pointer T.ptr] w (MadeD Nd true T L k v (tagD true T L true) w) := by
  have hB0 : Below w.heap.size w (w.alloc (.cells #[K k, K v, .pointer L.ptr] 79)) := (Below.refl _ w).alloc (Nat.le_refl _) _
  have hH0 : Has (w.alloc (.cells #[K k, K v, .pointer L.ptr] 79)) w.heap.size 79 #[K k, K v, .pointer L.ptr] := Has.new w _ _
  have k0 := hH0.cell 0
  have k1 := hH0.cell 1
  have k2 := hH0.cell 2
  have c1 : Hid (Calls Try.prog 12 #[.pointer T.ptr, K k, K v, .bool true, .pointer L.ptr] _ (MadeD Nd true T L k v (tagD true T L true) (w.alloc (.cells #[K k, K v, .pointer L.ptr] 79)))) := hV.make _ T L k v true (hT.after hN hB0) (hL.after hN hB0)
  have B0 := Lib.hid hB0
  have fin : Hid (∀ e u, MadeD Nd true T L k v (tagD true T L true) (w.alloc (.cells #[K k, K v, .pointer L.ptr] 79)) e u → MadeD Nd true T L k v (tagD true T L true) w e u ∧ ∃ p, e = .returned (.pointer p)) := fun e u ⟨a, x, h1, h2, h3, h4, h5⟩ => ⟨⟨a, x, h1, h2, h3, Nat.le_trans hB0.size h4, Below.after hB0 h5⟩, _, h1⟩
  obtain ⟨R, hR⟩ : ∃ R, MadeD Nd true T L k v (tagD true T L true) w = R := ⟨_, rfl⟩
  obtain ⟨R0, hR0⟩ : ∃ R, MadeD Nd true T L k v (tagD true T L true) (w.alloc (.cells #[K k, K v, .pointer L.ptr] 79)) = R := ⟨_, rfl⟩
  rw [hR, hR0] at fin
  rw [hR0] at c1
  rw [hR]
  obtain ⟨pl, hpl⟩ : ∃ p, L.ptr = p := ⟨_, rfl⟩
  obtain ⟨pt, hpt⟩ : ∃ p, T.ptr = p := ⟨_, rfl⟩
  simp only [hpl, hpt] at c1 k0 k1 k2 ⊢
  clear hpt hpl hT hL hN hB0 hR hR0 hV hH0 B0
  go_enter Try.func100, Try.ntmps100
  go_wp2_with fail
  refine c1.out.mono ?_
  intro e w1 h
  obtain ⟨h2, p, rfl⟩ := fin.out _ _ h
  have h3 := Lib.hid h2
  clear h h2 fin c1
  go_wp2
  exact h3.out
set_option maxHeartbeats 4000000 in
theorem overR17 (hN : NodeSays Nd) (hV : RbSays Nd) (w : World) (k v : BitVec 64) (L : AT) (aN : Addr) (y : No) (l r O I : AT) (c : Bool) (hNs : Stand Nd w (.n aN y l r)) (hO : Stand Nd w O) (hI : Stand Nd w I) :
    Calls Try.prog 99 #[.agg #[K k, K v, .pointer L.ptr], .pointer (some aN), .bool c, .pointer O.ptr, .pointer I.ptr] w (MadeD Nd true O I y.k y.v (tagD true O I c) w) := by
  have hB0 : Below w.heap.size w (w.alloc (.cells #[K k, K v, .pointer L.ptr] 79)) := (Below.refl _ w).alloc (Nat.le_refl _) _
  have n1 := (Stand.sides hN (hNs.after hN hB0)).1
  have cK := Lib.hid (hN.key _ _ aN _ n1)
  have cV := Lib.hid (hN.val _ _ aN _ n1)
  have c1 : Hid (Calls Try.prog 12 #[.pointer O.ptr, K y.k, K y.v, .bool c, .pointer I.ptr] _ (MadeD Nd true O I y.k y.v (tagD true O I c) (w.alloc (.cells #[K k, K v, .pointer L.ptr] 79)))) := hV.make _ O I y.k y.v c (hO.after hN hB0) (hI.after hN hB0)
  have fin : Hid (∀ e u, MadeD Nd true O I y.k y.v (tagD true O I c) (w.alloc (.cells #[K k, K v, .pointer L.ptr] 79)) e u → MadeD Nd true O I y.k y.v (tagD true O I c) w e u ∧ ∃ p, e = .returned (.pointer p)) := fun e u ⟨a, x, h1, h2, h3, h4, h5⟩ => ⟨⟨a, x, h1, h2, h3, Nat.le_trans hB0.size h4, Below.after hB0 h5⟩, _, h1⟩
  obtain ⟨R, hR⟩ : ∃ R, MadeD Nd true O I y.k y.v (tagD true O I c) w = R := ⟨_, rfl⟩
  obtain ⟨R0, hR0⟩ : ∃ R, MadeD Nd true O I y.k y.v (tagD true O I c) (w.alloc (.cells #[K k, K v, .pointer L.ptr] 79)) = R := ⟨_, rfl⟩
  rw [hR, hR0] at fin
  rw [hR0] at c1
  rw [hR]
  obtain ⟨po, hpo⟩ : ∃ p, O.ptr = p := ⟨_, rfl⟩
  obtain ⟨pi, hpi⟩ : ∃ p, I.ptr = p := ⟨_, rfl⟩
  rw [hpo, hpi] at c1
  rw [hpo, hpi]
  obtain ⟨ky, hky⟩ : ∃ k, y.k = k := ⟨_, rfl⟩
  obtain ⟨vy, hvy⟩ : ∃ k, y.v = k := ⟨_, rfl⟩
  rw [hky] at cK c1
  rw [hvy] at cV c1
  clear hpo hpi hNs hO hI hN hB0 hR hR0 hV n1 hky hvy
  go_enter Try.func99, Try.ntmps99
  go_wp2_with fail
  refine cK.out.mono ?_
  rintro e w1 ⟨rfl, rfl⟩
  go_wp2_with fail
  refine cV.out.mono ?_
  rintro e w1 ⟨rfl, rfl⟩
  go_wp2_with fail
  refine c1.out.mono ?_
  intro e w1 h
  obtain ⟨h2, p, rfl⟩ := fin.out _ _ h
  have h3 := Lib.hid h2
  clear h h2 fin c1
  go_wp2
  exact h3.out
set_option maxHeartbeats 4000000 in
theorem outerL17 (hN : NodeSays Nd) (w : World) (k v : BitVec 64) (L T : AT) (hT : Stand Nd w T) : Calls Try.prog 102 #[.agg #[K k, K v, .pointer L.ptr], .pointer T.ptr] w fun e w' => e = .returned (.pointer (T.side false).ptr) ∧ Below w.heap.size w w' := by
  have hB0 : Below w.heap.size w (w.alloc (.cells #[K k, K v, .pointer L.ptr] 80)) := (Below.refl _ w).alloc (Nat.le_refl _) _
  have c1 := Lib.hid (right17 hN _ T (hT.after hN hB0))
  have B0 := Lib.hid hB0
  obtain ⟨pt, hpt⟩ : ∃ p, T.ptr = p := ⟨_, rfl⟩
  obtain ⟨ps, hps⟩ : ∃ p, (T.side false).ptr = p := ⟨_, rfl⟩
  rw [hpt, hps] at c1
  rw [hpt, hps]
  clear hpt hps hT hN hB0
  go_enter Try.func102, Try.ntmps102
  go_wp2_with fail
  refine c1.out.mono ?_
  rintro e w1 ⟨rfl, hb⟩
  have b1 := Lib.hid (Below.after B0.out hb)
  clear hb
  go_wp2
  go_ret
  exact ⟨rfl, b1.out⟩
set_option maxHeartbeats 4000000 in
theorem innerL17 (hN : NodeSays Nd) (w : World) (k v : BitVec 64) (L T : AT) (hT : Stand Nd w T) : Calls Try.prog 101 #[.agg #[K k, K v, .pointer L.ptr], .pointer T.ptr] w fun e w' => e = .returned (.pointer (T.side true).ptr) ∧ Below w.heap.size w w' := by
  have hB0 : Below w.heap.size w (w.alloc (.cells #[K k, K v, .pointer L.ptr] 80)) := (Below.refl _ w).alloc (Nat.le_refl _) _
  have c1 := Lib.hid (left17 hN _ T (hT.after hN hB0))
  have B0 := Lib.hid hB0
  obtain ⟨pt, hpt⟩ : ∃ p, T.ptr = p := ⟨_, rfl⟩
  obtain ⟨ps, hps⟩ : ∃ p, (T.side true).ptr = p := ⟨_, rfl⟩
  rw [hpt, hps] at c1
  rw [hpt, hps]
  clear hpt hps hT hN hB0
  go_enter Try.func101, Try.ntmps101
  go_wp2_with fail
  refine c1.out.mono ?_
  rintro e w1 ⟨rfl, hb⟩
  have b1 := Lib.hid (Below.after B0.out hb)
  clear hb
  go_wp2
  go_ret
  exact ⟨rfl, b1.out⟩
set_option maxHeartbeats 4000000 in
theorem putL17 (hN : NodeSays Nd) (hV : RbSays Nd) (w : World) (k v : BitVec 64) (L T : AT) (hT : Stand Nd w T) (hL : Stand Nd w L) : Calls Try.prog 104 #[.agg #[K k, K v, .pointer L.ptr], .pointer T.ptr] w (MadeD Nd false T L k v (tagD false T L true) w) := by
  have hB0 : Below w.heap.size w (w.alloc (.cells #[K k, K v, .pointer L.ptr] 80)) := (Below.refl _ w).alloc (Nat.le_refl _) _
  have hH0 : Has (w.alloc (.cells #[K k, K v, .pointer L.ptr] 80)) w.heap.size 80 #[K k, K v, .pointer L.ptr] := Has.new w _ _
  have k0 := hH0.cell 0
  have k1 := hH0.cell 1
  have k2 := hH0.cell 2
  have c1 : Hid (Calls Try.prog 12 #[.pointer L.ptr, K k, K v, .bool true, .pointer T.ptr] _ (MadeD Nd false T L k v (tagD false T L true) (w.alloc (.cells #[K k, K v, .pointer L.ptr] 80)))) := hV.make _ L T k v true (hL.after hN hB0) (hT.after hN hB0)
  have B0 := Lib.hid hB0
  have fin : Hid (∀ e u, MadeD Nd false T L k v (tagD false T L true) (w.alloc (.cells #[K k, K v, .pointer L.ptr] 80)) e u → MadeD Nd false T L k v (tagD false T L true) w e u ∧ ∃ p, e = .returned (.pointer p)) := fun e u ⟨a, x, h1, h2, h3, h4, h5⟩ => ⟨⟨a, x, h1, h2, h3, Nat.le_trans hB0.size h4, Below.after hB0 h5⟩, _, h1⟩
  obtain ⟨R, hR⟩ : ∃ R, MadeD Nd false T L k v (tagD false T L true) w = R := ⟨_, rfl⟩
  obtain ⟨R0, hR0⟩ : ∃ R, MadeD Nd false T L k v (tagD false T L true) (w.alloc (.cells #[K k, K v, .pointer L.ptr] 80)) = R := ⟨_, rfl⟩
  rw [hR, hR0] at fin
  rw [hR0] at c1
  rw [hR]
  obtain ⟨pl, hpl⟩ : ∃ p, L.ptr = p := ⟨_, rfl⟩
  obtain ⟨pt, hpt⟩ : ∃ p, T.ptr = p := ⟨_, rfl⟩
  simp only [hpl, hpt] at c1 k0 k1 k2 ⊢
  clear hpt hpl hT hL hN hB0 hR hR0 hV hH0 B0
  go_enter Try.func104, Try.ntmps104
  go_wp2_with fail
  refine c1.out.mono ?_
  intro e w1 h
  obtain ⟨h2, p, rfl⟩ := fin.out _ _ h
  have h3 := Lib.hid h2
  clear h h2 fin c1
  go_wp2
  exact h3.out
set_option maxHeartbeats 4000000 in
theorem overL17 (hN : NodeSays Nd) (hV : RbSays Nd) (w : World) (k v : BitVec 64) (L : AT) (aN : Addr) (y : No) (l r O I : AT) (c : Bool) (hNs : Stand Nd w (.n aN y l r)) (hO : Stand Nd w O) (hI : Stand Nd w I) :
    Calls Try.prog 103 #[.agg #[K k, K v, .pointer L.ptr], .pointer (some aN), .bool c, .pointer O.ptr, .pointer I.ptr] w (MadeD Nd false O I y.k y.v (tagD false O I c) w) := by
  have hB0 : Below w.heap.size w (w.alloc (.cells #[K k, K v, .pointer L.ptr] 80)) := (Below.refl _ w).alloc (Nat.le_refl _) _
  have n1 := (Stand.sides hN (hNs.after hN hB0)).1
  have cK := Lib.hid (hN.key _ _ aN _ n1)
  have cV := Lib.hid (hN.val _ _ aN _ n1)
  have c1 : Hid (Calls Try.prog 12 #[.pointer I.ptr, K y.k, K y.v, .bool c, .pointer O.ptr] _ (MadeD Nd false O I y.k y.v (tagD false O I c) (w.alloc (.cells #[K k, K v, .pointer L.ptr] 80)))) := hV.make _ I O y.k y.v c (hI.after hN hB0) (hO.after hN hB0)
  have fin : Hid (∀ e u, MadeD Nd false O I y.k y.v (tagD false O I c) (w.alloc (.cells #[K k, K v, .pointer L.ptr] 80)) e u → MadeD Nd false O I y.k y.v (tagD false O I c) w e u ∧ ∃ p, e = .returned (.pointer p)) := fun e u ⟨a, x, h1, h2, h3, h4, h5⟩ => ⟨⟨a, x, h1, h2, h3, Nat.le_trans hB0.size h4, Below.after hB0 h5⟩, _, h1⟩
  obtain ⟨R, hR⟩ : ∃ R, MadeD Nd false O I y.k y.v (tagD false O I c) w = R := ⟨_, rfl⟩
  obtain ⟨R0, hR0⟩ : ∃ R, MadeD Nd false O I y.k y.v (tagD false O I c) (w.alloc (.cells #[K k, K v, .pointer L.ptr] 80)) = R := ⟨_, rfl⟩
  rw [hR, hR0] at fin
  rw [hR0] at c1
  rw [hR]
  obtain ⟨po, hpo⟩ : ∃ p, O.ptr = p := ⟨_, rfl⟩
  obtain ⟨pi, hpi⟩ : ∃ p, I.ptr = p := ⟨_, rfl⟩
  rw [hpo, hpi] at c1
  rw [hpo, hpi]
  obtain ⟨ky, hky⟩ : ∃ k, y.k = k := ⟨_, rfl⟩
  obtain ⟨vy, hvy⟩ : ∃ k, y.v = k := ⟨_, rfl⟩
  rw [hky] at cK c1
  rw [hvy] at cV c1
  clear hpo hpi hNs hO hI hN hB0 hR hR0 hV n1 hky hvy
  go_enter Try.func103, Try.ntmps103
  go_wp2_with fail
  refine cK.out.mono ?_
  rintro e w1 ⟨rfl, rfl⟩
  go_wp2_with fail
  refine cV.out.mono ?_
  rintro e w1 ⟨rfl, rfl⟩
  go_wp2_with fail
  refine c1.out.mono ?_
  intro e w1 h
  obtain ⟨h2, p, rfl⟩ := fin.out _ _ h
  have h3 := Lib.hid h2
  clear h h2 fin c1
  go_wp2
  exact h3.out
theorem rank17 (hV : RbSays Nd) (w : World) (t : Tr) (p : Option Addr) (h : TreeAt Nd w w.heap.size t p) (h1 : hbR t ≤ 1000) : Calls Try.prog 26 #[.pointer p] w fun e w' => e = .returned (.int .i64 (2 * (hbR t : Int))) ∧ Below w.heap.size w w' :=
  (hV.rank w t p h).mono (by
    rintro e w' ⟨rfl, hb⟩
    refine ⟨?_, hb⟩
    rw [rank_int h1]
    show Ending.returned (Value.int .i64 ((2 * hbR t : Nat) : Int)) = _
    rw [show ((2 * hbR t : Nat) : Int) = 2 * (hbR t : Int) by omega])
set_option maxHeartbeats 4000000 in
theorem most17_any (hN : NodeSays Nd) (hV : RbSays Nd) (w : World) (t u : Tr) (p q : Option Addr) (hl : TreeAt Nd w w.heap.size t p) (hr : TreeAt Nd w w.heap.size u q) (h1 : hbR t ≤ 1000) (h2 : hbR u ≤ 1000) : Calls Try.prog 33 #[.pointer p, .pointer q] w fun e w' => e = .returned (nI (mostR t u)) ∧ Below w.heap.size w w' := by
  have t1 := Lib.hid (rank17 hV w t p hl h1)
  have t2 := Lib.hid (fun W (h : Below w.heap.size w W) => rank17 hV W u q (hr.after hN h) h2)
  unfold mostR
  obtain ⟨P, hP⟩ : ∃ P, hbR t = P := ⟨_, rfl⟩
  obtain ⟨Q, hQ⟩ : ∃ Q, hbR u = Q := ⟨_, rfl⟩
  rw [hP] at t1 h1 ⊢
  rw [hQ] at t2 h2 ⊢
  have hn : ∀ x, nI x = .int .i64 (x : Int) := fun x => rfl
  rw [hn]
  clear hP hQ hl hr hN hn hV
  rcases Nat.lt_or_ge P Q with hPQ | hPQ
  · rw [Nat.max_eq_right (Nat.le_of_lt hPQ), Nat.min_eq_left (Nat.le_of_lt hPQ)]
    obtain ⟨z, hz⟩ : ∃ d, 2 * Q - 2 * P = d := ⟨_, rfl⟩
    rw [hz]
    have e0 : 2 * (Q : Int) - 2 * (P : Int) = (z : Int) := by omega
    have e1 : wrap64 (z : Int) = (z : Int) := by unfold wrap64; omega
    have e2 : wrap64 ((z : Int) + 3) = (z : Int) + 3 := by unfold wrap64; omega
    have e3 : wrap64 (2 * (Q : Int) - 2 * (P : Int)) = (z : Int) := by rw [e0, e1]
    go_enter Try.func33, Try.ntmps33
    go_wp2_with fail
    refine t1.out.mono ?_
    rintro e w1 ⟨rfl, hb⟩
    have b1 := Lib.hid hb
    clear hb t1
    go_wp2_with fail
    refine (t2.out w1 b1.out).mono ?_
    rintro e w2 ⟨rfl, hb⟩
    have b2 := Lib.hid (Below.after b1.out hb)
    clear hb t2 b1
    go_wp2
    all_goals first
      | (exfalso; omega)
      | (go_ret; exact ⟨rfl, b2.out⟩)
      | (obtain rfl : z = 0 := by omega
         go_ret
         exact ⟨rfl, b2.out⟩)
  · rw [Nat.max_eq_left hPQ, Nat.min_eq_right hPQ]
    obtain ⟨z, hz⟩ : ∃ d, 2 * P - 2 * Q = d := ⟨_, rfl⟩
    rw [hz]
    have e0 : 2 * (P : Int) - 2 * (Q : Int) = (z : Int) := by omega
    have e1 : wrap64 (z : Int) = (z : Int) := by unfold wrap64; omega
    have e2 : wrap64 ((z : Int) + 3) = (z : Int) + 3 := by unfold wrap64; omega
    have e3 : wrap64 (2 * (P : Int) - 2 * (Q : Int)) = (z : Int) := by rw [e0, e1]
    go_enter Try.func33, Try.ntmps33
    go_wp2_with fail
    refine t1.out.mono ?_
    rintro e w1 ⟨rfl, hb⟩
    have b1 := Lib.hid hb
    clear hb t1
    go_wp2_with fail
    refine (t2.out w1 b1.out).mono ?_
    rintro e w2 ⟨rfl, hb⟩
    have b2 := Lib.hid (Below.after b1.out hb)
    clear hb t2 b1
    go_wp2
    all_goals first
      | (exfalso; omega)
      | (go_ret; exact ⟨rfl, b2.out⟩)
      | (obtain rfl : z = 0 := by omega
         go_ret
         exact ⟨rfl, b2.out⟩)
/-- what the five methods of a side answer; d: the outer side is the left one -/
structure Side17 (Nd : NdP) (d : Bool) (k v : BitVec 64) (L : AT) (T : TypeId) (ff fp fo fi fv : FuncId) : Prop where
  mf : ∀ nm, nm = "joinery" ++ String.singleton (Char.ofNat 47) ++ "rbjoin.fits" → ∀ W, (method 224 T (.agg #[K k, K v, .pointer L.ptr]) nm).run Try.prog W = .ok (ff, .agg #[K k, K v, .pointer L.ptr]) W
  ef : ∀ args w, (callFunc ff args).run Try.prog w = .ok (.enter ff args) w
  mp : ∀ nm, nm = "joinery" ++ String.singleton (Char.ofNat 47) ++ "rbjoin.put" → ∀ W, (method 224 T (.agg #[K k, K v, .pointer L.ptr]) nm).run Try.prog W = .ok (fp, .agg #[K k, K v, .pointer L.ptr]) W
  ep : ∀ args w, (callFunc fp args).run Try.prog w = .ok (.enter fp args) w
  mo : ∀ nm, nm = "joinery" ++ String.singleton (Char.ofNat 47) ++ "rbjoin.outer" → ∀ W, (method 224 T (.agg #[K k, K v, .pointer L.ptr]) nm).run Try.prog W = .ok (fo, .agg #[K k, K v, .pointer L.ptr]) W
  eo : ∀ args w, (callFunc fo args).run Try.prog w = .ok (.enter fo args) w
  mi : ∀ nm, nm = "joinery" ++ String.singleton (Char.ofNat 47) ++ "rbjoin.inner" → ∀ W, (method 224 T (.agg #[K k, K v, .pointer L.ptr]) nm).run Try.prog W = .ok (fi, .agg #[K k, K v, .pointer L.ptr]) W
  ei : ∀ args w, (callFunc fi args).run Try.prog w = .ok (.enter fi args) w
  mv : ∀ nm, nm = "joinery" ++ String.singleton (Char.ofNat 47) ++ "rbjoin.over" → ∀ W, (method 224 T (.agg #[K k, K v, .pointer L.ptr]) nm).run Try.prog W = .ok (fv, .agg #[K k, K v, .pointer L.ptr]) W
  ev : ∀ args w, (callFunc fv args).run Try.prog w = .ok (.enter fv args) w
  nv : ∀ nm, nm = "joinery" ++ String.singleton (Char.ofNat 47) ++ "rbjoin.over" → ∀ W, (nilAhead 224 T (.agg #[K k, K v, .pointer L.ptr]) nm).run Try.prog W = .ok (some false) W
  fits : ∀ (W : World) (T : AT), Stand Nd W T → Stand Nd W L → Calls Try.prog ff #[.agg #[K k, K v, .pointer L.ptr], .pointer T.ptr] W fun e w' => e = .returned (.bool (fitsR T.tr L.tr)) ∧ Below W.heap.size W w'
  put : ∀ (W : World) (T : AT), Stand Nd W T → Stand Nd W L → Calls Try.prog fp #[.agg #[K k, K v, .pointer L.ptr], .pointer T.ptr] W (MadeD Nd d T L k v (tagD d T L true) W)
  outer : ∀ (W : World) (T : AT), Stand Nd W T → Calls Try.prog fo #[.agg #[K k, K v, .pointer L.ptr], .pointer T.ptr] W fun e w' => e = .returned (.pointer (T.side d).ptr) ∧ Below W.heap.size W w'
  inner : ∀ (W : World) (T : AT), Stand Nd W T → Calls Try.prog fi #[.agg #[K k, K v, .pointer L.ptr], .pointer T.ptr] W fun e w' => e = .returned (.pointer (T.side (!d)).ptr) ∧ Below W.heap.size W w'
  over : ∀ (W : World) (aN : Addr) (y : No) (l r O I : AT) (c : Bool), Stand Nd W (.n aN y l r) → Stand Nd W O → Stand Nd W I →
    Calls Try.prog fv #[.agg #[K k, K v, .pointer L.ptr], .pointer (some aN), .bool c, .pointer O.ptr, .pointer I.ptr] W (MadeD Nd d O I y.k y.v (tagD d O I c) W)
theorem sideR17 (hN : NodeSays Nd) (hV : RbSays Nd) (k v : BitVec 64) (L : AT) : Side17 Nd true k v L 79 96 100 98 97 99 where
  mf := fun nm h W => by
    simp at h
    subst h
    kernel_rfl
  ef := enters_of Try.func96 (by kernel_rfl) rfl
  mp := fun nm h W => by
    simp at h
    subst h
    kernel_rfl
  ep := enters_of Try.func100 (by kernel_rfl) rfl
  mo := fun nm h W => by
    simp at h
    subst h
    kernel_rfl
  eo := enters_of Try.func98 (by kernel_rfl) rfl
  mi := fun nm h W => by
    simp at h
    subst h
    kernel_rfl
  ei := enters_of Try.func97 (by kernel_rfl) rfl
  mv := fun nm h W => by
    simp at h
    subst h
    kernel_rfl
  ev := enters_of Try.func99 (by kernel_rfl) rfl
  nv := fun nm h W => by
    simp at h
    subst h
    kernel_rfl
  fits := fun W T h1 h2 => fits17_any hN hV W k v L T h1 h2
  put := fun W T h1 h2 => putR17 hN hV W k v L T h1 h2
  outer := fun W T h => outerR17 hN W k v L T h
  inner := fun W T h => innerR17 hN W k v L T h
  over := fun W aN y l r O I c h1 h2 h3 => overR17 hN hV W k v L aN y l r O I c h1 h2 h3
theorem sideL17 (hN : NodeSays Nd) (hV : RbSays Nd) (k v : BitVec 64) (L : AT) : Side17 Nd false k v L 80 96 104 102 101 103 where
  mf := fun nm h W => by
    simp at h
    subst h
    kernel_rfl
  ef := enters_of Try.func96 (by kernel_rfl) rfl
  mp := fun nm h W => by
    simp at h
    subst h
    kernel_rfl
  ep := enters_of Try.func104 (by kernel_rfl) rfl
  mo := fun nm h W => by
    simp at h
    subst h
    kernel_rfl
  eo := enters_of Try.func102 (by kernel_rfl) rfl
  mi := fun nm h W => by
    simp at h
    subst h
    kernel_rfl
  ei := enters_of Try.func101 (by kernel_rfl) rfl
  mv := fun nm h W => by
    simp at h
    subst h
    kernel_rfl
  ev := enters_of Try.func103 (by kernel_rfl) rfl
  nv := fun nm h W => by
    simp at h
    subst h
    kernel_rfl
  fits := fun W T h1 h2 => fits17_any hN hV W k v L T h1 h2
  put := fun W T h1 h2 => putL17 hN hV W k v L T h1 h2
  outer := fun W T h => outerL17 hN W k v L T h
  inner := fun W T h => innerL17 hN W k v L T h
  over := fun W aN y l r O I c h1 h2 h3 => overL17 hN hV W k v L aN y l r O I c h1 h2 h3
end Go.Proofs.Ytifhnaelkjfmdab
namespace Go.Proofs.Ytifhnaelkjfmdab
open Go.RowKit Go.Shelf Go.Proofs.Treem Go.Proofs.Cardm
set_option maxRecDepth 100000
variable {Nd : NdP}

/-- what the turn makes of a node N and what is to be inside it, xT over O and I -/
def Turn17 (Nd : NdP) (d : Bool) (base : List Addr) (N : AT) (xT : No) (O I : AT) (w : World) (e : Ending) (w' : World) : Prop :=
  ∃ a z1 U c z3, e = .returned (.pointer (some c)) ∧ (∀ b y l r, N = .n b y l r → z1.k = y.k ∧ z1.v = y.v) ∧ z1.g = tagD d (N.side d) O false ∧ Blk base I U ∧ (z3.k = xT.k ∧ z3.v = xT.v ∧ z3.g = tagD d (AT.mk d a z1 (N.side d) O) U true) ∧
    Stand Nd w' (AT.mk d c z3 (AT.mk d a z1 (N.side d) O) U) ∧ (w.heap.size ≤ a.block ∧ w.heap.size ≤ c.block) ∧ Below w.heap.size w w'
set_option maxHeartbeats 8000000 in
theorem turned17_any (hN : NodeSays Nd) (hV : RbSays Nd) {d : Bool} {k v : BitVec 64} {L : AT} {Ty : TypeId} {ff fp fo fi fv : FuncId} (hd : Side17 Nd d k v L Ty ff fp fo fi fv) (w : World) (base : List Addr) (oB : ∀ a ∈ base, a.block < w.heap.size) (aN : Addr) (y : No) (l r : AT) (aT : Addr) (xT : No) (O I : AT) (hNs : Stand Nd w (.n aN y l r)) (hT : Stand Nd w (AT.mk d aT xT O I)) :
    Calls Try.prog 70 #[.iface Ty (.agg #[K k, K v, .pointer L.ptr]), .pointer (some aN), .pointer (some aT)] w (Turn17 Nd d base (.n aN y l r) xT O I w) := by
  obtain ⟨no, ho⟩ : ∃ nm, nm = "joinery" ++ String.singleton (Char.ofNat 47) ++ "rbjoin.outer" := ⟨_, rfl⟩
  have mo := hd.mo no ho
  have eo := hd.eo
  simp at ho
  subst ho
  obtain ⟨ni, hi⟩ : ∃ nm, nm = "joinery" ++ String.singleton (Char.ofNat 47) ++ "rbjoin.inner" := ⟨_, rfl⟩
  have mi := hd.mi ni hi
  have ei := hd.ei
  simp at hi
  subst hi
  obtain ⟨nv, hv⟩ : ∃ nm, nm = "joinery" ++ String.singleton (Char.ofNat 47) ++ "rbjoin.over" := ⟨_, rfl⟩
  have mv := hd.mv nv hv
  have ev := hd.ev
  have nv := hd.nv nv hv
  simp at hv
  subst hv
  have cN : Hid (∀ W, Stand Nd W (.n aN y l r) → Calls Try.prog fo #[.agg #[K k, K v, .pointer L.ptr], .pointer (some aN)] W fun e w' => e = .returned (.pointer ((AT.n aN y l r).side d).ptr) ∧ Below W.heap.size W w') := fun W h => hd.outer W _ h
  have cO : Hid (∀ W, Stand Nd W (AT.mk d aT xT O I) → Calls Try.prog fo #[.agg #[K k, K v, .pointer L.ptr], .pointer (some aT)] W fun e w' => e = .returned (.pointer O.ptr) ∧ Below W.heap.size W w') := fun W h => by
    have := hd.outer W _ h
    rwa [AT.mk_out] at this
  have cI : Hid (∀ W, Stand Nd W (AT.mk d aT xT O I) → Calls Try.prog fi #[.agg #[K k, K v, .pointer L.ptr], .pointer (some aT)] W fun e w' => e = .returned (.pointer I.ptr) ∧ Below W.heap.size W w') := fun W h => by
    have := hd.inner W _ h
    rwa [AT.mk_in] at this
  have cB : Hid (∀ W, Stand Nd W I → w.heap.size ≤ W.heap.size → Calls Try.prog 14 #[.pointer I.ptr] W fun e w' => ∃ U : AT, e = .returned (.pointer U.ptr) ∧ Stand Nd w' U ∧ Blk base I U ∧ Below W.heap.size W w') := fun W h hw => black17 hN hV W I h base (fun a ha => Nat.lt_of_lt_of_le (oB a ha) hw)
  have c1 : Hid (∀ W, Stand Nd W (.n aN y l r) → Stand Nd W O → Calls Try.prog fv #[.agg #[K k, K v, .pointer L.ptr], .pointer (some aN), .bool false, .pointer ((AT.n aN y l r).side d).ptr, .pointer O.ptr] W (MadeD Nd d ((AT.n aN y l r).side d) O y.k y.v (tagD d ((AT.n aN y l r).side d) O false) W)) := fun W h1 h2 => hd.over W aN y l r _ O false h1 (Stand.side hN d h1) h2
  have c2 : Hid (∀ W a z U, Stand Nd W (AT.mk d aT xT O I) → Stand Nd W (AT.mk d a z ((AT.n aN y l r).side d) O) → Stand Nd W U → Calls Try.prog fv #[.agg #[K k, K v, .pointer L.ptr], .pointer (some aT), .bool true, .pointer (some a), .pointer U.ptr] W (MadeD Nd d (AT.mk d a z ((AT.n aN y l r).side d) O) U xT.k xT.v (tagD d (AT.mk d a z ((AT.n aN y l r).side d) O) U true) W)) := fun W a z U h1 h2 h3 => hd.over W aT xT _ _ _ U true h1 h2 h3
  have fin : Hid (∀ a z1 U c z3 u, (∀ b y' l' r', AT.n aN y l r = .n b y' l' r' → z1.k = y'.k ∧ z1.v = y'.v) → z1.g = tagD d ((AT.n aN y l r).side d) O false → Blk base I U → (z3.k = xT.k ∧ z3.v = xT.v ∧ z3.g = tagD d (AT.mk d a z1 ((AT.n aN y l r).side d) O) U true) → Stand Nd u (AT.mk d c z3 (AT.mk d a z1 ((AT.n aN y l r).side d) O) U) → w.heap.size ≤ a.block → w.heap.size ≤ c.block → Below w.heap.size w u → Turn17 Nd d base (.n aN y l r) xT O I w (.returned (.pointer (some c))) u) :=
    fun a z1 U c z3 u h1 h2 h3 h4 h5 h6 h7 h8 => ⟨a, z1, U, c, z3, rfl, h1, h2, h3, h4, h5, ⟨h6, h7⟩, h8⟩
  have hN' := Lib.hid hN
  have NS := Lib.hid hNs
  have TS := Lib.hid hT
  have OS := Lib.hid (Stand.out hN hT)
  have IS := Lib.hid (Stand.inn hN hT)
  obtain ⟨R, hR⟩ : ∃ R, Turn17 Nd d base (.n aN y l r) xT O I w = R := ⟨_, rfl⟩
  rw [hR] at fin
  rw [hR]
  obtain ⟨po, hpo⟩ : ∃ p, O.ptr = p := ⟨_, rfl⟩
  obtain ⟨pi, hpi⟩ : ∃ p, I.ptr = p := ⟨_, rfl⟩
  obtain ⟨pn, hpn⟩ : ∃ p, ((AT.n aN y l r).side d).ptr = p := ⟨_, rfl⟩
  obtain ⟨pl, hpl⟩ : ∃ p, L.ptr = p := ⟨_, rfl⟩
  rw [hpo] at cO c1
  rw [hpn] at cN c1
  rw [hpi] at cI cB
  simp only [hpl] at cN cO cI c1 c2 mo mi mv nv
  rw [hpl]
  have B0 := Lib.hid (Below.refl w.heap.size w)
  clear hR hd hNs hT hN hV oB hpo hpi hpn hpl
  go_enter Try.func70, Try.ntmps70
  go_wp2_with fail
  refine wp_region_held_drew (S := fun W => Below w.heap.size w W) (by kernel_rfl) (Below.refl _ w).drew (fun hS => ?_)
  refine wpAnyH_take (i := 0) (oi := ?dqr3q0) (v := ?dvr3q0) ?hir3q0 (by kernel_rfl) (by kernel_rfl) (by kernel_rfl) ?hQr3q0 (Or.inl ⟨?hwr3q0, ?hyr3q0⟩) hS ?hrr3q0
  case hir3q0 => simp only [List.getElem?_toArray, List.getElem?_cons_zero]; rfl
  case hQr3q0 => exact fun _ _ _ h => h
  case hwr3q0 => rfl
  case hyr3q0 => (intro w hSw; (try dsimp only at hSw); go_simp; (try with_reducible rfl))
  simp only [Act.put, List.setIfInBounds_toArray, List.set_cons_zero, List.set_cons_succ]
  refine wpAnyH_take (i := 1) (oi := ?dqr3q1) (v := ?dvr3q1) ?hir3q1 (by kernel_rfl) (by kernel_rfl) (by kernel_rfl) ?hQr3q1 (Or.inl ⟨?hwr3q1, ?hyr3q1⟩) hS ?hrr3q1
  case hir3q1 => simp only [List.getElem?_toArray, List.getElem?_cons_succ, List.getElem?_cons_zero]; rfl
  case hQr3q1 => exact fun _ _ _ h => h
  case hwr3q1 => rfl
  case hyr3q1 => (intro w hSw; (try dsimp only at hSw); go_simp; (try with_reducible rfl))
  simp only [Act.put, List.setIfInBounds_toArray, List.set_cons_zero, List.set_cons_succ]
  refine wpAnyH_take (i := 2) (oi := ?dqr3q2) (v := ?dvr3q2) ?hir3q2 (by kernel_rfl) (by kernel_rfl) (by kernel_rfl) ?hQr3q2 (Or.inl ⟨?hwr3q2, ?hyr3q2⟩) hS ?hrr3q2
  case hir3q2 => simp only [List.getElem?_toArray, List.getElem?_cons_succ, List.getElem?_cons_zero]; rfl
  case hQr3q2 => exact fun _ _ _ h => h
  case hwr3q2 => rfl
  case hyr3q2 => (intro w hSw; (try dsimp only at hSw); go_simp; (try with_reducible rfl))
  simp only [Act.put, List.setIfInBounds_toArray, List.set_cons_zero, List.set_cons_succ]
  refine wpAnyH_take (i := 3) (oi := ?dqr3q3) (v := ?dvr3q3) ?hir3q3 (by kernel_rfl) (by kernel_rfl) (by kernel_rfl) ?hQr3q3 (Or.inl ⟨?hwr3q3, ?hyr3q3⟩) hS ?hrr3q3
  case hir3q3 => simp only [List.getElem?_toArray, List.getElem?_cons_succ, List.getElem?_cons_zero]; rfl
  case hQr3q3 => exact fun _ _ _ h => h
  case hwr3q3 => rfl
  case hyr3q3 => (intro w hSw; (try dsimp only at hSw); go_simp; (try with_reducible rfl))
  simp only [Act.put, List.setIfInBounds_toArray, List.set_cons_zero, List.set_cons_succ]
  refine wpAnyH_take (i := 5) (oi := ?dqr3q5) (v := ?dvr3q5) ?hir3q5 (by kernel_rfl) (by kernel_rfl) (by kernel_rfl) ?hQr3q5 (Or.inl ⟨?hwr3q5, ?hyr3q5⟩) hS ?hrr3q5
  case hir3q5 => simp only [List.getElem?_toArray, List.getElem?_cons_succ, List.getElem?_cons_zero]; rfl
  case hQr3q5 => exact fun _ _ _ h => h
  case hwr3q5 => rfl
  case hyr3q5 => (intro w hSw; (try dsimp only at hSw); go_simp; (try with_reducible rfl))
  simp only [Act.put, List.setIfInBounds_toArray, List.set_cons_zero, List.set_cons_succ]
  refine wpAnyH_take (i := 6) (oi := ?dqr3q6) (v := ?dvr3q6) ?hir3q6 (by kernel_rfl) (by kernel_rfl) (by kernel_rfl) ?hQr3q6 (Or.inl ⟨?hwr3q6, ?hyr3q6⟩) hS ?hrr3q6
  case hir3q6 => simp only [List.getElem?_toArray, List.getElem?_cons_succ, List.getElem?_cons_zero]; rfl
  case hQr3q6 => exact fun _ _ _ h => h
  case hwr3q6 => rfl
  case hyr3q6 => (intro w hSw; (try dsimp only at hSw); go_simp; (try with_reducible rfl))
  simp only [Act.put, List.setIfInBounds_toArray, List.set_cons_zero, List.set_cons_succ]
  refine wpAnyH_take (i := 8) (oi := ?dqr3q8) (v := ?dvr3q8) ?hir3q8 (by kernel_rfl) (by kernel_rfl) (by kernel_rfl) ?hQr3q8 (Or.inl ⟨?hwr3q8, ?hyr3q8⟩) hS ?hrr3q8
  case hir3q8 => simp only [List.getElem?_toArray, List.getElem?_cons_succ, List.getElem?_cons_zero]; rfl
  case hQr3q8 => exact fun _ _ _ h => h
  case hwr3q8 => rfl
  case hyr3q8 => (intro w hSw; (try dsimp only at hSw); go_simp; (try with_reducible rfl))
  simp only [Act.put, List.setIfInBounds_toArray, List.set_cons_zero, List.set_cons_succ]
  refine wpAnyH_take (i := 9) (oi := ?dqr3q9) (v := ?dvr3q9) ?hir3q9 (by kernel_rfl) (by kernel_rfl) (by kernel_rfl) ?hQr3q9 (Or.inl ⟨?hwr3q9, ?hyr3q9⟩) hS ?hrr3q9
  case hir3q9 => simp only [List.getElem?_toArray, List.getElem?_cons_succ, List.getElem?_cons_zero]; rfl
  case hQr3q9 => exact fun _ _ _ h => h
  case hwr3q9 => rfl
  case hyr3q9 => (intro w hSw; (try dsimp only at hSw); go_simp; (try with_reducible rfl))
  simp only [Act.put, List.setIfInBounds_toArray, List.set_cons_zero, List.set_cons_succ]
  refine wpAnyH_take (i := 10) (oi := ?dqr3q10) (v := ?dvr3q10) ?hir3q10 (by kernel_rfl) (by kernel_rfl) (by kernel_rfl) ?hQr3q10 (Or.inl ⟨?hwr3q10, ?hyr3q10⟩) hS ?hrr3q10
  case hir3q10 => simp only [List.getElem?_toArray, List.getElem?_cons_succ, List.getElem?_cons_zero]; rfl
  case hQr3q10 => exact fun _ _ _ h => h
  case hwr3q10 => rfl
  case hyr3q10 => (intro w hSw; (try dsimp only at hSw); go_simp; (try with_reducible rfl))
  simp only [Act.put, List.setIfInBounds_toArray, List.set_cons_zero, List.set_cons_succ]
  refine wpAnyH_ready (rs := [4]) (by kernel_rfl) (by simp) ?_
  refine AllReadyH.cons (o := ?dqr3q4) ?hir3q4 (fun K hK => ?_) AllReadyH.nil
  case hir3q4 => simp only [List.getElem?_toArray, List.getElem?_cons_succ, List.getElem?_cons_zero]; rfl
  go_simp
  refine (cN.out _ (NS.out.after hN'.out hS)).mono ?_
  rintro e u1 ⟨rfl, hb1⟩
  have hS2 := (Below.after hS hb1)
  clear hS
  refine hK.out _ _ hS2 (fun hS => ?_)
  clear hS2 hK K
  try simp only [Act.put, List.setIfInBounds_toArray, List.set_cons_zero, List.set_cons_succ]
  refine wpAnyH_ready (rs := [7]) (by kernel_rfl) (by simp) ?_
  refine AllReadyH.cons (o := ?dqr3q7) ?hir3q7 (fun K hK => ?_) AllReadyH.nil
  case hir3q7 => simp only [List.getElem?_toArray, List.getElem?_cons_succ, List.getElem?_cons_zero]; rfl
  go_simp
  refine (cO.out _ (TS.out.after hN'.out hS)).mono ?_
  rintro e u2 ⟨rfl, hb2⟩
  have hS2 := (Below.after hS hb2)
  clear hS
  refine hK.out _ _ hS2 (fun hS => ?_)
  clear hS2 hK K
  try simp only [Act.put, List.setIfInBounds_toArray, List.set_cons_zero, List.set_cons_succ]
  refine wpAnyH_ready (rs := [11]) (by kernel_rfl) (by simp) ?_
  refine AllReadyH.cons (o := ?dqr3q11) ?hir3q11 (fun K hK => ?_) AllReadyH.nil
  case hir3q11 => simp only [List.getElem?_toArray, List.getElem?_cons_succ, List.getElem?_cons_zero]; rfl
  go_simp
  have Z1 := Lib.hid hS.size
  refine (c1.out _ (NS.out.after hN'.out hS) (OS.out.after hN'.out hS)).mono ?_
  rintro e u3 ⟨a, z1, rfl, hx, hs, ha, hb3⟩
  have HX := Lib.hid hx
  have HA := Lib.hid (Nat.le_trans Z1.out ha)
  have HS3 := Lib.hid hs
  clear hx ha hs
  have hS2 := (Below.after hS hb3)
  clear hS
  refine hK.out _ _ hS2 (fun hS => ?_)
  clear hS2 hK K
  try simp only [Act.put, List.setIfInBounds_toArray, List.set_cons_zero, List.set_cons_succ]
  refine wpAnyH_take (i := 12) (oi := ?dqr3q12) (v := ?dvr3q12) ?hir3q12 (by kernel_rfl) (by kernel_rfl) (by kernel_rfl) ?hQr3q12 (Or.inl ⟨?hwr3q12, ?hyr3q12⟩) hS ?hrr3q12
  case hir3q12 => simp only [List.getElem?_toArray, List.getElem?_cons_succ, List.getElem?_cons_zero]; rfl
  case hQr3q12 => exact fun _ _ _ h => h
  case hwr3q12 => rfl
  case hyr3q12 => (intro w hSw; (try dsimp only at hSw); go_simp; (try with_reducible rfl))
  simp only [Act.put, List.setIfInBounds_toArray, List.set_cons_zero, List.set_cons_succ]
  refine wpAnyH_done (by kernel_rfl) ?_ _
  go_wp2_with fail
  have BW := Lib.hid hS
  obtain ⟨V, hVV⟩ : ∃ V, u3 = V := ⟨_, rfl⟩
  subst hVV
  clear hS cN cO c1 hb1 hb2 hb3
  refine wp_region_held_drew (S := fun W => Below u3.heap.size u3 W) (by kernel_rfl) (Below.refl _ u3).drew (fun hS => ?_)
  refine wpAnyH_take (i := 0) (oi := ?dqr4q0) (v := ?dvr4q0) ?hir4q0 (by kernel_rfl) (by kernel_rfl) (by kernel_rfl) ?hQr4q0 (Or.inl ⟨?hwr4q0, ?hyr4q0⟩) hS ?hrr4q0
  case hir4q0 => simp only [List.getElem?_toArray, List.getElem?_cons_zero]; rfl
  case hQr4q0 => exact fun _ _ _ h => h
  case hwr4q0 => rfl
  case hyr4q0 => (intro w hSw; (try dsimp only at hSw); go_simp; (try with_reducible rfl))
  simp only [Act.put, List.setIfInBounds_toArray, List.set_cons_zero, List.set_cons_succ]
  refine wpAnyH_take (i := 1) (oi := ?dqr4q1) (v := ?dvr4q1) ?hir4q1 (by kernel_rfl) (by kernel_rfl) (by kernel_rfl) ?hQr4q1 (Or.inl ⟨?hwr4q1, ?hyr4q1⟩) hS ?hrr4q1
  case hir4q1 => simp only [List.getElem?_toArray, List.getElem?_cons_succ, List.getElem?_cons_zero]; rfl
  case hQr4q1 => exact fun _ _ _ h => h
  case hwr4q1 => rfl
  case hyr4q1 => (intro w hSw; (try dsimp only at hSw); go_simp; (try with_reducible rfl))
  simp only [Act.put, List.setIfInBounds_toArray, List.set_cons_zero, List.set_cons_succ]
  refine wpAnyH_take (i := 2) (oi := ?dqr4q2) (v := ?dvr4q2) ?hir4q2 (by kernel_rfl) (by kernel_rfl) (by kernel_rfl) ?hQr4q2 (Or.inl ⟨?hwr4q2, ?hyr4q2⟩) hS ?hrr4q2
  case hir4q2 => simp only [List.getElem?_toArray, List.getElem?_cons_succ, List.getElem?_cons_zero]; rfl
  case hQr4q2 => exact fun _ _ _ h => h
  case hwr4q2 => rfl
  case hyr4q2 => (intro w hSw; (try dsimp only at hSw); go_simp; (try with_reducible rfl))
  simp only [Act.put, List.setIfInBounds_toArray, List.set_cons_zero, List.set_cons_succ]
  refine wpAnyH_take (i := 3) (oi := ?dqr4q3) (v := ?dvr4q3) ?hir4q3 (by kernel_rfl) (by kernel_rfl) (by kernel_rfl) ?hQr4q3 (Or.inl ⟨?hwr4q3, ?hyr4q3⟩) hS ?hrr4q3
  case hir4q3 => simp only [List.getElem?_toArray, List.getElem?_cons_succ, List.getElem?_cons_zero]; rfl
  case hQr4q3 => exact fun _ _ _ h => h
  case hwr4q3 => rfl
  case hyr4q3 => (intro w hSw; (try dsimp only at hSw); go_simp; (try with_reducible rfl))
  simp only [Act.put, List.setIfInBounds_toArray, List.set_cons_zero, List.set_cons_succ]
  refine wpAnyH_take (i := 4) (oi := ?dqr4q4) (v := ?dvr4q4) ?hir4q4 (by kernel_rfl) (by kernel_rfl) (by kernel_rfl) ?hQr4q4 (Or.inl ⟨?hwr4q4, ?hyr4q4⟩) hS ?hrr4q4
  case hir4q4 => simp only [List.getElem?_toArray, List.getElem?_cons_succ, List.getElem?_cons_zero]; rfl
  case hQr4q4 => exact fun _ _ _ h => h
  case hwr4q4 => rfl
  case hyr4q4 => (intro w hSw; (try dsimp only at hSw); go_simp; (try with_reducible rfl))
  simp only [Act.put, List.setIfInBounds_toArray, List.set_cons_zero, List.set_cons_succ]
  refine wpAnyH_take (i := 7) (oi := ?dqr4q7) (v := ?dvr4q7) ?hir4q7 (by kernel_rfl) (by kernel_rfl) (by kernel_rfl) ?hQr4q7 (Or.inl ⟨?hwr4q7, ?hyr4q7⟩) hS ?hrr4q7
  case hir4q7 => simp only [List.getElem?_toArray, List.getElem?_cons_succ, List.getElem?_cons_zero]; rfl
  case hQr4q7 => exact fun _ _ _ h => h
  case hwr4q7 => rfl
  case hyr4q7 => (intro w hSw; (try dsimp only at hSw); go_simp; (try with_reducible rfl))
  simp only [Act.put, List.setIfInBounds_toArray, List.set_cons_zero, List.set_cons_succ]
  refine wpAnyH_take (i := 8) (oi := ?dqr4q8) (v := ?dvr4q8) ?hir4q8 (by kernel_rfl) (by kernel_rfl) (by kernel_rfl) ?hQr4q8 (Or.inl ⟨?hwr4q8, ?hyr4q8⟩) hS ?hrr4q8
  case hir4q8 => simp only [List.getElem?_toArray, List.getElem?_cons_succ, List.getElem?_cons_zero]; rfl
  case hQr4q8 => exact fun _ _ _ h => h
  case hwr4q8 => rfl
  case hyr4q8 => (intro w hSw; (try dsimp only at hSw); go_simp; (try with_reducible rfl))
  simp only [Act.put, List.setIfInBounds_toArray, List.set_cons_zero, List.set_cons_succ]
  refine wpAnyH_take (i := 9) (oi := ?dqr4q9) (v := ?dvr4q9) ?hir4q9 (by kernel_rfl) (by kernel_rfl) (by kernel_rfl) ?hQr4q9 (Or.inl ⟨?hwr4q9, ?hyr4q9⟩) hS ?hrr4q9
  case hir4q9 => simp only [List.getElem?_toArray, List.getElem?_cons_succ, List.getElem?_cons_zero]; rfl
  case hQr4q9 => exact fun _ _ _ h => h
  case hwr4q9 => rfl
  case hyr4q9 => (intro w hSw; (try dsimp only at hSw); go_simp; (try with_reducible rfl))
  simp only [Act.put, List.setIfInBounds_toArray, List.set_cons_zero, List.set_cons_succ]
  refine wpAnyH_ready (rs := [5]) (by kernel_rfl) (by simp) ?_
  refine AllReadyH.cons (o := ?dqr4q5) ?hir4q5 (fun K hK => ?_) AllReadyH.nil
  case hir4q5 => simp only [List.getElem?_toArray, List.getElem?_cons_succ, List.getElem?_cons_zero]; rfl
  go_simp
  refine (cI.out _ (TS.out.after hN'.out (Below.after BW.out hS))).mono ?_
  rintro e u4 ⟨rfl, hb4⟩
  have hS2 := (Below.after hS hb4)
  clear hS
  refine hK.out _ _ hS2 (fun hS => ?_)
  clear hS2 hK K
  try simp only [Act.put, List.setIfInBounds_toArray, List.set_cons_zero, List.set_cons_succ]
  refine wpAnyH_ready (rs := [6]) (by kernel_rfl) (by simp) ?_
  refine AllReadyH.cons (o := ?dqr4q6) ?hir4q6 (fun K hK => ?_) AllReadyH.nil
  case hir4q6 => simp only [List.getElem?_toArray, List.getElem?_cons_succ, List.getElem?_cons_zero]; rfl
  go_simp
  have Z2 := Lib.hid (Below.after BW.out hS)
  refine (cB.out _ (IS.out.after hN'.out (Below.after BW.out hS)) Z2.out.size).mono ?_
  rintro e u5 ⟨U, rfl, hU, hk, hb5⟩
  have HU := Lib.hid hU
  have HK := Lib.hid hk
  clear hU hk
  obtain ⟨pU, hpU⟩ : ∃ p, U.ptr = p := ⟨_, rfl⟩
  have HPU := Lib.hid hpU
  rw [hpU]
  clear hpU
  have hS2 := (Below.after hS hb5)
  clear hS
  refine hK.out _ _ hS2 (fun hS => ?_)
  clear hS2 hK K
  try simp only [Act.put, List.setIfInBounds_toArray, List.set_cons_zero, List.set_cons_succ]
  refine wpAnyH_ready (rs := [10]) (by kernel_rfl) (by simp) ?_
  refine AllReadyH.cons (o := ?dqr4q10) ?hir4q10 (fun K hK => ?_) AllReadyH.nil
  case hir4q10 => simp only [List.getElem?_toArray, List.getElem?_cons_succ, List.getElem?_cons_zero]; rfl
  go_simp
  have Z3 := Lib.hid (Below.after BW.out hS)
  have c3 := c2.out _ a z1 U (TS.out.after hN'.out (Below.after BW.out hS)) (HS3.out.after hN'.out hS) HU.out
  rw [HPU.out] at c3
  refine c3.mono ?_
  clear c3
  rintro e u6 ⟨c, z3, rfl, hx, hs, ha, hb6⟩
  have HX3 := Lib.hid hx
  have HC := Lib.hid (Nat.le_trans Z3.out.size ha)
  have HS6 := Lib.hid hs
  clear hx ha hs
  have hS2 := (Below.after hS hb6)
  clear hS
  refine hK.out _ _ hS2 (fun hS => ?_)
  clear hS2 hK K
  try simp only [Act.put, List.setIfInBounds_toArray, List.set_cons_zero, List.set_cons_succ]
  refine wpAnyH_take (i := 11) (oi := ?dqr4q11) (v := ?dvr4q11) ?hir4q11 (by kernel_rfl) (by kernel_rfl) (by kernel_rfl) ?hQr4q11 (Or.inl ⟨?hwr4q11, ?hyr4q11⟩) hS ?hrr4q11
  case hir4q11 => simp only [List.getElem?_toArray, List.getElem?_cons_succ, List.getElem?_cons_zero]; rfl
  case hQr4q11 => exact fun _ _ _ h => h
  case hwr4q11 => rfl
  case hyr4q11 => (intro w hSw; (try dsimp only at hSw); go_simp; (try with_reducible rfl))
  simp only [Act.put, List.setIfInBounds_toArray, List.set_cons_zero, List.set_cons_succ]
  refine wpAnyH_done (by kernel_rfl) ?_ _
  go_wp2
  exact fin.out a z1 U c z3 _ (fun b y' l' r' e => by cases e; exact ⟨HX.out.1, HX.out.2.1⟩) HX.out.2.2 HK.out HX3.out HS6.out HA.out HC.out (Below.after BW.out hS)
end Go.Proofs.Ytifhnaelkjfmdab
