/- Package wbjoin, as landed: which turn is asked for. Made by wip/gen/layer19join.py. -/
import Derived.Test.YtfbmpgffekhmhaaJA
import Derived.Test.YtfbmpgffekhmhaaGHeld
import Derived.Shelf.Abstract
import Derived.Laws.EntriesVeiled
import Derived.Deep.RegionHeld3
import Derived.Deep.Cut
import Derived.Deep.RegionWith
import Derived.IntWalk
/- Layer 19, as landed: weights on the way inward, and what may stand in their places. -/
namespace Go.Proofs.Ytfbmpgffekhmhaa
open Go.RowKit Go.Proofs.Treem Go.Proofs.Cardm
variable {Nd : NdP}

/-- what a tree weighs -/
def wt (T : AT) : Nat := T.size + 1
theorem wt_pos (T : AT) : 1 ≤ wt T := Nat.le_add_left ..
theorem wt_mk (d : Bool) (a : Addr) (x : No) (O I : AT) : wt (AT.mk d a x O I) = wt O + wt I := by
  unfold wt; rw [AT.size_mk]; omega
theorem wt_e : wt .e = 1 := rfl
/-- two weights are alike -/
def Lk (a b : Nat) : Prop := 29 * (a + b) ≤ 100 * a ∧ 29 * (a + b) ≤ 100 * b
theorem lk_iff {a b : Nat} (h1 : 1 ≤ a) (h2 : 1 ≤ b) (h3 : a + b ≤ 100000) : likeI (a : Int) (b : Int) = true ↔ Lk a b := by
  rw [like_iff, Lk]; omega
theorem lk_no {a b : Nat} (h1 : 1 ≤ a) (h2 : 1 ≤ b) (h3 : a + b ≤ 100000) : likeI (a : Int) (b : Int) = false ↔ ¬ Lk a b := by
  rw [← lk_iff h1 h2 h3]; cases likeI (a : Int) (b : Int) <;> simp
theorem Lk.turn {a b : Nat} (h : Lk a b) : Lk b a := by unfold Lk at *; omega
theorem lk_tr {L R : AT} (h : L.size + R.size ≤ 10000) : likeT L.tr R.tr = true ↔ Lk (wt L) (wt R) := by
  rw [likeT_iff (by rw [AT.size_tr]; omega) (by rw [AT.size_tr]; omega), AT.size_tr, AT.size_tr, Lk, wt, wt]; omega
theorem may_mk {d : Bool} {a : Addr} {x : No} {O I : AT} (h : O.size + I.size ≤ 10000) : mayW (AT.mk d a x O I).tr = true ↔ x.g = 0#64 ∧ Lk (wt O) (wt I) ∧ mayW O.tr = true ∧ mayW I.tr = true := by
  cases d
  · show mayW (.n I.tr x.k x.v x.g O.tr) = true ↔ _
    rw [mayW_n, lk_tr (by omega)]
    exact ⟨fun ⟨⟨h1, h2⟩, h3, h4⟩ => ⟨h1, h2.turn, h4, h3⟩, fun ⟨h1, h2, h3, h4⟩ => ⟨⟨h1, h2.turn⟩, h4, h3⟩⟩
  · show mayW (.n O.tr x.k x.v x.g I.tr) = true ↔ _
    rw [mayW_n, lk_tr (by omega)]
    exact ⟨fun ⟨⟨h1, h2⟩, h3, h4⟩ => ⟨h1, h2, h3, h4⟩, fun ⟨h1, h2, h3, h4⟩ => ⟨⟨h1, h2⟩, h3, h4⟩⟩
/-- the single turn: o, p, q: the weights of the outer side, of both sides of what came up inside; it came to weigh b more than m -/
theorem once_w {o m b p q : Nat} (h1 : Lk o m) (h2 : 71 * b < 29 * (o + m)) (h3 : Lk p q) (h4 : p + q = m + b) (h5 : ¬ Lk o (p + q)) (h6 : p = 1 ∨ Lk (o + p) q) (h7 : 1 ≤ o ∧ 1 ≤ p ∧ 1 ≤ q ∧ 1 ≤ b ∧ 1 ≤ m) : Lk o p ∧ Lk (o + p) q := by
  unfold Lk at *
  have h8 : 71 * o < 29 * (p + q) := by omega
  rcases h6 with rfl | h6
  · refine ⟨⟨?_, ?_⟩, ?_, ?_⟩ <;> omega
  · refine ⟨⟨?_, ?_⟩, h6⟩ <;> omega
/-- the double turn: s, t: the weights of both sides of the outer side of what came up inside -/
theorem twice_w {o m b s t q : Nat} (h1 : Lk o m) (h2 : 71 * b < 29 * (o + m)) (h3 : Lk (s + t) q) (h4 : s + t + q = m + b) (h5 : ¬ Lk o (s + t + q)) (h6 : ¬ Lk (o + (s + t)) q) (h8 : Lk s t) (h7 : 1 ≤ o ∧ 1 ≤ s ∧ 1 ≤ t ∧ 1 ≤ q ∧ 1 ≤ b ∧ 1 ≤ m) : Lk o s ∧ Lk t q ∧ Lk (o + s) (t + q) := by
  unfold Lk at *
  have h9 : 71 * o < 29 * (s + t + q) := by omega
  have h10 : 71 * q < 29 * (o + (s + t)) := by omega
  have h11 : 71 * m + 71 * b < 100 * m + 29 * o := by omega
  have h12 : 29 * m ≤ 71 * o := by omega
  clear h2 h5 h6 h1
  refine ⟨⟨?_, ?_⟩, ⟨?_, ?_⟩, ?_, ?_⟩ <;> omega
/-- two to some power -/
theorem log_up {a b m : Nat} (h1 : 1 ≤ a) (h : 2 ^ m * a ≤ b) : Nat.log2 a + m ≤ Nat.log2 b := by
  have h2 : 2 ^ (Nat.log2 a) ≤ a := Nat.log2_self_le (by omega)
  have h3 : 2 ^ (Nat.log2 a + m) ≤ b := by
    rw [Nat.pow_add, Nat.mul_comm]
    exact Nat.le_trans (Nat.mul_le_mul_left _ h2) h
  have h4 : b ≠ 0 := by
    have := Nat.pow_pos (n := Nat.log2 a + m) (show 0 < 2 by decide)
    omega
  exact (Nat.le_log2 h4).2 h3
theorem Way.mayW {d : Bool} {H : AT} (hH : mayW H.tr = true) (hs : H.size ≤ 1000) : ∀ {ps : List AT} {T : AT}, Way d H ps T → Treem.mayW T.tr = true
  | [], T, w => by
    obtain rfl : T = H := w
    exact hH
  | N :: ps, T, ⟨⟨a, x, O, e⟩, k⟩ => by
    have h1 := k.mayW hH hs
    have h2 := k.size
    rw [e] at h1 h2
    rw [AT.size_mk] at h2
    exact ((may_mk (by omega)).1 h1).2.2.2
/-- both sides of a node on the way -/
theorem Way.like {d : Bool} {H : AT} (hH : Treem.mayW H.tr = true) (hs : H.size ≤ 1000) {ps : List AT} {a : Addr} {x : No} {O I : AT} (w : Way d H ps (AT.mk d a x O I)) : Lk (wt O) (wt I) := by
  have h2 := w.size
  rw [AT.size_mk] at h2
  exact ((may_mk (by omega)).1 (w.mayW hH hs)).2.1
/-- all that is above is much heavier than the lighter tree, and what is there is not much lighter -/
theorem Way.heavy {d : Bool} {H : AT} (hH : Treem.mayW H.tr = true) (hs : H.size ≤ 1000) {b : Nat} (hb : b ≤ wt H) : ∀ {ps : List AT} {T : AT}, Way d H ps T → (∀ N ∈ ps, ¬ Lk (wt N) b) → 29 * b ≤ 71 * wt T ∧ ∀ N ∈ ps, 71 * b < 29 * wt N
  | [], T, w, _ => by
    obtain rfl : T = H := w
    exact ⟨by omega, fun N hN => absurd hN List.not_mem_nil⟩
  | N :: ps, T, ⟨⟨a, x, O, e⟩, k⟩, hn => by
    obtain ⟨h1, h2⟩ := k.heavy hH hs hb (fun M hM => hn M (List.mem_cons_of_mem _ hM))
    have h3 := hn N (List.mem_cons_self ..)
    have h4 : 71 * b < 29 * wt N := by unfold Lk at h3; omega
    refine ⟨?_, fun M hM => ?_⟩
    · have h5 : Lk (wt O) (wt T) := Way.like (d := d) hH hs (e ▸ k)
      have h6 : wt N = wt O + wt T := by rw [e, wt_mk]
      unfold Lk at h5
      omega
    · rcases List.mem_cons.1 hM with rfl | hM
      · exact h4
      · exact h2 M hM
/-- where the way ends there is one that is alike -/
theorem Way.ends {d : Bool} {H : AT} (hH : Treem.mayW H.tr = true) (hs : H.size ≤ 1000) {b : Nat} (hb : b ≤ wt H) (h1 : 1 ≤ b) {ps : List AT} {T : AT} (w : Way d H ps T) (hn : ∀ N ∈ ps, ¬ Lk (wt N) b) (hT : T = .e ∨ Lk (wt T) b) : Lk (wt T) b := by
  rcases hT with rfl | h
  · have := (w.heavy hH hs hb hn).1
    rw [wt_e] at this ⊢
    unfold Lk; omega
  · exact h
/-- how the weights grow on the way outward -/
theorem Way.grow {d : Bool} {H : AT} (hH : Treem.mayW H.tr = true) (hs : H.size ≤ 1000) : ∀ {ps : List AT} {T : AT}, Way d H ps T → 2 ^ (ps.length / 3) * wt T ≤ wt H
  | [], T, w => by
    obtain rfl : T = H := w
    simp
  | [N1], T, ⟨⟨a1, x1, O1, e1⟩, k1⟩ => by
    obtain rfl : N1 = H := k1
    have : wt N1 = wt O1 + wt T := by rw [e1, wt_mk]
    simp; omega
  | [N1, N2], T, ⟨⟨a1, x1, O1, e1⟩, ⟨a2, x2, O2, e2⟩, k2⟩ => by
    obtain rfl : N2 = H := k2
    have : wt N1 = wt O1 + wt T := by rw [e1, wt_mk]
    have : wt N2 = wt O2 + wt N1 := by rw [e2, wt_mk]
    simp; omega
  | N1 :: N2 :: N3 :: ps, T, ⟨⟨a1, x1, O1, e1⟩, ⟨a2, x2, O2, e2⟩, ⟨a3, x3, O3, e3⟩, k⟩ => by
    have h0 := Way.grow hH hs k
    have k2 : Way d H (N3 :: ps) N2 := ⟨⟨a3, x3, O3, e3⟩, k⟩
    have k1 : Way d H (N2 :: N3 :: ps) N1 := ⟨⟨a2, x2, O2, e2⟩, k2⟩
    have l3 : Lk (wt O3) (wt N2) := Way.like (d := d) hH hs (e3 ▸ k)
    have l2 : Lk (wt O2) (wt N1) := Way.like (d := d) hH hs (e2 ▸ k2)
    have l1 : Lk (wt O1) (wt T) := Way.like (d := d) hH hs (e1 ▸ k1)
    have w1 : wt N1 = wt O1 + wt T := by rw [e1, wt_mk]
    have w2 : wt N2 = wt O2 + wt N1 := by rw [e2, wt_mk]
    have w3 : wt N3 = wt O3 + wt N2 := by rw [e3, wt_mk]
    have h1 : 2 * wt T ≤ wt N3 := by unfold Lk at l1 l2 l3; omega
    have e : (N1 :: N2 :: N3 :: ps).length / 3 = ps.length / 3 + 1 := by simp only [List.length_cons]; omega
    rw [e, Nat.pow_succ, Nat.mul_assoc]
    exact Nat.le_trans (Nat.mul_le_mul_left _ h1) h0
/-- how far the way goes -/
theorem Way.far {d : Bool} {H : AT} (hH : Treem.mayW H.tr = true) (hs : H.size ≤ 1000) {b : Nat} (hb : 1 ≤ b) : ∀ {ps : List AT} {T : AT}, Way d H ps T → (∀ N ∈ ps, 71 * b < 29 * wt N) → ps.length ≤ 3 * (Nat.log2 (wt H) - Nat.log2 b)
  | [], _, _, _ => by simp
  | N :: ps, T, ⟨_, k⟩, hn => by
    have h1 := hn N (List.mem_cons_self ..)
    have h2 := k.grow hH hs
    have h3 : 2 ^ (ps.length / 3 + 1) * b ≤ wt H := by
      rw [Nat.pow_succ, Nat.mul_assoc]
      exact Nat.le_trans (Nat.mul_le_mul_left _ (by omega)) h2
    have h4 := log_up hb h3
    rw [List.length_cons]; omega
/-- what stands in the place of M: a tree that may be, of M's pairs, the pair, and those of the lighter tree -/
structure Rep19 (d : Bool) (H L : AT) (k v : BitVec 64) (base : List Addr) (ps : List AT) (M T : AT) (n : Nat) : Prop where
  way : Way d H ps M
  root : ∃ a x O I, T = AT.mk d a x O I ∧ a ∉ base
  may : mayW T.tr = true
  size : T.size = M.size + L.size + 1
  pairs : prD d T.tr = prD d M.tr ++ (k, v) :: prD d L.tr
  few : freshS base T ≤ 2 * n + 1
/-- the beginning -/
theorem Rep19.start {d : Bool} {H L : AT} {k v : BitVec 64} {base : List Addr} {ps : List AT} {M : AT} {a : Addr} {x : No} (hH : mayW H.tr = true) (hL : mayW L.tr = true) (hs : H.size ≤ 1000) (hl : L.size ≤ 1000) (hw : Way d H ps M) (hk : Lk (wt M) (wt L)) (hx : x.k = k ∧ x.v = v ∧ x.g = 0#64) (ha : a ∉ base)
    (oH : ∀ b ∈ H.addrs, b ∈ base) (oL : ∀ b ∈ L.addrs, b ∈ base) : Rep19 d H L k v base ps M (AT.mk d a x M L) 0 := by
  have h1 := hw.size
  refine ⟨hw, ⟨a, x, M, L, rfl, ha⟩, (may_mk (by omega)).2 ⟨hx.2.2, hk, hw.mayW hH hs, hL⟩, by rw [AT.size_mk]; omega, ?_, ?_⟩
  · rw [prD_mk, hx.1, hx.2.1]
  · rw [freshS_mk, freshS_old (J := M) (fun b hb => oH b (hw.old.1 b hb)), freshS_old oL, if_neg ha]; omega
/-- a node on the way, of another inner side -/
theorem Rep19.with_ {d : Bool} {H L : AT} {k v : BitVec 64} {base : List Addr} {N : AT} {ps : List AT} {M T : AT} {n : Nat} (hH : mayW H.tr = true) (hs : H.size ≤ 1000) (hl : L.size ≤ 1000) (r : Rep19 d H L k v base (N :: ps) M T n) (ht : Lk (wt (N.side d)) (wt T)) {a : Addr} {x : No} (hx : ∀ b y l r, N = .n b y l r → x.k = y.k ∧ x.v = y.v) (hg : x.g = 0#64) (ha : a ∉ base) (oH : ∀ b ∈ H.addrs, b ∈ base) :
    Rep19 d H L k v base ps N (AT.mk d a x (N.side d) T) (n + 1) := by
  obtain ⟨hw, -, hm, hz, hp, hf⟩ := r
  obtain ⟨⟨aN, xN, ON, eN⟩, kN⟩ := hw
  have oN : ∀ b ∈ ON.addrs, b ∈ base := fun b hb => oH b (kN.old.1 b (eN ▸ AT.mem_mk.2 (.inr (.inl hb))))
  have h1 := kN.size
  have h2 := kN.mayW hH hs
  subst eN
  rw [AT.mk_out] at ht ⊢
  rw [AT.size_mk] at h1
  have h3 := (may_mk (by omega)).1 h2
  refine ⟨kN, ⟨a, x, ON, T, rfl, ha⟩, (may_mk (by omega)).2 ⟨hg, ht, h3.2.2.1, hm⟩, by rw [AT.size_mk, AT.size_mk]; omega, ?_, ?_⟩
  · obtain ⟨e1, e2⟩ := hx aN xN _ _ rfl
    rw [prD_mk, prD_mk, hp, e1, e2]; simp
  · rw [freshS_mk, freshS_old oN, if_neg ha]; omega
/-- the single turn -/
theorem Rep19.once {d : Bool} {H L : AT} {k v : BitVec 64} {base : List Addr} {N : AT} {ps : List AT} {M O I : AT} {aT : Addr} {xT : No} {n : Nat} (hH : mayW H.tr = true) (hs : H.size ≤ 1000) (hl : L.size ≤ 1000) (hb : 71 * wt L < 29 * wt N) (r : Rep19 d H L k v base (N :: ps) M (AT.mk d aT xT O I) n)
    (ht : ¬ Lk (wt (N.side d)) (wt (AT.mk d aT xT O I))) (hm : O = .e ∨ Lk (wt (N.side d) + wt O) (wt I)) {a b : Addr} {x y : No} (hx : ∀ b' y' l r, N = .n b' y' l r → x.k = y'.k ∧ x.v = y'.v) (hg : x.g = 0#64) (hy : y.k = xT.k ∧ y.v = xT.v ∧ y.g = 0#64) (hab : a ∉ base ∧ b ∉ base) (oH : ∀ b ∈ H.addrs, b ∈ base) :
    Rep19 d H L k v base ps N (AT.mk d b y (AT.mk d a x (N.side d) O) I) (n + 1) := by
  obtain ⟨hw, ⟨aT', xT', O', I', eT, haT⟩, hmT, hz, hp, hf⟩ := r
  obtain rfl : aT = aT' := by cases d <;> (injection eT)
  clear eT
  obtain ⟨⟨aN, xN, ON, eN⟩, kN⟩ := hw
  have oN : ∀ b ∈ ON.addrs, b ∈ base := fun b hb => oH b (kN.old.1 b (eN ▸ AT.mem_mk.2 (.inr (.inl hb))))
  have h1 := kN.size
  have h2 := kN.mayW hH hs
  subst eN
  rw [AT.mk_out] at ht hm ⊢
  rw [AT.size_mk] at h1 hz
  rw [wt_mk] at hb ht
  have h3 := (may_mk (by omega)).1 h2
  have h4 := (may_mk (by omega)).1 hmT
  have hm' : wt O = 1 ∨ Lk (wt ON + wt O) (wt I) := hm.imp (fun e => by rw [e]; rfl) id
  obtain ⟨k1, k2⟩ := once_w (b := wt L) h3.2.1 hb h4.2.1 (by unfold wt; omega) ht hm' ⟨wt_pos _, wt_pos _, wt_pos _, wt_pos _, wt_pos _⟩
  rw [← wt_mk d a x] at k2
  refine ⟨kN, ⟨b, y, _, I, rfl, hab.2⟩, (may_mk (by rw [AT.size_mk]; omega)).2 ⟨hy.2.2, k2, (may_mk (by omega)).2 ⟨hg, k1, h3.2.2.1, h4.2.2.1⟩, h4.2.2.2⟩, by rw [AT.size_mk, AT.size_mk, AT.size_mk]; omega, ?_, ?_⟩
  · obtain ⟨e1, e2⟩ := hx aN xN _ _ rfl
    rw [prD_mk] at hp
    rw [prD_mk, prD_mk, prD_mk, e1, e2, hy.1, hy.2.1]
    simp only [List.append_assoc, List.cons_append]
    rw [hp]
  · rw [freshS_mk, if_neg haT] at hf
    rw [freshS_mk, freshS_mk, freshS_old oN, if_neg hab.1, if_neg hab.2]
    omega
/-- the double turn -/
theorem Rep19.twice {d : Bool} {H L : AT} {k v : BitVec 64} {base : List Addr} {N : AT} {ps : List AT} {M P Q I : AT} {aT aM : Addr} {xT xM : No} {n : Nat} (hH : mayW H.tr = true) (hs : H.size ≤ 1000) (hl : L.size ≤ 1000) (hb : 71 * wt L < 29 * wt N) (r : Rep19 d H L k v base (N :: ps) M (AT.mk d aT xT (AT.mk d aM xM P Q) I) n)
    (ht : ¬ Lk (wt (N.side d)) (wt (AT.mk d aT xT (AT.mk d aM xM P Q) I))) (hm : ¬ Lk (wt (N.side d) + wt (AT.mk d aM xM P Q)) (wt I)) {a b e : Addr} {x y z : No} (hx : ∀ b' y' l r, N = .n b' y' l r → x.k = y'.k ∧ x.v = y'.v) (hg : x.g = 0#64) (hz' : z.k = xT.k ∧ z.v = xT.v ∧ z.g = 0#64) (hy : y.k = xM.k ∧ y.v = xM.v ∧ y.g = 0#64)
    (hab : a ∉ base ∧ b ∉ base ∧ e ∉ base) (oH : ∀ b ∈ H.addrs, b ∈ base) :
    Rep19 d H L k v base ps N (AT.mk d b y (AT.mk d a x (N.side d) P) (AT.mk d e z Q I)) (n + 1) := by
  obtain ⟨hw, ⟨aT', xT', O', I', eT, haT⟩, hmT, hz, hp, hf⟩ := r
  obtain rfl : aT = aT' := by cases d <;> (injection eT)
  clear eT
  obtain ⟨⟨aN, xN, ON, eN⟩, kN⟩ := hw
  have oN : ∀ b ∈ ON.addrs, b ∈ base := fun b hb => oH b (kN.old.1 b (eN ▸ AT.mem_mk.2 (.inr (.inl hb))))
  have h1 := kN.size
  have h2 := kN.mayW hH hs
  subst eN
  rw [AT.mk_out] at ht hm ⊢
  rw [AT.size_mk] at h1
  rw [AT.size_mk, AT.size_mk] at hz
  rw [wt_mk] at hb
  rw [wt_mk, wt_mk] at ht
  rw [wt_mk] at hm
  have h3 := (may_mk (by omega)).1 h2
  have h4 := (may_mk (by rw [AT.size_mk]; omega)).1 hmT
  have h5 := (may_mk (by omega)).1 h4.2.2.1
  have h6 := h4.2.1
  rw [wt_mk] at h6
  obtain ⟨k1, k2, k3⟩ := twice_w (b := wt L) h3.2.1 hb h6 (by unfold wt; omega) ht hm h5.2.1 ⟨wt_pos _, wt_pos _, wt_pos _, wt_pos _, wt_pos _, wt_pos _⟩
  rw [← wt_mk d a x, ← wt_mk d e z] at k3
  refine ⟨kN, ⟨b, y, _, _, rfl, hab.2.1⟩, (may_mk (by rw [AT.size_mk, AT.size_mk]; omega)).2 ⟨hy.2.2, k3, (may_mk (by omega)).2 ⟨hg, k1, h3.2.2.1, h5.2.2.1⟩, (may_mk (by omega)).2 ⟨hz'.2.2, k2, h5.2.2.2, h4.2.2.2⟩⟩, by rw [AT.size_mk, AT.size_mk, AT.size_mk, AT.size_mk]; omega, ?_, ?_⟩
  · obtain ⟨e1, e2⟩ := hx aN xN _ _ rfl
    rw [prD_mk, prD_mk] at hp
    rw [prD_mk, prD_mk, prD_mk, prD_mk, e1, e2, hy.1, hy.2.1, hz'.1, hz'.2.1]
    simp only [List.append_assoc, List.cons_append] at hp ⊢
    rw [hp]
  · rw [freshS_mk, freshS_mk, if_neg haT] at hf
    rw [freshS_mk, freshS_mk, freshS_mk, freshS_old oN, if_neg hab.1, if_neg hab.2.1, if_neg hab.2.2]
    have : freshS base P + freshS base Q ≤ freshS base P + (if aM ∈ base then 0 else 1) + freshS base Q := by omega
    omega
/-- what comes of it -/
structure Join19 (d : Bool) (H L : AT) (k v : BitVec 64) (base : List Addr) (J : AT) : Prop where
  may : mayW J.tr = true
  pairs : prD d J.tr = prD d H.tr ++ (k, v) :: prD d L.tr
  new : 1 ≤ newC J.addrs base
  few : newC J.addrs base ≤ 6 * (rankN H.tr.size - rankN L.tr.size) + 1
/-- the end -/
theorem Rep19.done {d : Bool} {H L : AT} {k v : BitVec 64} {base : List Addr} {M T : AT} {n : Nat} (hn : n ≤ 3 * (Nat.log2 (wt H) - Nat.log2 (wt L))) (r : Rep19 d H L k v base [] M T n) : Join19 d H L k v base T := by
  obtain ⟨hw, ⟨a, x, O, I, e, ha⟩, hm, hz, hp, hf⟩ := r
  obtain rfl : M = H := hw
  refine ⟨hm, hp, ?_, ?_⟩
  · rw [e]; exact new_root ha _ _ _
  · have := new_le_S base T
    unfold rankN
    rw [AT.size_tr, AT.size_tr]
    unfold wt at hn
    omega
end Go.Proofs.Ytfbmpgffekhmhaa
/- A tree's sides, by a flag: what the getters answer of a tree that stands there. -/
namespace Go.Proofs.Ytfbmpgffekhmhaa
open Go.RowKit Go.Proofs.Treem Go.Proofs.Cardm
set_option maxRecDepth 100000
variable {Nd : NdP}

theorem left_side (hN : NodeSays Nd) (W : World) (T : AT) (h : Stand Nd W T) : Calls Try.prog 44 #[.pointer T.ptr] W fun e w' => e = .returned (.pointer (T.side true).ptr) ∧ Below W.heap.size W w' := by
  cases T with
  | e => exact (hN.left0 W).mono (by rintro e w' ⟨rfl, hb⟩; exact ⟨rfl, hb⟩)
  | n a x l r =>
    obtain ⟨h1, h2, -⟩ := Stand.sides hN h
    exact (hN.left W _ a _ h1).mono (by rintro e w' ⟨rfl, rfl⟩; exact ⟨by rw [h2]; rfl, Below.refl _ _⟩)
theorem right_side (hN : NodeSays Nd) (W : World) (T : AT) (h : Stand Nd W T) : Calls Try.prog 45 #[.pointer T.ptr] W fun e w' => e = .returned (.pointer (T.side false).ptr) ∧ Below W.heap.size W w' := by
  cases T with
  | e => exact (hN.right0 W).mono (by rintro e w' ⟨rfl, hb⟩; exact ⟨rfl, hb⟩)
  | n a x l r =>
    obtain ⟨h1, -, h2, -⟩ := Stand.sides hN h
    exact (hN.right W _ a _ h1).mono (by rintro e w' ⟨rfl, rfl⟩; exact ⟨by rw [h2]; rfl, Below.refl _ _⟩)
theorem Stand.part {W : World} {N : AT} (hN : NodeSays Nd) (d : Bool) (h : Stand Nd W N) : Stand Nd W (N.side d) := by
  cases N with
  | e => exact Stand.none_ W
  | n a x l r =>
    obtain ⟨-, -, -, h4, h5⟩ := Stand.sides hN h
    cases d
    · exact h5
    · exact h4
end Go.Proofs.Ytfbmpgffekhmhaa
/- Package wbjoin, as landed: which side is which, both sides of a node, a node over both; Most. -/
namespace Go.Proofs.Ytfbmpgffekhmhaa
open Go.RowKit Go.Shelf Go.Proofs.Treem Go.Proofs.Cardm
set_option maxRecDepth 100000
variable {Nd : NdP}

/-- which side is outward, by its number -/
def sV (d : Bool) : Value := .int .i64 (if d then 0 else 1)
theorem other19_any (w : World) (d : Bool) : Calls Try.prog 64 #[sV d] w fun e w' => e = .returned (sV (!d)) ∧ w = w' := by
  cases d
  all_goals
    simp only [sV]
    go_enter Try.func64, Try.ntmps64
    go_wp2
    go_ret
    exact ⟨rfl, rfl⟩
set_option maxHeartbeats 8000000 in
theorem of19_any (hN : NodeSays Nd) (w : World) (d : Bool) (T : AT) (h : Stand Nd w T) : Calls Try.prog 62 #[sV d, .pointer T.ptr] w fun e w' => e = .returned (.tuple #[.pointer (T.side d).ptr, .pointer (T.side (!d)).ptr]) ∧ Below w.heap.size w w' := by
  have c1 := Lib.hid (left_side hN w T h)
  have c2 := Lib.hid (fun W (hb : Below w.heap.size w W) => right_side hN W T (h.after hN hb))
  have cO := Lib.hid (fun W => other19_any W d)
  obtain ⟨p, hp⟩ : ∃ p, T.ptr = p := ⟨_, rfl⟩
  obtain ⟨pl, hpl⟩ : ∃ p, (T.side true).ptr = p := ⟨_, rfl⟩
  obtain ⟨pr, hpr⟩ : ∃ p, (T.side false).ptr = p := ⟨_, rfl⟩
  rw [hp, hpl] at c1
  rw [hp, hpr] at c2
  rw [hp]
  cases d
  · show Calls _ _ _ _ fun e w' => e = .returned (.tuple #[.pointer (T.side false).ptr, .pointer (T.side true).ptr]) ∧ _
    rw [hpl, hpr]
    simp only [sV, Bool.not_false, Bool.false_eq_true, if_true, if_false] at cO ⊢
    clear hp hpl hpr h hN
    go_enter Try.func62, Try.ntmps62
    go_wp2_with fail
    refine c1.out.mono ?_
    rintro e w1 ⟨rfl, hb⟩
    have b1 := Lib.hid hb
    clear hb c1
    go_wp2_with fail
    refine (c2.out w1 b1.out).mono ?_
    rintro e w2 ⟨rfl, hb⟩
    have b2 := Lib.hid (Below.after b1.out hb)
    clear hb c2 b1
    obtain ⟨w3, hw3⟩ : ∃ W, w2.alloc (.cells #[.pointer pl, .pointer pr] 96) = W := ⟨_, rfl⟩
    obtain ⟨g3, hg3⟩ : ∃ g, w2.heap.size = g := ⟨_, rfl⟩
    have hh : Has w3 g3 96 #[.pointer pl, .pointer pr] := hg3 ▸ hw3 ▸ Has.new w2 _ _
    have k0 : w3.cell? ⟨g3, 0, none⟩ = some (.pointer pl) := hh.cell 0
    have k1 : w3.cell? ⟨g3, 1, none⟩ = some (.pointer pr) := hh.cell 1
    have b3 : Hid (Below w.heap.size w w3) := Below.after b2.out (hw3 ▸ (Below.refl _ w2).alloc (Nat.le_refl _) _)
    have HW3 := Lib.hid hw3
    have HG3 := Lib.hid hg3
    clear hh hw3 hg3 b2
    go_upto_region 2 with (fail)
    rw [HW3.out, HG3.out]
    go_region_with ((go_at_call 64; refine (cO.out _).mono ?_; rintro e u1 ⟨rfl, rfl⟩))
    all_goals
      go_wp2
      exact bodyPost_ret (results_tmp2 rfl _ _ _) rfl ⟨rfl, b3.out.drew⟩
  · show Calls _ _ _ _ fun e w' => e = .returned (.tuple #[.pointer (T.side true).ptr, .pointer (T.side false).ptr]) ∧ _
    rw [hpl, hpr]
    simp only [sV, Bool.not_true, Bool.false_eq_true, if_true, if_false] at cO ⊢
    clear hp hpl hpr h hN
    go_enter Try.func62, Try.ntmps62
    go_wp2_with fail
    refine c1.out.mono ?_
    rintro e w1 ⟨rfl, hb⟩
    have b1 := Lib.hid hb
    clear hb c1
    go_wp2_with fail
    refine (c2.out w1 b1.out).mono ?_
    rintro e w2 ⟨rfl, hb⟩
    have b2 := Lib.hid (Below.after b1.out hb)
    clear hb c2 b1
    obtain ⟨w3, hw3⟩ : ∃ W, w2.alloc (.cells #[.pointer pl, .pointer pr] 96) = W := ⟨_, rfl⟩
    obtain ⟨g3, hg3⟩ : ∃ g, w2.heap.size = g := ⟨_, rfl⟩
    have hh : Has w3 g3 96 #[.pointer pl, .pointer pr] := hg3 ▸ hw3 ▸ Has.new w2 _ _
    have k0 : w3.cell? ⟨g3, 0, none⟩ = some (.pointer pl) := hh.cell 0
    have k1 : w3.cell? ⟨g3, 1, none⟩ = some (.pointer pr) := hh.cell 1
    have b3 : Hid (Below w.heap.size w w3) := Below.after b2.out (hw3 ▸ (Below.refl _ w2).alloc (Nat.le_refl _) _)
    have HW3 := Lib.hid hw3
    have HG3 := Lib.hid hg3
    clear hh hw3 hg3 b2
    go_upto_region 2 with (fail)
    rw [HW3.out, HG3.out]
    go_region_with ((go_at_call 64; refine (cO.out _).mono ?_; rintro e u1 ⟨rfl, rfl⟩))
    all_goals
      go_wp2
      exact bodyPost_ret (results_tmp2 rfl _ _ _) rfl ⟨rfl, b3.out.drew⟩
set_option maxHeartbeats 8000000 in
theorem made19_any (hN : NodeSays Nd) (hV : WbSays Nd) (w : World) (d : Bool) (O I : AT) (k v : BitVec 64) (hO : Stand Nd w O) (hI : Stand Nd w I) : Calls Try.prog 51 #[sV d, .pointer O.ptr, K k, K v, .pointer I.ptr] w (MadeD Nd d O I k v 0#64 w) := by
  have cO := Lib.hid (fun W => other19_any W d)
  obtain ⟨po, hpo⟩ : ∃ p, O.ptr = p := ⟨_, rfl⟩
  obtain ⟨pi, hpi⟩ : ∃ p, I.ptr = p := ⟨_, rfl⟩
  cases d
  · have cM := Lib.hid (fun W (hb : Below w.heap.size w W) => hV.make W I O k v (hI.after hN hb) (hO.after hN hb))
    rw [hpo, hpi] at cM
    rw [hpo, hpi]
    simp only [sV, Bool.not_false, Bool.false_eq_true, if_true, if_false] at cO ⊢
    obtain ⟨Z, hZ⟩ : ∃ Z, MadeD Nd false O I k v 0#64 w = Z := ⟨_, rfl⟩
    have fin : Hid (∀ W, Below w.heap.size w W → ∀ e w', Made13 Nd I O k v 0#64 W e w' → Z e w') := fun W hb e w' h => by
      obtain ⟨a, x, e1, hx, hs, ha, hb2⟩ := h
      exact hZ ▸ ⟨a, x, e1, hx, hs, Nat.le_trans hb.size ha, Below.after hb hb2⟩
    rw [hZ]
    obtain ⟨w3, hw3⟩ : ∃ W, w.alloc (.cells #[.pointer pi, .pointer po] 96) = W := ⟨_, rfl⟩
    obtain ⟨g3, hg3⟩ : ∃ g, w.heap.size = g := ⟨_, rfl⟩
    have hh : Has w3.drew g3 96 #[.pointer pi, .pointer po] := hg3 ▸ hw3 ▸ Has.new w _ _
    have k0 : w3.drew.cell? ⟨g3, 0, none⟩ = some (.pointer pi) := hh.cell 0
    have k1 : w3.drew.cell? ⟨g3, 1, none⟩ = some (.pointer po) := hh.cell 1
    have b3 : Hid (Below w.heap.size w w3.drew) := (hw3 ▸ (Below.refl _ w).alloc (Nat.le_refl _) _ : Below w.heap.size w w3).drew
    have HW3 := Lib.hid hw3
    have HG3 := Lib.hid hg3
    clear hV hN hO hI hpo hpi hh hw3 hg3 hZ
    go_enter Try.func51, Try.ntmps51
    go_upto_region 2 with (fail)
    go_region_with ((go_at_call 64; refine (cO.out _).mono ?_; rintro e u1 ⟨rfl, rfl⟩))
    rw [HW3.out, HG3.out]
    go_wp2_with fail
    refine (cM.out _ b3.out).mono ?_
    rintro e w4 h
    have h' := Lib.hid (fin.out _ b3.out _ _ h)
    obtain ⟨a, x, rfl, -⟩ := h
    go_wp2
    exact h'.out
  · have cM := Lib.hid (fun W (hb : Below w.heap.size w W) => hV.make W O I k v (hO.after hN hb) (hI.after hN hb))
    rw [hpo, hpi] at cM
    rw [hpo, hpi]
    simp only [sV, Bool.not_true, Bool.false_eq_true, if_true, if_false] at cO ⊢
    obtain ⟨Z, hZ⟩ : ∃ Z, MadeD Nd true O I k v 0#64 w = Z := ⟨_, rfl⟩
    have fin : Hid (∀ W, Below w.heap.size w W → ∀ e w', Made13 Nd O I k v 0#64 W e w' → Z e w') := fun W hb e w' h => by
      obtain ⟨a, x, e1, hx, hs, ha, hb2⟩ := h
      exact hZ ▸ ⟨a, x, e1, hx, hs, Nat.le_trans hb.size ha, Below.after hb hb2⟩
    rw [hZ]
    obtain ⟨w3, hw3⟩ : ∃ W, w.alloc (.cells #[.pointer po, .pointer pi] 96) = W := ⟨_, rfl⟩
    obtain ⟨g3, hg3⟩ : ∃ g, w.heap.size = g := ⟨_, rfl⟩
    have hh : Has w3.drew g3 96 #[.pointer po, .pointer pi] := hg3 ▸ hw3 ▸ Has.new w _ _
    have k0 : w3.drew.cell? ⟨g3, 0, none⟩ = some (.pointer po) := hh.cell 0
    have k1 : w3.drew.cell? ⟨g3, 1, none⟩ = some (.pointer pi) := hh.cell 1
    have b3 : Hid (Below w.heap.size w w3.drew) := (hw3 ▸ (Below.refl _ w).alloc (Nat.le_refl _) _ : Below w.heap.size w w3).drew
    have HW3 := Lib.hid hw3
    have HG3 := Lib.hid hg3
    clear hV hN hO hI hpo hpi hh hw3 hg3 hZ
    go_enter Try.func51, Try.ntmps51
    go_upto_region 2 with (fail)
    go_region_with ((go_at_call 64; refine (cO.out _).mono ?_; rintro e u1 ⟨rfl, rfl⟩))
    rw [HW3.out, HG3.out]
    go_wp2_with fail
    refine (cM.out _ b3.out).mono ?_
    rintro e w4 h
    have h' := Lib.hid (fin.out _ b3.out _ _ h)
    obtain ⟨a, x, rfl, -⟩ := h
    go_wp2
    exact h'.out
/-- what 'with' makes of a node and a new inner side -/
def With19 (Nd : NdP) (d : Bool) (N T : AT) (w : World) (e : Ending) (w' : World) : Prop := ∃ a x, e = .returned (.pointer (some a)) ∧ (∀ b y l r, N = .n b y l r → x.k = y.k ∧ x.v = y.v) ∧ x.g = 0#64 ∧ Stand Nd w' (AT.mk d a x (N.side d) T) ∧ w.heap.size ≤ a.block ∧ Below w.heap.size w w'
set_option maxHeartbeats 8000000 in
/-- a node of another one's pair -/
theorem over19_any (hN : NodeSays Nd) (hV : WbSays Nd) (w : World) (d : Bool) (aN : Addr) (y : No) (l r O I : AT) (h : Stand Nd w (.n aN y l r)) (hO : Stand Nd w O) (hI : Stand Nd w I) : Calls Try.prog 63 #[sV d, .pointer (some aN), .pointer O.ptr, .pointer I.ptr] w (MadeD Nd d O I y.k y.v 0#64 w) := by
  have cK := Lib.hid (hN.key w _ aN _ (Stand.sides hN h).1)
  have cV := Lib.hid (hN.val w _ aN _ (Stand.sides hN h).1)
  have cM := Lib.hid (made19_any hN hV w d O I y.k y.v hO hI)
  obtain ⟨Z, hZ⟩ : ∃ Z, MadeD Nd d O I y.k y.v 0#64 w = Z := ⟨_, rfl⟩
  have fin : Hid (∀ e w', MadeD Nd d O I y.k y.v 0#64 w e w' → Z e w') := fun e w' h => hZ ▸ h
  obtain ⟨po, hpo⟩ : ∃ p, O.ptr = p := ⟨_, rfl⟩
  obtain ⟨pi, hpi⟩ : ∃ p, I.ptr = p := ⟨_, rfl⟩
  obtain ⟨sd, hsd⟩ : ∃ p, sV d = p := ⟨_, rfl⟩
  rw [hpo, hpi, hsd] at cM
  rw [hZ, hpo, hpi, hsd]
  clear hN hV hO hI h hpo hpi hsd hZ
  go_enter Try.func63, Try.ntmps63
  go_wp2_with fail
  refine cK.out.mono ?_
  rintro e w1 ⟨rfl, rfl⟩
  go_wp2_with fail
  refine cV.out.mono ?_
  rintro e w1 ⟨rfl, rfl⟩
  go_wp2_with fail
  refine cM.out.mono ?_
  rintro e w4 h
  have h' := Lib.hid (fin.out _ _ h)
  obtain ⟨a, x, rfl, -⟩ := h
  go_wp2
  exact h'.out
set_option maxHeartbeats 8000000 in
theorem with19_any (hN : NodeSays Nd) (hV : WbSays Nd) (w : World) (d : Bool) (aN : Addr) (y : No) (l r T : AT) (h : Stand Nd w (.n aN y l r)) (hT : Stand Nd w T) : Calls Try.prog 47 #[sV d, .pointer (some aN), .pointer T.ptr] w (With19 Nd d (.n aN y l r) T w) := by
  have cF := Lib.hid (of19_any hN w d (.n aN y l r) h)
  have cV := Lib.hid (fun W (hb : Below w.heap.size w W) => over19_any hN hV W d aN y l r ((AT.n aN y l r).side d) T (h.after hN hb) ((h.part hN d).after hN hb) (hT.after hN hb))
  have fin : Hid (∀ W, Below w.heap.size w W → ∀ e w', MadeD Nd d ((AT.n aN y l r).side d) T y.k y.v 0#64 W e w' → With19 Nd d (.n aN y l r) T w e w') := fun W hb e w' h => by
    obtain ⟨a, x, e1, hx, hs, ha, hb2⟩ := h
    exact ⟨a, x, e1, fun b y' l' r' e => by cases e; exact ⟨hx.1, hx.2.1⟩, hx.2.2, hs, Nat.le_trans hb.size ha, Below.after hb hb2⟩
  obtain ⟨Z, hZ⟩ : ∃ Z, With19 Nd d (.n aN y l r) T w = Z := ⟨_, rfl⟩
  rw [show (AT.n aN y l r).ptr = some aN from rfl] at cF
  obtain ⟨po, hpo⟩ : ∃ p, ((AT.n aN y l r).side d).ptr = p := ⟨_, rfl⟩
  obtain ⟨pi, hpi⟩ : ∃ p, ((AT.n aN y l r).side (!d)).ptr = p := ⟨_, rfl⟩
  obtain ⟨pt, hpt⟩ : ∃ p, T.ptr = p := ⟨_, rfl⟩
  obtain ⟨sd, hsd⟩ : ∃ p, sV d = p := ⟨_, rfl⟩
  rw [hpo, hpi, hsd] at cF
  rw [hpo, hpt, hsd] at cV
  rw [hZ] at fin ⊢
  rw [hpt, hsd]
  clear hN hV hT h hpo hpi hsd hpt hZ
  go_enter Try.func47, Try.ntmps47
  go_wp2_with fail
  refine cF.out.mono ?_
  rintro e w1 ⟨rfl, hb⟩
  have b1 := Lib.hid hb
  clear hb cF
  go_wp2_with fail
  refine (cV.out w1 b1.out).mono ?_
  rintro e w4 h
  have h' := Lib.hid (fin.out _ b1.out _ _ h)
  obtain ⟨a, x, rfl, -⟩ := h
  go_wp2
  exact h'.out
end Go.Proofs.Ytfbmpgffekhmhaa
/- Package wbjoin, as landed: the two turns; Most. Made by wip/gen/layer19join.py. -/
namespace Go.Proofs.Ytfbmpgffekhmhaa
open Go.RowKit Go.Shelf Go.Proofs.Treem Go.Proofs.Cardm
set_option maxRecDepth 100000
variable {Nd : NdP}

set_option maxHeartbeats 4000000 in
theorem most19_any (hN : NodeSays Nd) (hV : WbSays Nd) (w : World) (t u : Tr) (p q : Option Addr) (hl : TreeAt Nd w w.heap.size t p) (hr : TreeAt Nd w w.heap.size u q) (h1 : t.size ≤ 5000) (h2 : u.size ≤ 5000) : Calls Try.prog 15 #[.pointer p, .pointer q] w fun e w' => e = .returned (nI (mostW t u)) ∧ Below w.heap.size w w' := by
  have t1 := Lib.hid (hV.rank w t p hl h1)
  have t2 := Lib.hid (fun W (h : Below w.heap.size w W) => hV.rank W u q (hr.after hN h) h2)
  have k1 := rank_few h1
  have k2 := rank_few h2
  unfold mostW
  obtain ⟨P, hP⟩ : ∃ P, rankN t.size = P := ⟨_, rfl⟩
  obtain ⟨Q, hQ⟩ : ∃ Q, rankN u.size = Q := ⟨_, rfl⟩
  rw [hP] at t1 k1 ⊢
  rw [hQ] at t2 k2 ⊢
  have hn : ∀ x, nI x = .int .i64 (x : Int) := fun x => rfl
  rw [hn] at t1 t2
  clear hP hQ hl hr hN hV h1 h2 hn
  rcases Nat.lt_or_ge P Q with hPQ | hPQ
  · rw [Nat.max_eq_right (Nat.le_of_lt hPQ), Nat.min_eq_left (Nat.le_of_lt hPQ)]
    obtain ⟨d, hd⟩ : ∃ d, 6 * (Q - P) + 1 = d := ⟨_, rfl⟩
    rw [hd]
    go_enter Try.func15, Try.ntmps15
    go_wp2_with fail
    refine t1.out.mono ?_
    rintro e w1 ⟨rfl, hb⟩
    have b1 := Lib.hid hb
    clear hb t1
    go_wp2_with fail
    refine (t2.out w1 b1.out).mono ?_
    rintro e w2 ⟨rfl, hb⟩
    have b2 := Lib.hid (Below.after b1.out hb)
    clear hb t2 b1
    go_wp2
    all_goals first
      | (exfalso; omega)
      | (go_ret; exact ⟨rfl, b2.out⟩)
      | (go_ret; exact ⟨by simp [nI]; omega, b2.out⟩)
  · rw [Nat.max_eq_left hPQ, Nat.min_eq_right hPQ]
    obtain ⟨d, hd⟩ : ∃ d, 6 * (P - Q) + 1 = d := ⟨_, rfl⟩
    rw [hd]
    go_enter Try.func15, Try.ntmps15
    go_wp2_with fail
    refine t1.out.mono ?_
    rintro e w1 ⟨rfl, hb⟩
    have b1 := Lib.hid hb
    clear hb t1
    go_wp2_with fail
    refine (t2.out w1 b1.out).mono ?_
    rintro e w2 ⟨rfl, hb⟩
    have b2 := Lib.hid (Below.after b1.out hb)
    clear hb t2 b1
    go_wp2
    all_goals first
      | (exfalso; omega)
      | (go_ret; exact ⟨rfl, b2.out⟩)
      | (go_ret; exact ⟨by simp [nI]; omega, b2.out⟩)
/-- what the single turn makes -/
def Once19 (Nd : NdP) (d : Bool) (N : AT) (xT : No) (O I : AT) (w : World) (e : Ending) (w' : World) : Prop := ∃ a x b y, e = .returned (.pointer (some b)) ∧ (∀ b' y' l r, N = .n b' y' l r → x.k = y'.k ∧ x.v = y'.v) ∧ x.g = 0#64 ∧ (y.k = xT.k ∧ y.v = xT.v ∧ y.g = 0#64) ∧ Stand Nd w' (AT.mk d b y (AT.mk d a x (N.side d) O) I) ∧ w.heap.size ≤ a.block ∧ w.heap.size ≤ b.block ∧ Below w.heap.size w w'
set_option maxHeartbeats 8000000 in
theorem once19_any (hN : NodeSays Nd) (hV : WbSays Nd) (w : World) (d : Bool) (aN : Addr) (y : No) (l r : AT) (aT : Addr) (xT : No) (O I : AT) (h : Stand Nd w (.n aN y l r)) (hT : Stand Nd w (AT.mk d aT xT O I)) : Calls Try.prog 48 #[sV d, .pointer (some aN), .pointer (some aT)] w (Once19 Nd d (.n aN y l r) xT O I w) := by
  have cF := Lib.hid (of19_any hN w d (AT.mk d aT xT O I) hT)
  rw [AT.mk_out, AT.mk_in, AT.mk_ptr] at cF
  have cW := Lib.hid (fun W (hb : Below w.heap.size w W) => with19_any hN hV W d aN y l r O (h.after hN hb) ((hT.out hN).after hN hb))
  have cV := Lib.hid (fun W U (hb : Below w.heap.size w W) (hU : Stand Nd W U) => over19_any hN hV W d aT xT _ _ U I (hT.after hN hb) hU ((hT.inn hN).after hN hb))
  have fin : Hid (∀ W1 a x W, Below w.heap.size w W1 → Below W1.heap.size W1 W → (∀ b' y' l' r', AT.n aN y l r = .n b' y' l' r' → x.k = y'.k ∧ x.v = y'.v) → x.g = 0#64 → W1.heap.size ≤ a.block → ∀ e w', MadeD Nd d (AT.mk d a x ((AT.n aN y l r).side d) O) I xT.k xT.v 0#64 W e w' → Once19 Nd d (.n aN y l r) xT O I w e w') := fun W1 a x W hb1 hb hx hg ha e w' h => by
    obtain ⟨b, z, e1, hz, hs, hb2, hb3⟩ := h
    have hb0 := Below.after hb1 hb
    exact ⟨a, x, b, z, e1, hx, hg, hz, hs, Nat.le_trans hb1.size ha, Nat.le_trans hb0.size hb2, Below.after hb0 hb3⟩
  obtain ⟨Z, hZ⟩ : ∃ Z, Once19 Nd d (.n aN y l r) xT O I w = Z := ⟨_, rfl⟩
  obtain ⟨po, hpo⟩ : ∃ p, O.ptr = p := ⟨_, rfl⟩
  obtain ⟨pi, hpi⟩ : ∃ p, I.ptr = p := ⟨_, rfl⟩
  obtain ⟨sd, hsd⟩ : ∃ p, sV d = p := ⟨_, rfl⟩
  rw [hpo, hpi, hsd] at cF
  rw [hpo, hsd] at cW
  rw [hpi, hsd] at cV
  rw [hZ] at fin ⊢
  rw [hsd]
  clear hN hV hT h hpo hpi hsd hZ
  go_enter Try.func48, Try.ntmps48
  go_wp2_with fail
  refine cF.out.mono ?_
  rintro e w1 ⟨rfl, hb⟩
  have b1 := Lib.hid hb
  clear hb cF
  go_wp2_with fail
  refine (cW.out w1 b1.out).mono ?_
  rintro e w2 ⟨a, x, rfl, hx, hg, hs, ha, hb⟩
  have b2 := Lib.hid hb
  have c3 := Lib.hid (cV.out w2 (AT.mk d a x ((AT.n aN y l r).side d) O) (Below.after b1.out hb) hs)
  rw [AT.mk_ptr] at c3
  have f3 := Lib.hid (fin.out w1 a x w2 b1.out hb hx hg ha)
  clear hx hg hs ha hb cW cV fin
  go_wp2_with fail
  refine c3.out.mono ?_
  rintro e w4 h
  have h' := Lib.hid (f3.out _ _ h)
  obtain ⟨b, z, rfl, -⟩ := h
  go_wp2
  exact h'.out
/-- what the double turn makes -/
def Twice19 (Nd : NdP) (d : Bool) (N : AT) (xT xM : No) (P Q I : AT) (w : World) (e : Ending) (w' : World) : Prop := ∃ a x b y c z, e = .returned (.pointer (some b)) ∧ (∀ b' y' l r, N = .n b' y' l r → x.k = y'.k ∧ x.v = y'.v) ∧ x.g = 0#64 ∧ (z.k = xT.k ∧ z.v = xT.v ∧ z.g = 0#64) ∧ (y.k = xM.k ∧ y.v = xM.v ∧ y.g = 0#64) ∧ Stand Nd w' (AT.mk d b y (AT.mk d a x (N.side d) P) (AT.mk d c z Q I)) ∧ w.heap.size ≤ a.block ∧ w.heap.size ≤ b.block ∧ w.heap.size ≤ c.block ∧ Below w.heap.size w w'
set_option maxHeartbeats 8000000 in
theorem twice19_any (hN : NodeSays Nd) (hV : WbSays Nd) (w : World) (d : Bool) (aN : Addr) (y : No) (l r : AT) (aT : Addr) (xT : No) (aM : Addr) (xM : No) (P Q I : AT) (h : Stand Nd w (.n aN y l r)) (hT : Stand Nd w (AT.mk d aT xT (AT.mk d aM xM P Q) I)) : Calls Try.prog 49 #[sV d, .pointer (some aN), .pointer (some aT)] w (Twice19 Nd d (.n aN y l r) xT xM P Q I w) := by
  have cF := Lib.hid (of19_any hN w d (AT.mk d aT xT (AT.mk d aM xM P Q) I) hT)
  rw [AT.mk_out, AT.mk_in, AT.mk_ptr, AT.mk_ptr] at cF
  have hM := hT.out hN
  have cG := Lib.hid (fun W (hb : Below w.heap.size w W) => of19_any hN W d (AT.mk d aM xM P Q) (hM.after hN hb))
  rw [AT.mk_out, AT.mk_in, AT.mk_ptr] at cG
  have cW := Lib.hid (fun W (hb : Below w.heap.size w W) => with19_any hN hV W d aN y l r P (h.after hN hb) ((hM.out hN).after hN hb))
  have cV := Lib.hid (fun W (hb : Below w.heap.size w W) => over19_any hN hV W d aT xT _ _ Q I (hT.after hN hb) ((hM.inn hN).after hN hb) ((hT.inn hN).after hN hb))
  have cU := Lib.hid (fun W X Y (hb : Below w.heap.size w W) (hX : Stand Nd W X) (hY : Stand Nd W Y) => over19_any hN hV W d aM xM _ _ X Y (hM.after hN hb) hX hY)
  have kept : Hid (∀ W W' X, Stand Nd W X → Below W.heap.size W W' → Stand Nd W' X) := fun W W' X hX hb => hX.after hN hb
  have fin : Hid (∀ W1 a x W c z W3, Below w.heap.size w W1 → Below W1.heap.size W1 W → (∀ b' y' l' r', AT.n aN y l r = .n b' y' l' r' → x.k = y'.k ∧ x.v = y'.v) → x.g = 0#64 → W1.heap.size ≤ a.block → (z.k = xT.k ∧ z.v = xT.v ∧ z.g = 0#64) → W.heap.size ≤ c.block → Below W.heap.size W W3 → ∀ e w', MadeD Nd d (AT.mk d a x ((AT.n aN y l r).side d) P) (AT.mk d c z Q I) xM.k xM.v 0#64 W3 e w' → Twice19 Nd d (.n aN y l r) xT xM P Q I w e w') := fun W1 a x W c z W3 hb1 hb hx hg ha hz hc hb3 e w' h => by
    obtain ⟨b, u, e1, hu, hs, hb2, hb4⟩ := h
    have hb0 := Below.after hb1 hb
    have hb5 := Below.after hb0 hb3
    exact ⟨a, x, b, u, c, z, e1, hx, hg, hz, hu, hs, Nat.le_trans hb1.size ha, Nat.le_trans hb5.size hb2, Nat.le_trans hb0.size hc, Below.after hb5 hb4⟩
  obtain ⟨Z, hZ⟩ : ∃ Z, Twice19 Nd d (.n aN y l r) xT xM P Q I w = Z := ⟨_, rfl⟩
  obtain ⟨pp, hpp⟩ : ∃ p, P.ptr = p := ⟨_, rfl⟩
  obtain ⟨pq, hpq⟩ : ∃ p, Q.ptr = p := ⟨_, rfl⟩
  obtain ⟨pi, hpi⟩ : ∃ p, I.ptr = p := ⟨_, rfl⟩
  obtain ⟨sd, hsd⟩ : ∃ p, sV d = p := ⟨_, rfl⟩
  rw [hpi, hsd] at cF
  rw [hpp, hpq, hsd] at cG
  rw [hpp, hsd] at cW
  rw [hpq, hpi, hsd] at cV
  simp only [hsd] at cU
  rw [hZ] at fin ⊢
  rw [hsd]
  clear hN hV hT hM h hpp hpq hpi hsd hZ
  go_enter Try.func49, Try.ntmps49
  go_wp2_with fail
  refine cF.out.mono ?_
  rintro e w0 ⟨rfl, hb⟩
  have b0 := Lib.hid hb
  clear hb cF
  go_wp2_with fail
  refine (cG.out w0 b0.out).mono ?_
  rintro e w1 ⟨rfl, hb⟩
  have b1 := Lib.hid (Below.after b0.out hb)
  clear hb cG
  go_wp2_with fail
  refine (cW.out w1 b1.out).mono ?_
  rintro e w2 ⟨a, x, rfl, hx, hg, hs, ha, hb⟩
  have b2 := Lib.hid (Below.after b1.out hb)
  have HX := Lib.hid hs
  have f2 := Lib.hid (fun c z W3 => fin.out w1 a x w2 c z W3 b1.out hb hx hg ha)
  clear hx hg hs ha hb cW fin
  go_wp2_with fail
  refine (cV.out w2 b2.out).mono ?_
  rintro e w3 ⟨c, z, rfl, hz, hs, hc, hb⟩
  have c3 := Lib.hid (cU.out w3 (AT.mk d a x ((AT.n aN y l r).side d) P) (AT.mk d c z Q I) (Below.after b2.out hb) (kept.out _ _ _ HX.out hb) hs)
  rw [AT.mk_ptr, AT.mk_ptr] at c3
  have f3 := Lib.hid (f2.out c z w3 hz hc hb)
  clear hz hc hs hb cV cU f2 kept
  go_wp2_with fail
  refine c3.out.mono ?_
  rintro e w4 h
  have h' := Lib.hid (f3.out _ _ h)
  obtain ⟨b, u, rfl, -⟩ := h
  go_wp2
  exact h'.out
end Go.Proofs.Ytfbmpgffekhmhaa
namespace Go.Proofs.Ytfbmpgffekhmhaa
open Go.RowKit Go.Shelf Go.Proofs.Treem Go.Proofs.Cardm
set_option maxRecDepth 100000
variable {Nd : NdP}

theorem weight19 (hV : WbSays Nd) (W : World) (T : AT) (h : Stand Nd W T) (hs : T.size ≤ 5000) : Calls Try.prog 28 #[.pointer T.ptr] W fun e w' => e = .returned (.int .i64 (wt T : Int)) ∧ Below W.heap.size W w' :=
  (hV.weight W T.tr T.ptr h.tree (by rw [AT.size_tr]; exact hs)).mono (by rintro e w' ⟨rfl, hb⟩; exact ⟨by rw [AT.size_tr]; rfl, hb⟩)
theorem like19 (hV : WbSays Nd) (W : World) (a b : Nat) (h1 : a ≤ 20000) (h2 : b ≤ 20000) : Calls Try.prog 59 #[.int .i64 (a : Int), .int .i64 (b : Int)] W fun e w' => e = .returned (.bool (likeI (a : Int) (b : Int))) ∧ Below W.heap.size W w' :=
  hV.like W a b (by omega) (by omega) (by omega) (by omega)
/-- what is asked for: nothing, the single turn, the double one -/
def Ask19 (d : Bool) (N O I : AT) (q : Nat) : Prop :=
  (q = 0 ∧ Lk (wt (N.side d)) (wt O + wt I)) ∨ (q = 1 ∧ ¬ Lk (wt (N.side d)) (wt O + wt I) ∧ (O = .e ∨ Lk (wt (N.side d) + wt O) (wt I))) ∨ (q = 2 ∧ ¬ Lk (wt (N.side d)) (wt O + wt I) ∧ (∃ aM xM P Q, O = AT.mk d aM xM P Q) ∧ ¬ Lk (wt (N.side d) + wt O) (wt I))
set_option maxHeartbeats 8000000 in
theorem ask0 (hN : NodeSays Nd) (hV : WbSays Nd) (w : World) (d : Bool) (aN : Addr) (y : No) (l r : AT) (aT : Addr) (xT : No) (O I : AT) (h : Stand Nd w (.n aN y l r)) (hT : Stand Nd w (AT.mk d aT xT O I)) (s1 : (AT.n aN y l r).size ≤ 4000) (s2 : (AT.mk d aT xT O I).size ≤ 4000) (h1 : likeI ((wt ((AT.n aN y l r).side d) : Nat) : Int) ((wt O + wt I : Nat) : Int) = true) :
    Calls Try.prog 53 #[sV d, .pointer (some aN), .pointer (some aT)] w fun e w' => e = .returned (.int .i64 0) ∧ Below w.heap.size w w' := by
  have cF := Lib.hid (of19_any hN w d (.n aN y l r) h)
  rw [show (AT.n aN y l r).ptr = some aN from rfl] at cF
  have cG := Lib.hid (fun W (hb : Below w.heap.size w W) => of19_any hN W d (AT.mk d aT xT O I) (hT.after hN hb))
  rw [AT.mk_out, AT.mk_in, AT.mk_ptr] at cG
  have z1 := AT.size_side d aN y l r
  have z2 := AT.size_mk d aT xT O I
  have hS := h.part hN d
  have c1 := Lib.hid (fun W (hb : Below w.heap.size w W) => weight19 hV W _ (hS.after hN hb) (by omega))
  have c2 := Lib.hid (fun W (hb : Below w.heap.size w W) => weight19 hV W _ (hT.after hN hb) (by omega))
  rw [AT.mk_ptr, wt_mk] at c2
  have n1 : wt ((AT.n aN y l r).side d) ≤ 4001 := by unfold wt; omega
  have n2 : wt O + wt I ≤ 4002 := by unfold wt; omega
  have k1 := Lib.hid (fun W => like19 hV W (wt ((AT.n aN y l r).side d)) (wt O + wt I) (by omega) (by omega))
  rw [h1] at k1
  obtain ⟨po, hpo⟩ : ∃ p, ((AT.n aN y l r).side d).ptr = p := ⟨_, rfl⟩
  obtain ⟨pn, hpn⟩ : ∃ p, ((AT.n aN y l r).side (!d)).ptr = p := ⟨_, rfl⟩
  obtain ⟨pi, hpi⟩ : ∃ p, I.ptr = p := ⟨_, rfl⟩
  obtain ⟨wo, hwo⟩ : ∃ x, wt ((AT.n aN y l r).side d) = x := ⟨_, rfl⟩
  obtain ⟨wm, hwm⟩ : ∃ x, wt O = x := ⟨_, rfl⟩
  obtain ⟨wi, hwi⟩ : ∃ x, wt I = x := ⟨_, rfl⟩
  obtain ⟨ws, hws⟩ : ∃ x, wm + wi = x := ⟨_, rfl⟩
  obtain ⟨sd, hsd⟩ : ∃ p, sV d = p := ⟨_, rfl⟩
  rw [hpo, hpn, hsd] at cF
  rw [hpi, hsd] at cG
  rw [hpo, hwo] at c1
  rw [hwm, hwi, hws] at c2
  rw [hwo, hwm, hwi, hws] at k1
  rw [hsd]
  obtain ⟨pm, hpm⟩ : ∃ p, O.ptr = p := ⟨_, rfl⟩
  rw [hpm] at cG
  clear hpm
  clear hN hV hT h hS hpo hpn hpi hwo hwm hwi hws hsd z1 z2 n1 n2 s1 s2 h1
  go_enter Try.func53, Try.ntmps53
  go_wp2_with fail
  refine cF.out.mono ?_
  rintro e u1 ⟨rfl, hb⟩
  have b1 := Lib.hid hb
  clear hb cF
  go_wp2_with fail
  refine (cG.out u1 b1.out).mono ?_
  rintro e u2 ⟨rfl, hb⟩
  have b2 := Lib.hid (Below.after b1.out hb)
  clear hb cG b1
  go_wp2_with fail
  refine (c1.out u2 b2.out).mono ?_
  rintro e u3 ⟨rfl, hb⟩
  have b3 := Lib.hid (Below.after b2.out hb)
  clear hb c1 b2
  go_wp2_with fail
  refine (c2.out u3 b3.out).mono ?_
  rintro e u4 ⟨rfl, hb⟩
  have b4 := Lib.hid (Below.after b3.out hb)
  clear hb c2 b3
  go_wp2_with fail
  refine (k1.out u4).mono ?_
  rintro e u5 ⟨rfl, hb⟩
  have b5 := Lib.hid (Below.after b4.out hb)
  clear hb k1 b4
  go_wp2
  go_ret
  exact ⟨rfl, b5.out⟩
set_option maxHeartbeats 8000000 in
theorem ask1e (hN : NodeSays Nd) (hV : WbSays Nd) (w : World) (d : Bool) (aN : Addr) (y : No) (l r : AT) (aT : Addr) (xT : No) (O I : AT) (h : Stand Nd w (.n aN y l r)) (hT : Stand Nd w (AT.mk d aT xT O I)) (s1 : (AT.n aN y l r).size ≤ 4000) (s2 : (AT.mk d aT xT O I).size ≤ 4000) (h1 : likeI ((wt ((AT.n aN y l r).side d) : Nat) : Int) ((wt O + wt I : Nat) : Int) = false) (hO : O = .e) :
    Calls Try.prog 53 #[sV d, .pointer (some aN), .pointer (some aT)] w fun e w' => e = .returned (.int .i64 1) ∧ Below w.heap.size w w' := by
  have cF := Lib.hid (of19_any hN w d (.n aN y l r) h)
  rw [show (AT.n aN y l r).ptr = some aN from rfl] at cF
  have cG := Lib.hid (fun W (hb : Below w.heap.size w W) => of19_any hN W d (AT.mk d aT xT O I) (hT.after hN hb))
  rw [AT.mk_out, AT.mk_in, AT.mk_ptr] at cG
  have z1 := AT.size_side d aN y l r
  have z2 := AT.size_mk d aT xT O I
  have hS := h.part hN d
  have c1 := Lib.hid (fun W (hb : Below w.heap.size w W) => weight19 hV W _ (hS.after hN hb) (by omega))
  have c2 := Lib.hid (fun W (hb : Below w.heap.size w W) => weight19 hV W _ (hT.after hN hb) (by omega))
  rw [AT.mk_ptr, wt_mk] at c2
  have n1 : wt ((AT.n aN y l r).side d) ≤ 4001 := by unfold wt; omega
  have n2 : wt O + wt I ≤ 4002 := by unfold wt; omega
  have k1 := Lib.hid (fun W => like19 hV W (wt ((AT.n aN y l r).side d)) (wt O + wt I) (by omega) (by omega))
  rw [h1] at k1
  obtain ⟨po, hpo⟩ : ∃ p, ((AT.n aN y l r).side d).ptr = p := ⟨_, rfl⟩
  obtain ⟨pn, hpn⟩ : ∃ p, ((AT.n aN y l r).side (!d)).ptr = p := ⟨_, rfl⟩
  obtain ⟨pi, hpi⟩ : ∃ p, I.ptr = p := ⟨_, rfl⟩
  obtain ⟨wo, hwo⟩ : ∃ x, wt ((AT.n aN y l r).side d) = x := ⟨_, rfl⟩
  obtain ⟨wm, hwm⟩ : ∃ x, wt O = x := ⟨_, rfl⟩
  obtain ⟨wi, hwi⟩ : ∃ x, wt I = x := ⟨_, rfl⟩
  obtain ⟨ws, hws⟩ : ∃ x, wm + wi = x := ⟨_, rfl⟩
  obtain ⟨sd, hsd⟩ : ∃ p, sV d = p := ⟨_, rfl⟩
  rw [hpo, hpn, hsd] at cF
  rw [hpi, hsd] at cG
  rw [hpo, hwo] at c1
  rw [hwm, hwi, hws] at c2
  rw [hwo, hwm, hwi, hws] at k1
  rw [hsd]
  rw [hO, show AT.e.ptr = none from rfl] at cG
  clear hN hV hT h hS hpo hpn hpi hwo hwm hwi hws hsd z1 z2 n1 n2 s1 s2 h1 hO
  go_enter Try.func53, Try.ntmps53
  go_wp2_with fail
  refine cF.out.mono ?_
  rintro e u1 ⟨rfl, hb⟩
  have b1 := Lib.hid hb
  clear hb cF
  go_wp2_with fail
  refine (cG.out u1 b1.out).mono ?_
  rintro e u2 ⟨rfl, hb⟩
  have b2 := Lib.hid (Below.after b1.out hb)
  clear hb cG b1
  go_wp2_with fail
  refine (c1.out u2 b2.out).mono ?_
  rintro e u3 ⟨rfl, hb⟩
  have b3 := Lib.hid (Below.after b2.out hb)
  clear hb c1 b2
  go_wp2_with fail
  refine (c2.out u3 b3.out).mono ?_
  rintro e u4 ⟨rfl, hb⟩
  have b4 := Lib.hid (Below.after b3.out hb)
  clear hb c2 b3
  go_wp2_with fail
  refine (k1.out u4).mono ?_
  rintro e u5 ⟨rfl, hb⟩
  have b5 := Lib.hid (Below.after b4.out hb)
  clear hb k1 b4
  go_wp2
  go_ret
  exact ⟨rfl, b5.out⟩
set_option maxHeartbeats 8000000 in
theorem ask1 (hN : NodeSays Nd) (hV : WbSays Nd) (w : World) (d : Bool) (aN : Addr) (y : No) (l r : AT) (aT : Addr) (xT : No) (O I : AT) (h : Stand Nd w (.n aN y l r)) (hT : Stand Nd w (AT.mk d aT xT O I)) (s1 : (AT.n aN y l r).size ≤ 4000) (s2 : (AT.mk d aT xT O I).size ≤ 4000) (h1 : likeI ((wt ((AT.n aN y l r).side d) : Nat) : Int) ((wt O + wt I : Nat) : Int) = false) (hO : O ≠ .e) (h3 : likeI ((wt ((AT.n aN y l r).side d) + wt O : Nat) : Int) ((wt I : Nat) : Int) = true) :
    Calls Try.prog 53 #[sV d, .pointer (some aN), .pointer (some aT)] w fun e w' => e = .returned (.int .i64 1) ∧ Below w.heap.size w w' := by
  have cF := Lib.hid (of19_any hN w d (.n aN y l r) h)
  rw [show (AT.n aN y l r).ptr = some aN from rfl] at cF
  have cG := Lib.hid (fun W (hb : Below w.heap.size w W) => of19_any hN W d (AT.mk d aT xT O I) (hT.after hN hb))
  rw [AT.mk_out, AT.mk_in, AT.mk_ptr] at cG
  have z1 := AT.size_side d aN y l r
  have z2 := AT.size_mk d aT xT O I
  have hS := h.part hN d
  have c1 := Lib.hid (fun W (hb : Below w.heap.size w W) => weight19 hV W _ (hS.after hN hb) (by omega))
  have c2 := Lib.hid (fun W (hb : Below w.heap.size w W) => weight19 hV W _ (hT.after hN hb) (by omega))
  rw [AT.mk_ptr, wt_mk] at c2
  have n1 : wt ((AT.n aN y l r).side d) ≤ 4001 := by unfold wt; omega
  have n2 : wt O + wt I ≤ 4002 := by unfold wt; omega
  have c3 := Lib.hid (fun W (hb : Below w.heap.size w W) => weight19 hV W _ ((hT.out hN).after hN hb) (by omega))
  have c4 := Lib.hid (fun W (hb : Below w.heap.size w W) => weight19 hV W _ ((hT.inn hN).after hN hb) (by omega))
  have k1 := Lib.hid (fun W => like19 hV W (wt ((AT.n aN y l r).side d)) (wt O + wt I) (by omega) (by omega))
  have k2 := Lib.hid (fun W => like19 hV W (wt ((AT.n aN y l r).side d) + wt O) (wt I) (by omega) (by omega))
  rw [h3] at k2
  rw [h1] at k1
  obtain ⟨po, hpo⟩ : ∃ p, ((AT.n aN y l r).side d).ptr = p := ⟨_, rfl⟩
  obtain ⟨pn, hpn⟩ : ∃ p, ((AT.n aN y l r).side (!d)).ptr = p := ⟨_, rfl⟩
  obtain ⟨pi, hpi⟩ : ∃ p, I.ptr = p := ⟨_, rfl⟩
  obtain ⟨wo, hwo⟩ : ∃ x, wt ((AT.n aN y l r).side d) = x := ⟨_, rfl⟩
  obtain ⟨wm, hwm⟩ : ∃ x, wt O = x := ⟨_, rfl⟩
  obtain ⟨wi, hwi⟩ : ∃ x, wt I = x := ⟨_, rfl⟩
  obtain ⟨ws, hws⟩ : ∃ x, wm + wi = x := ⟨_, rfl⟩
  obtain ⟨sd, hsd⟩ : ∃ p, sV d = p := ⟨_, rfl⟩
  rw [hpo, hpn, hsd] at cF
  rw [hpi, hsd] at cG
  rw [hpo, hwo] at c1
  rw [hwm, hwi, hws] at c2
  rw [hwo, hwm, hwi, hws] at k1
  rw [hsd]
  obtain ⟨aM, hpm⟩ : ∃ a, O.ptr = some a := by
    cases O with
    | e => exact absurd rfl hO
    | n a x l r => exact ⟨a, rfl⟩
  rw [hpm] at cG c3
  rw [hwm] at c3
  rw [hpi, hwi] at c4
  obtain ⟨wq, hwq⟩ : ∃ x, wo + wm = x := ⟨_, rfl⟩
  rw [hwo, hwm, hwi, hwq] at k2
  have e1 : IntKind.i64.wrap ((wo : Int) + (wm : Int)) = (wq : Int) := by
    rw [show (wo : Int) + (wm : Int) = (wq : Int) by omega]
    exact IntWalk.i64_in _ (by omega)
  clear hpm hO hwq h3
  clear hN hV hT h hS hpo hpn hpi hwo hwm hwi hws hsd z1 z2 n1 n2 s1 s2 h1
  go_enter Try.func53, Try.ntmps53
  go_wp2_with fail
  refine cF.out.mono ?_
  rintro e u1 ⟨rfl, hb⟩
  have b1 := Lib.hid hb
  clear hb cF
  go_wp2_with fail
  refine (cG.out u1 b1.out).mono ?_
  rintro e u2 ⟨rfl, hb⟩
  have b2 := Lib.hid (Below.after b1.out hb)
  clear hb cG b1
  go_wp2_with fail
  refine (c1.out u2 b2.out).mono ?_
  rintro e u3 ⟨rfl, hb⟩
  have b3 := Lib.hid (Below.after b2.out hb)
  clear hb b2
  go_wp2_with fail
  refine (c2.out u3 b3.out).mono ?_
  rintro e u4 ⟨rfl, hb⟩
  have b4 := Lib.hid (Below.after b3.out hb)
  clear hb c2 b3
  go_wp2_with fail
  refine (k1.out u4).mono ?_
  rintro e u5 ⟨rfl, hb⟩
  have b5 := Lib.hid (Below.after b4.out hb)
  clear hb k1 b4
  go_wp2_with fail
  refine (c1.out u5 b5.out).mono ?_
  rintro e u6 ⟨rfl, hb⟩
  have b6 := Lib.hid (Below.after b5.out hb)
  clear hb c1 b5
  go_wp2_with fail
  refine (c3.out u6 b6.out).mono ?_
  rintro e u7 ⟨rfl, hb⟩
  have b7 := Lib.hid (Below.after b6.out hb)
  clear hb c3 b6
  go_wp2_with fail
  refine (c4.out u7 b7.out).mono ?_
  rintro e u8 ⟨rfl, hb⟩
  have b8 := Lib.hid (Below.after b7.out hb)
  clear hb c4 b7
  go_wp2_with fail
  refine (k2.out u8).mono ?_
  rintro e u9 ⟨rfl, hb⟩
  have b9 := Lib.hid (Below.after b8.out hb)
  clear hb k2 b8
  go_wp2
  go_ret
  exact ⟨rfl, b9.out⟩
set_option maxHeartbeats 8000000 in
theorem ask2 (hN : NodeSays Nd) (hV : WbSays Nd) (w : World) (d : Bool) (aN : Addr) (y : No) (l r : AT) (aT : Addr) (xT : No) (O I : AT) (h : Stand Nd w (.n aN y l r)) (hT : Stand Nd w (AT.mk d aT xT O I)) (s1 : (AT.n aN y l r).size ≤ 4000) (s2 : (AT.mk d aT xT O I).size ≤ 4000) (h1 : likeI ((wt ((AT.n aN y l r).side d) : Nat) : Int) ((wt O + wt I : Nat) : Int) = false) (hO : O ≠ .e) (h3 : likeI ((wt ((AT.n aN y l r).side d) + wt O : Nat) : Int) ((wt I : Nat) : Int) = false) :
    Calls Try.prog 53 #[sV d, .pointer (some aN), .pointer (some aT)] w fun e w' => e = .returned (.int .i64 2) ∧ Below w.heap.size w w' := by
  have cF := Lib.hid (of19_any hN w d (.n aN y l r) h)
  rw [show (AT.n aN y l r).ptr = some aN from rfl] at cF
  have cG := Lib.hid (fun W (hb : Below w.heap.size w W) => of19_any hN W d (AT.mk d aT xT O I) (hT.after hN hb))
  rw [AT.mk_out, AT.mk_in, AT.mk_ptr] at cG
  have z1 := AT.size_side d aN y l r
  have z2 := AT.size_mk d aT xT O I
  have hS := h.part hN d
  have c1 := Lib.hid (fun W (hb : Below w.heap.size w W) => weight19 hV W _ (hS.after hN hb) (by omega))
  have c2 := Lib.hid (fun W (hb : Below w.heap.size w W) => weight19 hV W _ (hT.after hN hb) (by omega))
  rw [AT.mk_ptr, wt_mk] at c2
  have n1 : wt ((AT.n aN y l r).side d) ≤ 4001 := by unfold wt; omega
  have n2 : wt O + wt I ≤ 4002 := by unfold wt; omega
  have c3 := Lib.hid (fun W (hb : Below w.heap.size w W) => weight19 hV W _ ((hT.out hN).after hN hb) (by omega))
  have c4 := Lib.hid (fun W (hb : Below w.heap.size w W) => weight19 hV W _ ((hT.inn hN).after hN hb) (by omega))
  have k1 := Lib.hid (fun W => like19 hV W (wt ((AT.n aN y l r).side d)) (wt O + wt I) (by omega) (by omega))
  have k2 := Lib.hid (fun W => like19 hV W (wt ((AT.n aN y l r).side d) + wt O) (wt I) (by omega) (by omega))
  rw [h3] at k2
  rw [h1] at k1
  obtain ⟨po, hpo⟩ : ∃ p, ((AT.n aN y l r).side d).ptr = p := ⟨_, rfl⟩
  obtain ⟨pn, hpn⟩ : ∃ p, ((AT.n aN y l r).side (!d)).ptr = p := ⟨_, rfl⟩
  obtain ⟨pi, hpi⟩ : ∃ p, I.ptr = p := ⟨_, rfl⟩
  obtain ⟨wo, hwo⟩ : ∃ x, wt ((AT.n aN y l r).side d) = x := ⟨_, rfl⟩
  obtain ⟨wm, hwm⟩ : ∃ x, wt O = x := ⟨_, rfl⟩
  obtain ⟨wi, hwi⟩ : ∃ x, wt I = x := ⟨_, rfl⟩
  obtain ⟨ws, hws⟩ : ∃ x, wm + wi = x := ⟨_, rfl⟩
  obtain ⟨sd, hsd⟩ : ∃ p, sV d = p := ⟨_, rfl⟩
  rw [hpo, hpn, hsd] at cF
  rw [hpi, hsd] at cG
  rw [hpo, hwo] at c1
  rw [hwm, hwi, hws] at c2
  rw [hwo, hwm, hwi, hws] at k1
  rw [hsd]
  obtain ⟨aM, hpm⟩ : ∃ a, O.ptr = some a := by
    cases O with
    | e => exact absurd rfl hO
    | n a x l r => exact ⟨a, rfl⟩
  rw [hpm] at cG c3
  rw [hwm] at c3
  rw [hpi, hwi] at c4
  obtain ⟨wq, hwq⟩ : ∃ x, wo + wm = x := ⟨_, rfl⟩
  rw [hwo, hwm, hwi, hwq] at k2
  have e1 : IntKind.i64.wrap ((wo : Int) + (wm : Int)) = (wq : Int) := by
    rw [show (wo : Int) + (wm : Int) = (wq : Int) by omega]
    exact IntWalk.i64_in _ (by omega)
  clear hpm hO hwq h3
  clear hN hV hT h hS hpo hpn hpi hwo hwm hwi hws hsd z1 z2 n1 n2 s1 s2 h1
  go_enter Try.func53, Try.ntmps53
  go_wp2_with fail
  refine cF.out.mono ?_
  rintro e u1 ⟨rfl, hb⟩
  have b1 := Lib.hid hb
  clear hb cF
  go_wp2_with fail
  refine (cG.out u1 b1.out).mono ?_
  rintro e u2 ⟨rfl, hb⟩
  have b2 := Lib.hid (Below.after b1.out hb)
  clear hb cG b1
  go_wp2_with fail
  refine (c1.out u2 b2.out).mono ?_
  rintro e u3 ⟨rfl, hb⟩
  have b3 := Lib.hid (Below.after b2.out hb)
  clear hb b2
  go_wp2_with fail
  refine (c2.out u3 b3.out).mono ?_
  rintro e u4 ⟨rfl, hb⟩
  have b4 := Lib.hid (Below.after b3.out hb)
  clear hb c2 b3
  go_wp2_with fail
  refine (k1.out u4).mono ?_
  rintro e u5 ⟨rfl, hb⟩
  have b5 := Lib.hid (Below.after b4.out hb)
  clear hb k1 b4
  go_wp2_with fail
  refine (c1.out u5 b5.out).mono ?_
  rintro e u6 ⟨rfl, hb⟩
  have b6 := Lib.hid (Below.after b5.out hb)
  clear hb c1 b5
  go_wp2_with fail
  refine (c3.out u6 b6.out).mono ?_
  rintro e u7 ⟨rfl, hb⟩
  have b7 := Lib.hid (Below.after b6.out hb)
  clear hb c3 b6
  go_wp2_with fail
  refine (c4.out u7 b7.out).mono ?_
  rintro e u8 ⟨rfl, hb⟩
  have b8 := Lib.hid (Below.after b7.out hb)
  clear hb c4 b7
  go_wp2_with fail
  refine (k2.out u8).mono ?_
  rintro e u9 ⟨rfl, hb⟩
  have b9 := Lib.hid (Below.after b8.out hb)
  clear hb k2 b8
  go_wp2
  go_ret
  exact ⟨rfl, b9.out⟩
theorem asked19_any (hN : NodeSays Nd) (hV : WbSays Nd) (d : Bool) (aN : Addr) (y : No) (l r : AT) (aT : Addr) (xT : No) (O I : AT) (s1 : (AT.n aN y l r).size ≤ 4000) (s2 : (AT.mk d aT xT O I).size ≤ 4000) :
    ∃ q : Nat, Ask19 d (.n aN y l r) O I q ∧ ∀ W, Stand Nd W (.n aN y l r) → Stand Nd W (AT.mk d aT xT O I) → Calls Try.prog 53 #[sV d, .pointer (some aN), .pointer (some aT)] W fun e w' => e = .returned (.int .i64 (q : Int)) ∧ Below W.heap.size W w' := by
  have z1 := AT.size_side d aN y l r
  have z2 := AT.size_mk d aT xT O I
  have b1 : wt ((AT.n aN y l r).side d) + (wt O + wt I) ≤ 100000 := by unfold wt; omega
  cases e1 : likeI ((wt ((AT.n aN y l r).side d) : Nat) : Int) ((wt O + wt I : Nat) : Int) with
  | true => exact ⟨0, .inl ⟨rfl, (lk_iff (wt_pos _) (by have := wt_pos O; omega) b1).1 e1⟩, fun W h hT => ask0 hN hV W d aN y l r aT xT O I h hT s1 s2 e1⟩
  | false =>
    have n1 := (lk_no (wt_pos _) (by have := wt_pos O; omega) b1).1 e1
    by_cases hO : O = .e
    · exact ⟨1, .inr (.inl ⟨rfl, n1, .inl hO⟩), fun W h hT => ask1e hN hV W d aN y l r aT xT O I h hT s1 s2 e1 hO⟩
    · cases e3 : likeI ((wt ((AT.n aN y l r).side d) + wt O : Nat) : Int) ((wt I : Nat) : Int) with
      | true => exact ⟨1, .inr (.inl ⟨rfl, n1, .inr ((lk_iff (by have := wt_pos O; omega) (wt_pos _) (by omega)).1 e3)⟩), fun W h hT => ask1 hN hV W d aN y l r aT xT O I h hT s1 s2 e1 hO e3⟩
      | false =>
        refine ⟨2, .inr (.inr ⟨rfl, n1, ?_, (lk_no (by have := wt_pos O; omega) (wt_pos _) (by omega)).1 e3⟩), fun W h hT => ask2 hN hV W d aN y l r aT xT O I h hT s1 s2 e1 hO e3⟩
        cases O with
        | e => exact absurd rfl hO
        | n a x l' r' => exact ⟨a, x, _, _, AT.mk_of d a x l' r'⟩
end Go.Proofs.Ytfbmpgffekhmhaa
