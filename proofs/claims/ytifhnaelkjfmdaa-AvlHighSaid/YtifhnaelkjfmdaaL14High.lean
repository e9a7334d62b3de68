/- Layer 14: the statement AvlHigh, walked. Made by wip/gen/layer14laws.py. -/
import Derived.Test.YtifhnaelkjfmdaaL14Makes
namespace Go.Proofs.Ytifhnaelkjfmdaa
open Go.RowKit Go.Proofs.Treem
set_option maxRecDepth 100000
variable {Nd : NdP}

set_option maxHeartbeats 2000000 in
theorem avlHigh_long (hN : NodeSays Nd) (hS : AvlSays Nd) (A : Option Addr) (n c : Nat) (w : World) (h : LongAt w A n c true) : Calls Try.prog 9 #[.slice A n c] w fun e w' => e = .returned (.bool true) ∧ Below w.heap.size w w' := by
  have c0 := Lib.hid (h w (Below.refl _ _))
  have c9 := Lib.hid (alive14_any hN hS w)
  clear h hN hS
  go_enter Try.func9, Try.ntmps9
  go_wp2_with fail
  refine c0.out.mono ?_
  rintro e w' ⟨rfl, rfl⟩
  go_wp2_with fail
  refine c9.out.mono ?_
  rintro e w1 ⟨rfl, hb⟩
  have b1 := Lib.hid hb
  clear hb
  go_wp2
  go_ret
  exact ⟨rfl, b1.out⟩
set_option maxHeartbeats 4000000 in
theorem height14 (hN : NodeSays Nd) : ∀ (t : Tr) (p : Option Addr) (k : Nat) (w : World), TreeAt Nd w w.heap.size t p → t.high ≤ k → k ≤ 500 → Calls Try.prog 45 #[.pointer p, nI k] w fun e w' => e = .returned (nI t.high) ∧ Below w.heap.size w w' := by
  intro t
  induction t with
  | e =>
    intro p k w h hk h5
    obtain rfl : p = none := h
    go_enter Try.func45, Try.ntmps45
    go_wp2
    go_ret
    exact ⟨rfl, Below.refl _ _⟩
  | n l kk v g r ihl ihr =>
    intro p k w h hk h5
    obtain ⟨a, pl, pr, rfl, h2, h3, h4⟩ := h
    have hans : (Tr.n l kk v g r).high = 1 + max l.high r.high := rfl
    rw [hans] at hk ⊢
    have ha1 : l.high ≤ k - 1 := by omega
    have ha2 : r.high ≤ k - 1 := by omega
    have k1 : 1 ≤ k := by omega
    have hL := Lib.hid (fun p w h => ihl p (k - 1) w h ha1 (by omega))
    have hR := Lib.hid (fun p w h => ihr p (k - 1) w h ha2 (by omega))
    obtain ⟨x, hx⟩ : ∃ x, l.high = x := ⟨_, rfl⟩
    obtain ⟨y, hy⟩ : ∃ y, r.high = y := ⟨_, rfl⟩
    rw [hx] at hL ha1
    rw [hy] at hR ha2
    rw [hx, hy]
    obtain ⟨j, hj⟩ : ∃ j, k - 1 = j := ⟨_, rfl⟩
    rw [hj] at hL hR ha1 ha2
    have wr : IntKind.i64.wrap ((k : Int) - 1) = (j : Int) := by rw [show (k : Int) - 1 = (j : Int) by omega]; exact IntWalk.i64_in _ (by omega)
    have d1 : ((k : Int) == 0) = false := by simp; omega
    have d2 : decide ((x : Int) < 0) = false := decide_eq_false (by omega)
    have d3 : decide ((y : Int) < 0) = false := decide_eq_false (by omega)
    obtain ⟨m, hm⟩ : ∃ m, 1 + max x y = m := ⟨_, rfl⟩
    rw [hm]
    have hX := Lib.hid h2
    have hl := Lib.hid h3
    have hr := Lib.hid h4
    have hN' := Lib.hid hN
    have hj5 : j ≤ 500 := by omega
    clear ihl ihr h2 h3 h4 hN hans hk hx hy hj k1 h5
    go_enter Try.func45, Try.ntmps45
    go_wp2_with fail
    refine (hN'.out.left w _ _ _ hX.out).mono ?_
    rintro e w' ⟨rfl, rfl⟩
    go_wp2_with fail
    refine (hL.out _ w hl.out).mono ?_
    rintro e w1 ⟨rfl, hb⟩
    have b1 := Lib.hid hb
    have X1 := Lib.hid (nd_after hN'.out hX.out hb)
    have r1 := Lib.hid (hr.out.after hN'.out hb)
    clear hb hL hX hr hl
    go_wp2_with fail
    refine (hN'.out.right w1 _ _ _ X1.out).mono ?_
    rintro e w' ⟨rfl, rfl⟩
    go_wp2_with fail
    refine (hR.out _ w1 r1.out).mono ?_
    rintro e w2 ⟨rfl, hb⟩
    have b2 := Lib.hid (Below.after b1.out hb)
    clear hb hR X1 r1 b1
    by_cases hxy : x < y
    · have e1 : IntKind.i64.wrap (1 + (y : Int)) = 1 + (y : Int) := IntWalk.i64_in _ (by omega)
      have e2 : (1 : Int) + (y : Int) = (m : Int) := by rw [Nat.max_eq_right (Nat.le_of_lt hxy)] at hm; omega
      clear hm
      go_wp2
      all_goals first
        | (exfalso; omega)
        | (go_ret; exact ⟨rfl, b2.out⟩)
    · have e1 : IntKind.i64.wrap (1 + (x : Int)) = 1 + (x : Int) := IntWalk.i64_in _ (by omega)
      have e2 : (1 : Int) + (x : Int) = (m : Int) := by rw [Nat.max_eq_left (by omega)] at hm; omega
      clear hm
      go_wp2
      all_goals first
        | (exfalso; omega)
        | (go_ret; exact ⟨rfl, b2.out⟩)
set_option maxHeartbeats 4000000 in
theorem avlHigh_no (hN : NodeSays Nd) (hS : AvlSays Nd) (A : Option Addr) (n c : Nat) (l : List Bd) (t : Tr) (w : World) (h : LongAt w A n c false) (ht : TreeIn w A n c l t) (e1 : mayA t = false) : Calls Try.prog 9 #[.slice A n c] w fun e w' => e = .returned (.bool true) ∧ Below w.heap.size w w' := by
  have c0 := Lib.hid (h w (Below.refl _ _))
  have cM := Lib.hid (ht.make hN)
  have hts : t.size ≤ 400 := by rw [ht.size]; exact ht.few
  have cA : Hid (∀ W, Calls Try.prog 34 #[] W fun e w' => e = .returned (.bool true) ∧ Below W.heap.size W w') := fun W => alive14_any hN hS W
  have cC : Hid (∀ W p, TreeAt Nd W W.heap.size t p → Calls Try.prog 39 #[.pointer p] W fun e w' => e = .returned (.bool false) ∧ Below W.heap.size W w') := fun W p hp => e1 ▸ hS.may W t p hp (by omega)
  have hN' := Lib.hid hN
  clear hN hS h ht hts e1
  go_enter Try.func9, Try.ntmps9
  have B_0 := Lib.hid (Below.refl w.heap.size w)
  go_wp2_with fail
  refine (c0.out).mono ?_
  rintro e w' ⟨rfl, rfl⟩
  go_wp2_with fail
  refine (cM.out w B_0.out).mono ?_
  rintro e w1 ⟨p, rfl, hP, hb⟩
  have B_1 := Lib.hid (Below.after B_0.out hb)
  clear B_0
  have P_1 := Lib.hid hP
  clear hP
  clear hb
  go_wp2_with fail
  refine (cC.out w1 _ P_1.out).mono ?_
  rintro e w2 ⟨rfl, hb⟩
  have P_2 := Lib.hid (P_1.out.after hN'.out hb)
  have B_2 := Lib.hid (Below.after B_1.out hb)
  clear P_1 B_1
  clear hb
  go_wp2_with fail
  refine (cA.out w2).mono ?_
  rintro e w3 ⟨rfl, hb⟩
  have P_3 := Lib.hid (P_2.out.after hN'.out hb)
  have B_3 := Lib.hid (Below.after B_2.out hb)
  clear P_2 B_2
  clear hb
  go_wp2
  go_ret
  exact ⟨rfl, B_3.out⟩
set_option maxHeartbeats 4000000 in
theorem avlHigh_none (hN : NodeSays Nd) (hS : AvlSays Nd) (A : Option Addr) (n c : Nat) (l : List Bd) (w : World) (h : LongAt w A n c false) (ht : TreeIn w A n c l .e) : Calls Try.prog 9 #[.slice A n c] w fun e w' => e = .returned (.bool true) ∧ Below w.heap.size w w' := by
  have e1 : mayA .e = true := rfl
  obtain ⟨t, ht0⟩ : ∃ t, (show Tr from .e) = t := ⟨_, rfl⟩
  have ht1 : TreeIn w A n c l t := ht0 ▸ ht
  have e1 : mayA t = true := ht0 ▸ e1
  have c0 := Lib.hid (h w (Below.refl _ _))
  have cM := Lib.hid (ht1.make hN)
  have hts : t.size ≤ 400 := by rw [ht1.size]; exact ht1.few
  have cA : Hid (∀ W, Calls Try.prog 34 #[] W fun e w' => e = .returned (.bool true) ∧ Below W.heap.size W w') := fun W => alive14_any hN hS W
  have hE : errA t = 0 := by unfold mayA at e1; rwa [beq_iff_eq] at e1
  obtain ⟨g1, g2, g3⟩ := tag_few e1 hts
  have hl := may_least t hE
  have hle := lean_may t hE hts
  have cC : Hid (∀ W p, TreeAt Nd W W.heap.size t p → Calls Try.prog 39 #[.pointer p] W fun e w' => e = .returned (.bool true) ∧ Below W.heap.size W w') := fun W p hp => e1 ▸ hS.may W t p hp (by omega)
  have cH : Hid (∀ W p, TreeAt Nd W W.heap.size t p → Calls Try.prog 45 #[.pointer p, .int .i64 500] W fun e w' => e = .returned (nI t.high) ∧ Below W.heap.size W w') := fun W p hp => height14 hN t p 500 W hp (by omega) (by omega)
  have cG : Hid (∀ W p, TreeAt Nd W W.heap.size t p → Calls Try.prog 41 #[.pointer p] W fun e w' => e = .returned (nI t.high) ∧ Below W.heap.size W w') := fun W p hp => by have := hS.rank W t p hp; rw [show K t.tag = nI t.high from by show Value.int .i64 t.tag.toInt = _; rw [g1]] at this; exact this
  have cS : Hid (∀ W p, TreeAt Nd W W.heap.size t p → Calls Try.prog 46 #[.pointer p] W fun e w' => e = .returned (nI t.size) ∧ Below W.heap.size W w') := fun W p hp => by have := hp.look.size hN; rw [show K (BitVec.ofNat 64 t.size) = nI t.size from by show Value.int .i64 _ = _; rw [size_bits (by omega)]] at this; exact this
  have cL : Hid (∀ W, Calls Try.prog 47 #[nI t.high] W fun e w' => e = .returned (nI (leastN t.high)) ∧ W = w') := fun W => refLeast14 t.high (by omega) W
  have cI : Hid (∀ W p, TreeAt Nd W W.heap.size t p → Calls Try.prog 42 #[.pointer p] W fun e w' => e = .returned (.int .i64 (leanA t).toInt) ∧ Below W.heap.size W w') := fun W p hp => hS.lean W t p hp
  have cM' : Hid (∀ W, Below w.heap.size w W → Calls Try.prog 17 #[.slice A n c] W fun e w' => e = .returned (.pointer none) ∧ TreeAt Nd w' w'.heap.size t none ∧ Below W.heap.size W w') := fun W hb => (cM.out W hb).mono (by
    rintro e w' ⟨p, rfl, k1, k2⟩
    have k3 := k1
    rw [← ht0] at k3
    obtain rfl : p = none := k3
    exact ⟨rfl, k1, k2⟩)
  have cl : Hid (∀ W, Calls Try.prog 39 #[.pointer none] W fun e w' => e = .returned (.bool true) ∧ Below W.heap.size W w') := fun W => hS.may W .e none rfl (by decide)
  obtain ⟨x, hx⟩ : ∃ x, t.high = x := ⟨_, rfl⟩
  obtain ⟨y, hy⟩ : ∃ y, t.size = y := ⟨_, rfl⟩
  obtain ⟨z, hz⟩ : ∃ z, leastN t.high = z := ⟨_, rfl⟩
  obtain ⟨q, hq⟩ : ∃ q, (leanA t).toInt = q := ⟨_, rfl⟩
  rw [hz] at hl cL
  rw [hx] at cH cG cL g3
  rw [hy] at hl cS
  rw [hq] at hle cI
  have d1 : decide ((x : Int) < 0) = false := decide_eq_false (by omega)
  have d2 : decide ((12 : Int) < (x : Int)) = false := decide_eq_false (by omega)
  have d3 : decide ((y : Int) < (z : Int)) = false := decide_eq_false (by omega)
  have d4 : decide ((-1 : Int) ≤ q) = true := decide_eq_true hle.1
  have d5 : decide (q ≤ (1 : Int)) = true := decide_eq_true hle.2
  have n2 : ¬ 12 < x := by omega
  have n3 : ¬ y < z := by omega
  have n4 := hle.1
  have n5 := hle.2
  have hN' := Lib.hid hN
  clear hx hy hz hq g1 g2 g3 hl hle hE hts hN hS h ht ht1 e1 cM
  clear ht0
  go_enter Try.func9, Try.ntmps9
  have B_0 := Lib.hid (Below.refl w.heap.size w)
  go_wp2_with fail
  refine (c0.out).mono ?_
  rintro e w' ⟨rfl, rfl⟩
  go_wp2_with fail
  refine (cM'.out w B_0.out).mono ?_
  rintro e w1 ⟨rfl, hP, hb⟩
  have B_1 := Lib.hid (Below.after B_0.out hb)
  clear B_0
  have P_1 := Lib.hid hP
  clear hP
  clear hb
  go_wp2_with fail
  refine (cC.out w1 _ P_1.out).mono ?_
  rintro e w2 ⟨rfl, hb⟩
  have P_2 := Lib.hid (P_1.out.after hN'.out hb)
  have B_2 := Lib.hid (Below.after B_1.out hb)
  clear P_1 B_1
  clear hb
  go_wp2_with fail
  refine (cH.out w2 _ P_2.out).mono ?_
  rintro e w3 ⟨rfl, hb⟩
  have P_3 := Lib.hid (P_2.out.after hN'.out hb)
  have B_3 := Lib.hid (Below.after B_2.out hb)
  clear P_2 B_2
  clear hb
  go_wp2_with fail
  refine (cG.out w3 _ P_3.out).mono ?_
  rintro e w4 ⟨rfl, hb⟩
  have P_4 := Lib.hid (P_3.out.after hN'.out hb)
  have B_4 := Lib.hid (Below.after B_3.out hb)
  clear P_3 B_3
  clear hb
  go_wp2_with fail
  refine (cS.out w4 _ P_4.out).mono ?_
  rintro e w5 ⟨rfl, hb⟩
  have P_5 := Lib.hid (P_4.out.after hN'.out hb)
  have B_5 := Lib.hid (Below.after B_4.out hb)
  clear P_4 B_4
  clear hb
  go_wp2_with fail
  refine (cL.out w5).mono ?_
  rintro e w' ⟨rfl, rfl⟩
  go_wp2_with fail
  refine (hN'.out.left0 w5).mono ?_
  rintro e w6 ⟨rfl, hb⟩
  have P_6 := Lib.hid (P_5.out.after hN'.out hb)
  have B_6 := Lib.hid (Below.after B_5.out hb)
  clear P_5 B_5
  clear hb
  go_wp2_with fail
  refine (cl.out w6).mono ?_
  rintro e w7 ⟨rfl, hb⟩
  have P_7 := Lib.hid (P_6.out.after hN'.out hb)
  have B_7 := Lib.hid (Below.after B_6.out hb)
  clear P_6 B_6
  clear hb
  go_wp2_with fail
  refine (hN'.out.right0 w7).mono ?_
  rintro e w8 ⟨rfl, hb⟩
  have P_8 := Lib.hid (P_7.out.after hN'.out hb)
  have B_8 := Lib.hid (Below.after B_7.out hb)
  clear P_7 B_7
  clear hb
  go_wp2_with fail
  refine (cl.out w8).mono ?_
  rintro e w9 ⟨rfl, hb⟩
  have P_9 := Lib.hid (P_8.out.after hN'.out hb)
  have B_9 := Lib.hid (Below.after B_8.out hb)
  clear P_8 B_8
  clear hb
  go_wp2_with fail
  refine (cI.out w9 _ P_9.out).mono ?_
  rintro e w10 ⟨rfl, hb⟩
  have P_10 := Lib.hid (P_9.out.after hN'.out hb)
  have B_10 := Lib.hid (Below.after B_9.out hb)
  clear P_9 B_9
  clear hb
  go_wp2_with fail
  refine (cA.out w10).mono ?_
  rintro e w11 ⟨rfl, hb⟩
  have P_11 := Lib.hid (P_10.out.after hN'.out hb)
  have B_11 := Lib.hid (Below.after B_10.out hb)
  clear P_10 B_10
  clear hb
  go_wp2
  go_ret
  exact ⟨rfl, B_11.out⟩
set_option maxHeartbeats 4000000 in
theorem avlHigh_yes (hN : NodeSays Nd) (hS : AvlSays Nd) (A : Option Addr) (n c : Nat) (l : List Bd) (tl tr : Tr) (k v g : BitVec 64) (w : World) (h : LongAt w A n c false) (ht : TreeIn w A n c l (.n tl k v g tr)) (e1 : mayA (.n tl k v g tr) = true) : Calls Try.prog 9 #[.slice A n c] w fun e w' => e = .returned (.bool true) ∧ Below w.heap.size w w' := by
  obtain ⟨t, ht0⟩ : ∃ t, (show Tr from (.n tl k v g tr)) = t := ⟨_, rfl⟩
  have ht1 : TreeIn w A n c l t := ht0 ▸ ht
  have e1 : mayA t = true := ht0 ▸ e1
  have c0 := Lib.hid (h w (Below.refl _ _))
  have cM := Lib.hid (ht1.make hN)
  have hts : t.size ≤ 400 := by rw [ht1.size]; exact ht1.few
  have cA : Hid (∀ W, Calls Try.prog 34 #[] W fun e w' => e = .returned (.bool true) ∧ Below W.heap.size W w') := fun W => alive14_any hN hS W
  have hE : errA t = 0 := by unfold mayA at e1; rwa [beq_iff_eq] at e1
  obtain ⟨g1, g2, g3⟩ := tag_few e1 hts
  have hl := may_least t hE
  have hle := lean_may t hE hts
  have cC : Hid (∀ W p, TreeAt Nd W W.heap.size t p → Calls Try.prog 39 #[.pointer p] W fun e w' => e = .returned (.bool true) ∧ Below W.heap.size W w') := fun W p hp => e1 ▸ hS.may W t p hp (by omega)
  have cH : Hid (∀ W p, TreeAt Nd W W.heap.size t p → Calls Try.prog 45 #[.pointer p, .int .i64 500] W fun e w' => e = .returned (nI t.high) ∧ Below W.heap.size W w') := fun W p hp => height14 hN t p 500 W hp (by omega) (by omega)
  have cG : Hid (∀ W p, TreeAt Nd W W.heap.size t p → Calls Try.prog 41 #[.pointer p] W fun e w' => e = .returned (nI t.high) ∧ Below W.heap.size W w') := fun W p hp => by have := hS.rank W t p hp; rw [show K t.tag = nI t.high from by show Value.int .i64 t.tag.toInt = _; rw [g1]] at this; exact this
  have cS : Hid (∀ W p, TreeAt Nd W W.heap.size t p → Calls Try.prog 46 #[.pointer p] W fun e w' => e = .returned (nI t.size) ∧ Below W.heap.size W w') := fun W p hp => by have := hp.look.size hN; rw [show K (BitVec.ofNat 64 t.size) = nI t.size from by show Value.int .i64 _ = _; rw [size_bits (by omega)]] at this; exact this
  have cL : Hid (∀ W, Calls Try.prog 47 #[nI t.high] W fun e w' => e = .returned (nI (leastN t.high)) ∧ W = w') := fun W => refLeast14 t.high (by omega) W
  have cI : Hid (∀ W p, TreeAt Nd W W.heap.size t p → Calls Try.prog 42 #[.pointer p] W fun e w' => e = .returned (.int .i64 (leanA t).toInt) ∧ Below W.heap.size W w') := fun W p hp => hS.lean W t p hp
  have hsd := may_side (show errA (.n tl k v g tr) = 0 from by rw [← ht0] at hE; exact hE)
  have hss : tl.size ≤ 400 ∧ tr.size ≤ 400 := by rw [← ht0, Tr.size] at hts; omega
  have cl : Hid (∀ W p, TreeAt Nd W W.heap.size tl p → Calls Try.prog 39 #[.pointer p] W fun e w' => e = .returned (.bool true) ∧ Below W.heap.size W w') := fun W p hp => by have := hS.may W tl p hp (by omega); rw [show mayA tl = true by unfold mayA; rw [hsd.1]; rfl] at this; exact this
  have cr : Hid (∀ W p, TreeAt Nd W W.heap.size tr p → Calls Try.prog 39 #[.pointer p] W fun e w' => e = .returned (.bool true) ∧ Below W.heap.size W w') := fun W p hp => by have := hS.may W tr p hp (by omega); rw [show mayA tr = true by unfold mayA; rw [hsd.2]; rfl] at this; exact this
  have cM' : Hid (∀ W, Below w.heap.size w W → Calls Try.prog 17 #[.slice A n c] W fun e w' => ∃ a x, e = .returned (.pointer (some a)) ∧ Nd w' w'.heap.size a x ∧ TreeAt Nd w' w'.heap.size tl x.l ∧ TreeAt Nd w' w'.heap.size tr x.r ∧ TreeAt Nd w' w'.heap.size t (some a) ∧ Below W.heap.size W w') := fun W hb => (cM.out W hb).mono (by
    rintro e w' ⟨p, rfl, k1, k2⟩
    have k3 := k1
    rw [← ht0] at k3
    obtain ⟨a, pl, pr, rfl, k4, k5, k6⟩ := k3
    exact ⟨a, _, rfl, k4, k5, k6, k1, k2⟩)
  obtain ⟨x, hx⟩ : ∃ x, t.high = x := ⟨_, rfl⟩
  obtain ⟨y, hy⟩ : ∃ y, t.size = y := ⟨_, rfl⟩
  obtain ⟨z, hz⟩ : ∃ z, leastN t.high = z := ⟨_, rfl⟩
  obtain ⟨q, hq⟩ : ∃ q, (leanA t).toInt = q := ⟨_, rfl⟩
  rw [hz] at hl cL
  rw [hx] at cH cG cL g3
  rw [hy] at hl cS
  rw [hq] at hle cI
  have d1 : decide ((x : Int) < 0) = false := decide_eq_false (by omega)
  have d2 : decide ((12 : Int) < (x : Int)) = false := decide_eq_false (by omega)
  have d3 : decide ((y : Int) < (z : Int)) = false := decide_eq_false (by omega)
  have d4 : decide ((-1 : Int) ≤ q) = true := decide_eq_true hle.1
  have d5 : decide (q ≤ (1 : Int)) = true := decide_eq_true hle.2
  have n2 : ¬ 12 < x := by omega
  have n3 : ¬ y < z := by omega
  have n4 := hle.1
  have n5 := hle.2
  have hN' := Lib.hid hN
  clear hx hy hz hq g1 g2 g3 hl hle hE hts hN hS h ht ht1 e1 cM hsd hss
  clear ht0
  go_enter Try.func9, Try.ntmps9
  have B_0 := Lib.hid (Below.refl w.heap.size w)
  go_wp2_with fail
  refine (c0.out).mono ?_
  rintro e w' ⟨rfl, rfl⟩
  go_wp2_with fail
  refine (cM'.out w B_0.out).mono ?_
  rintro e w1 ⟨a, x0, rfl, hX, hl, hr, hP, hb⟩
  have B_1 := Lib.hid (Below.after B_0.out hb)
  clear B_0
  have X_1 := Lib.hid hX
  clear hX
  have l_1 := Lib.hid hl
  clear hl
  have r_1 := Lib.hid hr
  clear hr
  have P_1 := Lib.hid hP
  clear hP
  clear hb
  go_wp2_with fail
  refine (cC.out w1 _ P_1.out).mono ?_
  rintro e w2 ⟨rfl, hb⟩
  have X_2 := Lib.hid (nd_after hN'.out X_1.out hb)
  have l_2 := Lib.hid (l_1.out.after hN'.out hb)
  have r_2 := Lib.hid (r_1.out.after hN'.out hb)
  have P_2 := Lib.hid (P_1.out.after hN'.out hb)
  have B_2 := Lib.hid (Below.after B_1.out hb)
  clear X_1 l_1 r_1 P_1 B_1
  clear hb
  go_wp2_with fail
  refine (cH.out w2 _ P_2.out).mono ?_
  rintro e w3 ⟨rfl, hb⟩
  have X_3 := Lib.hid (nd_after hN'.out X_2.out hb)
  have l_3 := Lib.hid (l_2.out.after hN'.out hb)
  have r_3 := Lib.hid (r_2.out.after hN'.out hb)
  have P_3 := Lib.hid (P_2.out.after hN'.out hb)
  have B_3 := Lib.hid (Below.after B_2.out hb)
  clear X_2 l_2 r_2 P_2 B_2
  clear hb
  go_wp2_with fail
  refine (cG.out w3 _ P_3.out).mono ?_
  rintro e w4 ⟨rfl, hb⟩
  have X_4 := Lib.hid (nd_after hN'.out X_3.out hb)
  have l_4 := Lib.hid (l_3.out.after hN'.out hb)
  have r_4 := Lib.hid (r_3.out.after hN'.out hb)
  have P_4 := Lib.hid (P_3.out.after hN'.out hb)
  have B_4 := Lib.hid (Below.after B_3.out hb)
  clear X_3 l_3 r_3 P_3 B_3
  clear hb
  go_wp2_with fail
  refine (cS.out w4 _ P_4.out).mono ?_
  rintro e w5 ⟨rfl, hb⟩
  have X_5 := Lib.hid (nd_after hN'.out X_4.out hb)
  have l_5 := Lib.hid (l_4.out.after hN'.out hb)
  have r_5 := Lib.hid (r_4.out.after hN'.out hb)
  have P_5 := Lib.hid (P_4.out.after hN'.out hb)
  have B_5 := Lib.hid (Below.after B_4.out hb)
  clear X_4 l_4 r_4 P_4 B_4
  clear hb
  go_wp2_with fail
  refine (cL.out w5).mono ?_
  rintro e w' ⟨rfl, rfl⟩
  go_wp2_with fail
  refine (hN'.out.left w5 _ _ _ X_5.out).mono ?_
  rintro e w' ⟨rfl, rfl⟩
  go_wp2_with fail
  refine (cl.out w5 _ l_5.out).mono ?_
  rintro e w6 ⟨rfl, hb⟩
  have X_6 := Lib.hid (nd_after hN'.out X_5.out hb)
  have l_6 := Lib.hid (l_5.out.after hN'.out hb)
  have r_6 := Lib.hid (r_5.out.after hN'.out hb)
  have P_6 := Lib.hid (P_5.out.after hN'.out hb)
  have B_6 := Lib.hid (Below.after B_5.out hb)
  clear X_5 l_5 r_5 P_5 B_5
  clear hb
  go_wp2_with fail
  refine (hN'.out.right w6 _ _ _ X_6.out).mono ?_
  rintro e w' ⟨rfl, rfl⟩
  go_wp2_with fail
  refine (cr.out w6 _ r_6.out).mono ?_
  rintro e w7 ⟨rfl, hb⟩
  have X_7 := Lib.hid (nd_after hN'.out X_6.out hb)
  have l_7 := Lib.hid (l_6.out.after hN'.out hb)
  have r_7 := Lib.hid (r_6.out.after hN'.out hb)
  have P_7 := Lib.hid (P_6.out.after hN'.out hb)
  have B_7 := Lib.hid (Below.after B_6.out hb)
  clear X_6 l_6 r_6 P_6 B_6
  clear hb
  go_wp2_with fail
  refine (cI.out w7 _ P_7.out).mono ?_
  rintro e w8 ⟨rfl, hb⟩
  have X_8 := Lib.hid (nd_after hN'.out X_7.out hb)
  have l_8 := Lib.hid (l_7.out.after hN'.out hb)
  have r_8 := Lib.hid (r_7.out.after hN'.out hb)
  have P_8 := Lib.hid (P_7.out.after hN'.out hb)
  have B_8 := Lib.hid (Below.after B_7.out hb)
  clear X_7 l_7 r_7 P_7 B_7
  clear hb
  go_wp2_with fail
  refine (cA.out w8).mono ?_
  rintro e w9 ⟨rfl, hb⟩
  have X_9 := Lib.hid (nd_after hN'.out X_8.out hb)
  have l_9 := Lib.hid (l_8.out.after hN'.out hb)
  have r_9 := Lib.hid (r_8.out.after hN'.out hb)
  have P_9 := Lib.hid (P_8.out.after hN'.out hb)
  have B_9 := Lib.hid (Below.after B_8.out hb)
  clear X_8 l_8 r_8 P_8 B_8
  clear hb
  go_wp2
  go_ret
  exact ⟨rfl, B_9.out⟩
theorem avlHigh_any (hN : NodeSays Nd) (hS : AvlSays Nd) (A : Option Addr) (n c : Nat) (l : List Bd) (hl : l.length = n) (hn : n ≤ c) (hc : c ≤ maxLen) (hz : A = none → c = 0) (w : World) (hr : Row w w.heap.size A (flat7 l)) : Calls Try.prog 9 #[.slice A n c] w fun e w' => e = .returned (.bool true) ∧ Below w.heap.size w w' := by
  rcases long_or hl hn hc hz hr with h | ⟨h, t, ht⟩
  · exact avlHigh_long hN hS A n c w h
  · cases e1 : mayA t with
    | false => exact avlHigh_no hN hS A n c l t w h ht e1
    | true =>
      cases t with
      | e => exact avlHigh_none hN hS A n c l w h ht
      | n tl k v g tr => exact avlHigh_yes hN hS A n c l tl tr k v g w h ht e1
end Go.Proofs.Ytifhnaelkjfmdaa
