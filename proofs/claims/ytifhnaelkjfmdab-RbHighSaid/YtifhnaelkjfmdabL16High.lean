/- Layer 16: the statement RbHigh, walked. Made by wip/gen/layer16laws.py. -/
import Derived.Test.YtifhnaelkjfmdabL16Alive
namespace Go.Proofs.Ytifhnaelkjfmdab
open Go.RowKit Go.Proofs.Treem
set_option maxRecDepth 100000
variable {Nd : NdP}

set_option maxHeartbeats 2000000 in
theorem rbHigh_long (hN : NodeSays Nd) (hS : RbSays Nd) (A : Option Addr) (n c : Nat) (w : World) (h : LongAt w A n c true) : Calls Try.prog 5 #[.slice A n c] w fun e w' => e = .returned (.bool true) ∧ Below w.heap.size w w' := by
  have c0 := Lib.hid (h w (Below.refl _ _))
  have c9 := Lib.hid (alive16_any hN hS w)
  clear h hN hS
  go_enter Try.func5, Try.ntmps5
  go_wp2_with fail
  refine c0.out.mono ?_
  rintro e w' ⟨rfl, rfl⟩
  go_wp2_with fail
  refine c9.out.mono ?_
  rintro e w1 ⟨rfl, hb⟩
  have b1 := Lib.hid hb
  clear hb
  go_wp2
  go_ret
  exact ⟨rfl, b1.out⟩
set_option maxHeartbeats 4000000 in
theorem height16 (hN : NodeSays Nd) : ∀ (t : Tr) (p : Option Addr) (k : Nat) (w : World), TreeAt Nd w w.heap.size t p → t.high ≤ k → k ≤ 500 → Calls Try.prog 23 #[.pointer p, nI k] w fun e w' => e = .returned (nI t.high) ∧ Below w.heap.size w w' := by
  intro t
  induction t with
  | e =>
    intro p k w h hk h5
    obtain rfl : p = none := h
    go_enter Try.func23, Try.ntmps23
    go_wp2
    go_ret
    exact ⟨rfl, Below.refl _ _⟩
  | n l kk v g r ihl ihr =>
    intro p k w h hk h5
    obtain ⟨a, pl, pr, rfl, h2, h3, h4⟩ := h
    have hans : (Tr.n l kk v g r).high = 1 + max l.high r.high := rfl
    rw [hans] at hk ⊢
    have ha1 : l.high ≤ k - 1 := by omega
    have ha2 : r.high ≤ k - 1 := by omega
    have k1 : 1 ≤ k := by omega
    have hL := Lib.hid (fun p w h => ihl p (k - 1) w h ha1 (by omega))
    have hR := Lib.hid (fun p w h => ihr p (k - 1) w h ha2 (by omega))
    obtain ⟨x, hx⟩ : ∃ x, l.high = x := ⟨_, rfl⟩
    obtain ⟨y, hy⟩ : ∃ y, r.high = y := ⟨_, rfl⟩
    rw [hx] at hL ha1
    rw [hy] at hR ha2
    rw [hx, hy]
    obtain ⟨j, hj⟩ : ∃ j, k - 1 = j := ⟨_, rfl⟩
    rw [hj] at hL hR ha1 ha2
    have wr : IntKind.i64.wrap ((k : Int) - 1) = (j : Int) := by rw [show (k : Int) - 1 = (j : Int) by omega]; exact IntWalk.i64_in _ (by omega)
    have d1 : ((k : Int) == 0) = false := by simp; omega
    have d2 : decide ((x : Int) < 0) = false := decide_eq_false (by omega)
    have d3 : decide ((y : Int) < 0) = false := decide_eq_false (by omega)
    obtain ⟨m, hm⟩ : ∃ m, 1 + max x y = m := ⟨_, rfl⟩
    rw [hm]
    have hX := Lib.hid h2
    have hl := Lib.hid h3
    have hr := Lib.hid h4
    have hN' := Lib.hid hN
    have hj5 : j ≤ 500 := by omega
    clear ihl ihr h2 h3 h4 hN hans hk hx hy hj k1 h5
    go_enter Try.func23, Try.ntmps23
    go_wp2_with fail
    refine (hN'.out.left w _ _ _ hX.out).mono ?_
    rintro e w' ⟨rfl, rfl⟩
    go_wp2_with fail
    refine (hL.out _ w hl.out).mono ?_
    rintro e w1 ⟨rfl, hb⟩
    have b1 := Lib.hid hb
    have X1 := Lib.hid (nd_after hN'.out hX.out hb)
    have r1 := Lib.hid (hr.out.after hN'.out hb)
    clear hb hL hX hr hl
    go_wp2_with fail
    refine (hN'.out.right w1 _ _ _ X1.out).mono ?_
    rintro e w' ⟨rfl, rfl⟩
    go_wp2_with fail
    refine (hR.out _ w1 r1.out).mono ?_
    rintro e w2 ⟨rfl, hb⟩
    have b2 := Lib.hid (Below.after b1.out hb)
    clear hb hR X1 r1 b1
    by_cases hxy : x < y
    · have e1 : IntKind.i64.wrap (1 + (y : Int)) = 1 + (y : Int) := IntWalk.i64_in _ (by omega)
      have e2 : (1 : Int) + (y : Int) = (m : Int) := by rw [Nat.max_eq_right (Nat.le_of_lt hxy)] at hm; omega
      clear hm
      go_wp2
      all_goals first
        | (exfalso; omega)
        | (go_ret; exact ⟨rfl, b2.out⟩)
    · have e1 : IntKind.i64.wrap (1 + (x : Int)) = 1 + (x : Int) := IntWalk.i64_in _ (by omega)
      have e2 : (1 : Int) + (x : Int) = (m : Int) := by rw [Nat.max_eq_left (by omega)] at hm; omega
      clear hm
      go_wp2
      all_goals first
        | (exfalso; omega)
        | (go_ret; exact ⟨rfl, b2.out⟩)
theorem pow_less {z n : Nat} (h1 : 1 ≤ z) (h9 : z ≤ 4096) (hn : z ≤ n + 1) : wrap64 (z : Int) = (z : Int) ∧ wrap64 ((z : Int) - 1) = (z : Int) - 1 ∧ decide ((z : Int) - 1 ≤ (n : Int)) = true :=
  ⟨IntWalk.wrap64_in _ (by omega), IntWalk.wrap64_in _ (by omega), decide_eq_true (by omega)⟩
set_option maxHeartbeats 4000000 in
theorem rbHigh_no (hN : NodeSays Nd) (hS : RbSays Nd) (A : Option Addr) (n c : Nat) (l : List Bd) (t : Tr) (w : World) (h : LongAt w A n c false) (ht : TreeIn w A n c l t) (e1 : mayR t = false) : Calls Try.prog 5 #[.slice A n c] w fun e w' => e = .returned (.bool true) ∧ Below w.heap.size w w' := by
  have c0 := Lib.hid (h w (Below.refl _ _))
  have cM := Lib.hid (ht.make hN)
  have hts : t.size ≤ 400 := by rw [ht.size]; exact ht.few
  have cA : Hid (∀ W, Calls Try.prog 10 #[] W fun e w' => e = .returned (.bool true) ∧ Below W.heap.size W w') := fun W => alive16_any hN hS W
  have cC : Hid (∀ W p, TreeAt Nd W W.heap.size t p → Calls Try.prog 22 #[.pointer p] W fun e w' => e = .returned (.bool false) ∧ Below W.heap.size W w') := fun W p hp => e1 ▸ hS.may W t p hp (by omega)
  have hN' := Lib.hid hN
  clear hN hS h ht hts e1
  go_enter Try.func5, Try.ntmps5
  have B_0 := Lib.hid (Below.refl w.heap.size w)
  go_wp2_with fail
  refine (c0.out).mono ?_
  rintro e w' ⟨rfl, rfl⟩
  go_wp2_with fail
  refine (cM.out w B_0.out).mono ?_
  rintro e w1 ⟨p, rfl, hP, hb⟩
  have B_1 := Lib.hid (Below.after B_0.out hb)
  clear B_0
  have P_1 := Lib.hid hP
  clear hP
  clear hb
  go_wp2_with fail
  refine (cC.out w1 _ P_1.out).mono ?_
  rintro e w2 ⟨rfl, hb⟩
  have P_2 := Lib.hid (P_1.out.after hN'.out hb)
  have B_2 := Lib.hid (Below.after B_1.out hb)
  clear P_1 B_1
  clear hb
  go_wp2_with fail
  refine (cA.out w2).mono ?_
  rintro e w3 ⟨rfl, hb⟩
  have P_3 := Lib.hid (P_2.out.after hN'.out hb)
  have B_3 := Lib.hid (Below.after B_2.out hb)
  clear P_2 B_2
  clear hb
  go_wp2
  go_ret
  exact ⟨rfl, B_3.out⟩
set_option maxHeartbeats 4000000 in
theorem rbHigh_yes (hN : NodeSays Nd) (hS : RbSays Nd) (A : Option Addr) (n c : Nat) (l : List Bd) (t : Tr) (w : World) (h : LongAt w A n c false) (ht : TreeIn w A n c l t) (e1 : mayR t = true) : Calls Try.prog 5 #[.slice A n c] w fun e w' => e = .returned (.bool true) ∧ Below w.heap.size w w' := by
  have c0 := Lib.hid (h w (Below.refl _ _))
  have cM := Lib.hid (ht.make hN)
  have hts : t.size ≤ 400 := by rw [ht.size]; exact ht.few
  have cA : Hid (∀ W, Calls Try.prog 10 #[] W fun e w' => e = .returned (.bool true) ∧ Below W.heap.size W w') := fun W => alive16_any hN hS W
  obtain ⟨m1, m2, m3, m4, m5⟩ := may_rank e1 (by omega)
  have hb12 : highR t ≤ 12 := (part_few (by rw [may_R, Bool.and_eq_true] at e1; exact e1.1) (by omega)).1
  have hn := ht.size
  have cC : Hid (∀ W p, TreeAt Nd W W.heap.size t p → Calls Try.prog 22 #[.pointer p] W fun e w' => e = .returned (.bool true) ∧ Below W.heap.size W w') := fun W p hp => e1 ▸ hS.may W t p hp (by omega)
  have cH : Hid (∀ W p, TreeAt Nd W W.heap.size t p → Calls Try.prog 23 #[.pointer p, .int .i64 500] W fun e w' => e = .returned (nI t.high) ∧ Below W.heap.size W w') := fun W p hp => height16 hN t p 500 W hp (by omega) (by omega)
  have cG : Hid (∀ W p, TreeAt Nd W W.heap.size t p → Calls Try.prog 20 #[.pointer p] W fun e w' => e = .returned (nI (highR t)) ∧ Below W.heap.size W w') := fun W p hp => hS.high W t p hp
  have cS : Hid (∀ W p, TreeAt Nd W W.heap.size t p → Calls Try.prog 24 #[.pointer p] W fun e w' => e = .returned (nI n) ∧ Below W.heap.size W w') := fun W p hp => by have := hp.look.size hN; rw [show K (BitVec.ofNat 64 t.size) = nI t.size from by show Value.int .i64 _ = _; rw [size_bits (by omega)], hn] at this; exact this
  have cR : Hid (∀ W p, TreeAt Nd W W.heap.size t p → Calls Try.prog 26 #[.pointer p] W fun e w' => e = .returned (.int .i64 (rankR t).toInt) ∧ Below W.heap.size W w') := fun W p hp => hS.rank W t p hp
  have cO := Lib.hid (fun W (hb : Below w.heap.size w W) => ht.of W hb)
  obtain ⟨x, hx⟩ : ∃ x, t.high = x := ⟨_, rfl⟩
  obtain ⟨y, hy⟩ : ∃ x, highR t = x := ⟨_, rfl⟩
  obtain ⟨r, hr⟩ : ∃ x, (rankR t).toInt = x := ⟨_, rfl⟩
  rw [hx] at cH m2 m3 m4 m5
  rw [hy] at cG m1 m2
  rw [hr] at cR m1
  have m1 : r = 2 * (y : Int) := by rw [m1]; omega
  have wr5 : IntKind.i64.wrap (2 * (y : Int)) = r := by rw [m1]; exact IntWalk.i64_in _ (by rw [← hy]; omega)
  rw [hn] at m3
  obtain ⟨cc, hc⟩ : ∃ cc, (x + 1) / 2 = cc := ⟨_, rfl⟩
  rw [hc] at m2 m3 m4
  obtain ⟨z, hz⟩ : ∃ z, 2 ^ cc = z := ⟨_, rfl⟩
  have hz9 : z ≤ 4096 := by rw [← hz]; exact Nat.le_trans (Nat.pow_le_pow_right (by decide) m4) (by decide)
  have hz1 : 1 ≤ z := by rw [← hz]; exact Nat.one_le_two_pow
  have hy9 : y ≤ 12 := by rw [← hy]; exact hb12
  rw [hz] at m3
  have pz := Lib.hid (show (2 : Int) ^ cc = (z : Int) by rw [← hz]; simp)
  clear hz
  have wr1 : IntKind.i64.wrap ((x : Int) + 1) = (x : Int) + 1 := IntWalk.i64_in _ (by omega)
  have wr2 : ((x : Int) + 1).tdiv 2 = (cc : Int) := by rw [Int.tdiv_eq_ediv_of_nonneg (by omega)]; omega
  obtain ⟨wr0, wr4, d4⟩ := pow_less hz1 hz9 m3
  have d1 : decide ((0 : Int) ≤ (x : Int)) = true := decide_eq_true (by omega)
  have d2 : decide ((cc : Int) ≤ (y : Int)) = true := decide_eq_true (by omega)
  have d3 : decide ((cc : Int) < 20) = true := decide_eq_true (by omega)
  have wr3 : wrap64 ((2 : Int) ^ cc) = (z : Int) := by rw [pz.out]; exact wr0
  have hN' := Lib.hid hN
  clear hx hy hr hN hS h ht hts e1 hn hb12 pz wr0 hc m1 m3 m5 hz9 hz1 hy9
  go_enter Try.func5, Try.ntmps5
  have B_0 := Lib.hid (Below.refl w.heap.size w)
  go_wp2_with fail
  refine (c0.out).mono ?_
  rintro e w' ⟨rfl, rfl⟩
  go_wp2_with fail
  refine (cM.out w B_0.out).mono ?_
  rintro e w1 ⟨p, rfl, hP, hb⟩
  have B_1 := Lib.hid (Below.after B_0.out hb)
  clear B_0
  have P_1 := Lib.hid hP
  clear hP
  clear hb
  go_wp2_with fail
  refine (cC.out w1 _ P_1.out).mono ?_
  rintro e w2 ⟨rfl, hb⟩
  have P_2 := Lib.hid (P_1.out.after hN'.out hb)
  have B_2 := Lib.hid (Below.after B_1.out hb)
  clear P_1 B_1
  clear hb
  go_wp2_with fail
  refine (cH.out w2 _ P_2.out).mono ?_
  rintro e w3 ⟨rfl, hb⟩
  have P_3 := Lib.hid (P_2.out.after hN'.out hb)
  have B_3 := Lib.hid (Below.after B_2.out hb)
  clear P_2 B_2
  clear hb
  go_wp2_with fail
  refine (cG.out w3 _ P_3.out).mono ?_
  rintro e w4 ⟨rfl, hb⟩
  have P_4 := Lib.hid (P_3.out.after hN'.out hb)
  have B_4 := Lib.hid (Below.after B_3.out hb)
  clear P_3 B_3
  clear hb
  go_wp2_with fail
  refine (cS.out w4 _ P_4.out).mono ?_
  rintro e w5 ⟨rfl, hb⟩
  have P_5 := Lib.hid (P_4.out.after hN'.out hb)
  have B_5 := Lib.hid (Below.after B_4.out hb)
  clear P_4 B_4
  clear hb
  go_wp2_with fail
  refine (cS.out w5 _ P_5.out).mono ?_
  rintro e w6 ⟨rfl, hb⟩
  have P_6 := Lib.hid (P_5.out.after hN'.out hb)
  have B_6 := Lib.hid (Below.after B_5.out hb)
  clear P_5 B_5
  clear hb
  go_wp2_with fail
  refine (cO.out w6 B_6.out).mono ?_
  rintro e w7 ⟨A3, c3, rfl, hR, hb⟩
  have P_7 := Lib.hid (P_6.out.after hN'.out hb)
  have B_7 := Lib.hid (Below.after B_6.out hb)
  clear P_6 B_6
  have R_7 := Lib.hid hR
  clear hR
  clear hb
  go_wp2_with fail
  refine (cR.out w7 _ P_7.out).mono ?_
  rintro e w8 ⟨rfl, hb⟩
  have P_8 := Lib.hid (P_7.out.after hN'.out hb)
  have R_8 := Lib.hid (R_7.out.after hb)
  have B_8 := Lib.hid (Below.after B_7.out hb)
  clear P_7 R_7 B_7
  clear hb
  go_wp2_with fail
  refine (cG.out w8 _ P_8.out).mono ?_
  rintro e w9 ⟨rfl, hb⟩
  have P_9 := Lib.hid (P_8.out.after hN'.out hb)
  have R_9 := Lib.hid (R_8.out.after hb)
  have B_9 := Lib.hid (Below.after B_8.out hb)
  clear P_8 R_8 B_8
  clear hb
  go_wp2_with fail
  refine (cA.out w9).mono ?_
  rintro e w10 ⟨rfl, hb⟩
  have P_10 := Lib.hid (P_9.out.after hN'.out hb)
  have R_10 := Lib.hid (R_9.out.after hb)
  have B_10 := Lib.hid (Below.after B_9.out hb)
  clear P_9 R_9 B_9
  clear hb
  go_wp2
  go_ret
  exact ⟨rfl, B_10.out⟩
theorem rbHigh_any (hN : NodeSays Nd) (hS : RbSays Nd) (A : Option Addr) (n c : Nat) (l : List Bd) (hl : l.length = n) (hn : n ≤ c) (hc : c ≤ maxLen) (hz : A = none → c = 0) (w : World) (hr : Row w w.heap.size A (flat7 l)) : Calls Try.prog 5 #[.slice A n c] w fun e w' => e = .returned (.bool true) ∧ Below w.heap.size w w' := by
  rcases long_or hl hn hc hz hr with h | ⟨h, t, ht⟩
  · exact rbHigh_long hN hS A n c w h
  · cases e1 : mayR t with
    | false => exact rbHigh_no hN hS A n c l t w h ht e1
    | true => exact rbHigh_yes hN hS A n c l t w h ht e1
end Go.Proofs.Ytifhnaelkjfmdab
