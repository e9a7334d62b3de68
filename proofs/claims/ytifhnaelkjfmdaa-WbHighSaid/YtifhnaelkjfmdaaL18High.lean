/- Layer 18: the statement WbHigh, walked. Made by wip/gen/layer18laws.py. -/
import Derived.Test.YtifhnaelkjfmdaaL18Alive
namespace Go.Proofs.Ytifhnaelkjfmdaa
open Go.RowKit Go.Proofs.Treem
set_option maxRecDepth 100000
variable {Nd : NdP}

set_option maxHeartbeats 2000000 in
theorem wbHigh_long (hN : NodeSays Nd) (hS : WbSays Nd) (A : Option Addr) (n c : Nat) (w : World) (h : LongAt w A n c true) : Calls Try.prog 6 #[.slice A n c] w fun e w' => e = .returned (.bool true) ∧ Below w.heap.size w w' := by
  have c0 := Lib.hid (h w (Below.refl _ _))
  have c9 := Lib.hid (alive18_any hN hS w)
  clear h hN hS
  go_enter Try.func6, Try.ntmps6
  go_wp2_with fail
  refine c0.out.mono ?_
  rintro e w' ⟨rfl, rfl⟩
  go_wp2_with fail
  refine c9.out.mono ?_
  rintro e w1 ⟨rfl, hb⟩
  have b1 := Lib.hid hb
  clear hb
  go_wp2
  go_ret
  exact ⟨rfl, b1.out⟩
set_option maxHeartbeats 4000000 in
theorem light18 (hN : NodeSays Nd) (hS : WbSays Nd) : ∀ (t : Tr) (p : Option Addr) (k : Nat) (w : World), TreeAt Nd w w.heap.size t p → mayW t = true → t.size ≤ 400 → t.high ≤ k → k ≤ 500 → Calls Try.prog 32 #[.pointer p, nI k] w fun e w' => e = .returned (.tuple #[nI t.high, .bool true]) ∧ Below w.heap.size w w' := by
  intro t
  induction t with
  | e =>
    intro p k w h hm hs hk h5
    obtain rfl : p = none := h
    go_enter Try.func32, Try.ntmps32
    go_wp2
    go_ret2
    exact ⟨rfl, Below.refl _ _⟩
  | n l kk v g r ihl ihr =>
    intro p k w h hm hs hk h5
    obtain ⟨a, pl, pr, rfl, h2, h3, h4⟩ := h
    obtain ⟨-, hml, hmr⟩ := mayW_n.1 hm
    obtain ⟨s1, s2⟩ := side_W hm
    have hss : l.size ≤ 400 ∧ r.size ≤ 400 := by rw [Tr.size] at hs; omega
    have hans : (Tr.n l kk v g r).high = 1 + max l.high r.high := rfl
    rw [hans] at hk ⊢
    have ha1 : l.high ≤ k - 1 := by omega
    have ha2 : r.high ≤ k - 1 := by omega
    have k1 : 1 ≤ k := by omega
    have hL := Lib.hid (fun p w h => ihl p (k - 1) w h hml hss.1 ha1 (by omega))
    have hR := Lib.hid (fun p w h => ihr p (k - 1) w h hmr hss.2 ha2 (by omega))
    have cl : Hid (∀ W p, TreeAt Nd W W.heap.size l p → Calls Try.prog 22 #[.pointer p] W fun e w' => e = .returned (nI (l.size + 1)) ∧ Below W.heap.size W w') := fun W p hp => hS.weight W l p hp (by omega)
    have cr : Hid (∀ W p, TreeAt Nd W W.heap.size r p → Calls Try.prog 22 #[.pointer p] W fun e w' => e = .returned (nI (r.size + 1)) ∧ Below W.heap.size W w') := fun W p hp => hS.weight W r p hp (by omega)
    have ct : Hid (∀ W p, TreeAt Nd W W.heap.size (.n l kk v g r) p → Calls Try.prog 22 #[.pointer p] W fun e w' => e = .returned (nI ((Tr.n l kk v g r).size + 1)) ∧ Below W.heap.size W w') := fun W p hp => hS.weight W _ p hp (by omega)
    have T_0 : Hid (TreeAt Nd w w.heap.size (.n l kk v g r) (some a)) := ⟨a, pl, pr, rfl, h2, h3, h4⟩
    obtain ⟨x, hx⟩ : ∃ x, l.high = x := ⟨_, rfl⟩
    obtain ⟨y, hy⟩ : ∃ y, r.high = y := ⟨_, rfl⟩
    rw [hx] at hL ha1
    rw [hy] at hR ha2
    rw [hx, hy]
    obtain ⟨j, hj⟩ : ∃ j, k - 1 = j := ⟨_, rfl⟩
    rw [hj] at hL hR ha1 ha2
    obtain ⟨A, hA⟩ : ∃ x, l.size + 1 = x := ⟨_, rfl⟩
    obtain ⟨D, hD⟩ : ∃ x, r.size + 1 = x := ⟨_, rfl⟩
    obtain ⟨E, hE⟩ : ∃ x, (Tr.n l kk v g r).size + 1 = x := ⟨_, rfl⟩
    rw [hA] at cl s1
    rw [hD] at cr s2
    rw [hE] at ct s1 s2
    have hA9 : A ≤ 401 := by omega
    have hD9 : D ≤ 401 := by omega
    have hE9 : E ≤ 401 := by omega
    obtain ⟨tt, htt⟩ : ∃ t, Tr.n l kk v g r = t := ⟨_, rfl⟩
    rw [htt] at T_0 ct
    have wr : IntKind.i64.wrap ((k : Int) - 1) = (j : Int) := by rw [show (k : Int) - 1 = (j : Int) by omega]; exact IntWalk.i64_in _ (by omega)
    have w1 : IntKind.i64.wrap (100 * (A : Int)) = 100 * (A : Int) := IntWalk.i64_in _ (by omega)
    have w2 : IntKind.i64.wrap (100 * (D : Int)) = 100 * (D : Int) := IntWalk.i64_in _ (by omega)
    have w3 : IntKind.i64.wrap (71 * (E : Int)) = 71 * (E : Int) := IntWalk.i64_in _ (by omega)
    have d1 : ((k : Int) == 0) = false := by simp; omega
    have d2 : decide (71 * (E : Int) < 100 * (A : Int)) = false := decide_eq_false (by omega)
    have d3 : decide (71 * (E : Int) < 100 * (D : Int)) = false := decide_eq_false (by omega)
    obtain ⟨m, hm⟩ : ∃ m, 1 + max x y = m := ⟨_, rfl⟩
    rw [hm]
    have X_0 := Lib.hid h2
    have L_0 := Lib.hid h3
    have R_0 := Lib.hid h4
    have hN' := Lib.hid hN
    have hj5 : j ≤ 500 := by omega
    have hm' := Lib.hid hm
    clear ihl ihr h2 h3 h4 hN hS hans hk hx hy hj hA hD hE htt k1 h5 hs hss hml hmr hm
    have B_0 := Lib.hid (Below.refl w.heap.size w)
    go_enter Try.func32, Try.ntmps32
    go_wp2_with fail
    refine (hN'.out.left w _ _ _ X_0.out).mono ?_
    rintro e w' ⟨rfl, rfl⟩
    go_wp2_with fail
    refine (cl.out w _ L_0.out).mono ?_
    rintro e w1 ⟨rfl, hb⟩
    have X_1 := Lib.hid (nd_after hN'.out X_0.out hb)
    have L_1 := Lib.hid (L_0.out.after hN'.out hb)
    have R_1 := Lib.hid (R_0.out.after hN'.out hb)
    have T_1 := Lib.hid (T_0.out.after hN'.out hb)
    have B_1 := Lib.hid (Below.after B_0.out hb)
    clear X_0 L_0 R_0 T_0 B_0
    clear hb
    go_wp2_with fail
    refine (ct.out w1 _ T_1.out).mono ?_
    rintro e w2 ⟨rfl, hb⟩
    have X_2 := Lib.hid (nd_after hN'.out X_1.out hb)
    have L_2 := Lib.hid (L_1.out.after hN'.out hb)
    have R_2 := Lib.hid (R_1.out.after hN'.out hb)
    have T_2 := Lib.hid (T_1.out.after hN'.out hb)
    have B_2 := Lib.hid (Below.after B_1.out hb)
    clear X_1 L_1 R_1 T_1 B_1
    clear hb
    go_wp2_with fail
    refine (hN'.out.right w2 _ _ _ X_2.out).mono ?_
    rintro e w' ⟨rfl, rfl⟩
    go_wp2_with fail
    refine (cr.out w2 _ R_2.out).mono ?_
    rintro e w3 ⟨rfl, hb⟩
    have X_3 := Lib.hid (nd_after hN'.out X_2.out hb)
    have L_3 := Lib.hid (L_2.out.after hN'.out hb)
    have R_3 := Lib.hid (R_2.out.after hN'.out hb)
    have T_3 := Lib.hid (T_2.out.after hN'.out hb)
    have B_3 := Lib.hid (Below.after B_2.out hb)
    clear X_2 L_2 R_2 T_2 B_2
    clear hb
    go_wp2_with fail
    refine (ct.out w3 _ T_3.out).mono ?_
    rintro e w4 ⟨rfl, hb⟩
    have X_4 := Lib.hid (nd_after hN'.out X_3.out hb)
    have L_4 := Lib.hid (L_3.out.after hN'.out hb)
    have R_4 := Lib.hid (R_3.out.after hN'.out hb)
    have T_4 := Lib.hid (T_3.out.after hN'.out hb)
    have B_4 := Lib.hid (Below.after B_3.out hb)
    clear X_3 L_3 R_3 T_3 B_3
    clear hb
    go_wp2_with fail
    refine (hN'.out.left w4 _ _ _ X_4.out).mono ?_
    rintro e w' ⟨rfl, rfl⟩
    go_wp2_with fail
    refine (hL.out _ w4 L_4.out).mono ?_
    rintro e w5 ⟨rfl, hb⟩
    have X_5 := Lib.hid (nd_after hN'.out X_4.out hb)
    have L_5 := Lib.hid (L_4.out.after hN'.out hb)
    have R_5 := Lib.hid (R_4.out.after hN'.out hb)
    have T_5 := Lib.hid (T_4.out.after hN'.out hb)
    have B_5 := Lib.hid (Below.after B_4.out hb)
    clear X_4 L_4 R_4 T_4 B_4
    clear hb
    go_wp2_with fail
    refine (hN'.out.right w5 _ _ _ X_5.out).mono ?_
    rintro e w' ⟨rfl, rfl⟩
    go_wp2_with fail
    refine (hR.out _ w5 R_5.out).mono ?_
    rintro e w6 ⟨rfl, hb⟩
    have X_6 := Lib.hid (nd_after hN'.out X_5.out hb)
    have L_6 := Lib.hid (L_5.out.after hN'.out hb)
    have R_6 := Lib.hid (R_5.out.after hN'.out hb)
    have T_6 := Lib.hid (T_5.out.after hN'.out hb)
    have B_6 := Lib.hid (Below.after B_5.out hb)
    clear X_5 L_5 R_5 T_5 B_5
    clear hb
    have hm := hm'.out
    clear s1 s2 w1 w2 w3 d2 d3 hA9 hD9 hE9
    by_cases hxy : x < y
    · have e1 : IntKind.i64.wrap (1 + (y : Int)) = 1 + (y : Int) := IntWalk.i64_in _ (by omega)
      have e2 : (1 : Int) + (y : Int) = (m : Int) := by rw [Nat.max_eq_right (Nat.le_of_lt hxy)] at hm; omega
      clear hm
      go_wp2
      all_goals first
        | (exfalso; omega)
        | (go_ret2; exact ⟨rfl, B_6.out⟩)
    · have e1 : IntKind.i64.wrap (1 + (x : Int)) = 1 + (x : Int) := IntWalk.i64_in _ (by omega)
      have e2 : (1 : Int) + (x : Int) = (m : Int) := by rw [Nat.max_eq_left (by omega)] at hm; omega
      clear hm
      go_wp2
      all_goals first
        | (exfalso; omega)
        | (go_ret2; exact ⟨rfl, B_6.out⟩)
set_option maxHeartbeats 4000000 in
theorem wbHigh_no (hN : NodeSays Nd) (hS : WbSays Nd) (A : Option Addr) (n c : Nat) (l : List Bd) (t : Tr) (w : World) (h : LongAt w A n c false) (ht : TreeIn w A n c l t) (e1 : mayW t = false) : Calls Try.prog 6 #[.slice A n c] w fun e w' => e = .returned (.bool true) ∧ Below w.heap.size w w' := by
  have c0 := Lib.hid (h w (Below.refl _ _))
  have cM := Lib.hid (ht.make hN)
  have hts : t.size ≤ 400 := by rw [ht.size]; exact ht.few
  have cA : Hid (∀ W, Calls Try.prog 16 #[] W fun e w' => e = .returned (.bool true) ∧ Below W.heap.size W w') := fun W => alive18_any hN hS W
  have cC : Hid (∀ W p, TreeAt Nd W W.heap.size t p → Calls Try.prog 20 #[.pointer p] W fun e w' => e = .returned (.bool false) ∧ Below W.heap.size W w') := fun W p hp => e1 ▸ hS.may W t p hp (by omega)
  have hN' := Lib.hid hN
  clear hN hS h ht hts e1
  go_enter Try.func6, Try.ntmps6
  have B_0 := Lib.hid (Below.refl w.heap.size w)
  go_wp2_with fail
  refine (c0.out).mono ?_
  rintro e w' ⟨rfl, rfl⟩
  go_wp2_with fail
  refine (cM.out w B_0.out).mono ?_
  rintro e w1 ⟨p, rfl, hP, hb⟩
  have B_1 := Lib.hid (Below.after B_0.out hb)
  clear B_0
  have P_1 := Lib.hid hP
  clear hP
  clear hb
  go_wp2_with fail
  refine (cC.out w1 _ P_1.out).mono ?_
  rintro e w2 ⟨rfl, hb⟩
  have P_2 := Lib.hid (P_1.out.after hN'.out hb)
  have B_2 := Lib.hid (Below.after B_1.out hb)
  clear P_1 B_1
  clear hb
  go_wp2_with fail
  refine (cA.out w2).mono ?_
  rintro e w3 ⟨rfl, hb⟩
  have P_3 := Lib.hid (P_2.out.after hN'.out hb)
  have B_3 := Lib.hid (Below.after B_2.out hb)
  clear P_2 B_2
  clear hb
  go_wp2
  go_ret
  exact ⟨rfl, B_3.out⟩
set_option maxHeartbeats 4000000 in
theorem wbHigh_yes (hN : NodeSays Nd) (hS : WbSays Nd) (A : Option Addr) (n c : Nat) (l : List Bd) (t : Tr) (w : World) (h : LongAt w A n c false) (ht : TreeIn w A n c l t) (e1 : mayW t = true) : Calls Try.prog 6 #[.slice A n c] w fun e w' => e = .returned (.bool true) ∧ Below w.heap.size w w' := by
  have c0 := Lib.hid (h w (Below.refl _ _))
  have cM := Lib.hid (ht.make hN)
  have hts : t.size ≤ 400 := by rw [ht.size]; exact ht.few
  have cA : Hid (∀ W, Calls Try.prog 16 #[] W fun e w' => e = .returned (.bool true) ∧ Below W.heap.size W w') := fun W => alive18_any hN hS W
  have cC : Hid (∀ W p, TreeAt Nd W W.heap.size t p → Calls Try.prog 20 #[.pointer p] W fun e w' => e = .returned (.bool true) ∧ Below W.heap.size W w') := fun W p hp => e1 ▸ hS.may W t p hp (by omega)
  have hh := weight_high e1 hts
  have hl := weight_least t e1
  have cL : Hid (∀ W p, TreeAt Nd W W.heap.size t p → Calls Try.prog 32 #[.pointer p, .int .i64 500] W fun e w' => e = .returned (.tuple #[nI t.high, .bool true]) ∧ Below W.heap.size W w') := fun W p hp => light18 hN hS t p 500 W hp e1 hts (by omega) (by omega)
  have cW : Hid (∀ W p, TreeAt Nd W W.heap.size t p → Calls Try.prog 22 #[.pointer p] W fun e w' => e = .returned (nI (t.size + 1)) ∧ Below W.heap.size W w') := fun W p hp => hS.weight W t p hp (by omega)
  have cE : Hid (∀ W, Calls Try.prog 33 #[nI t.high] W fun e w' => e = .returned (nI (leastW t.high)) ∧ W = w') := fun W => refLeast18 t.high (by omega) W
  obtain ⟨x, hx⟩ : ∃ x, t.high = x := ⟨_, rfl⟩
  obtain ⟨y, hy⟩ : ∃ y, t.size + 1 = y := ⟨_, rfl⟩
  obtain ⟨z, hz⟩ : ∃ z, leastW t.high = z := ⟨_, rfl⟩
  rw [hz] at hl cE
  rw [hx] at cL cE hh
  rw [hy] at hl cW
  have d1 : decide ((x : Int) < 30) = true := decide_eq_true (by omega)
  have d2 : decide ((z : Int) ≤ (y : Int)) = true := decide_eq_true (by omega)
  clear hx hy hz
  have hN' := Lib.hid hN
  clear hN hS h ht hts e1
  go_enter Try.func6, Try.ntmps6
  have B_0 := Lib.hid (Below.refl w.heap.size w)
  go_wp2_with fail
  refine (c0.out).mono ?_
  rintro e w' ⟨rfl, rfl⟩
  go_wp2_with fail
  refine (cM.out w B_0.out).mono ?_
  rintro e w1 ⟨p, rfl, hP, hb⟩
  have B_1 := Lib.hid (Below.after B_0.out hb)
  clear B_0
  have P_1 := Lib.hid hP
  clear hP
  clear hb
  go_wp2_with fail
  refine (cC.out w1 _ P_1.out).mono ?_
  rintro e w2 ⟨rfl, hb⟩
  have P_2 := Lib.hid (P_1.out.after hN'.out hb)
  have B_2 := Lib.hid (Below.after B_1.out hb)
  clear P_1 B_1
  clear hb
  go_wp2_with fail
  refine (cL.out w2 _ P_2.out).mono ?_
  rintro e w3 ⟨rfl, hb⟩
  have P_3 := Lib.hid (P_2.out.after hN'.out hb)
  have B_3 := Lib.hid (Below.after B_2.out hb)
  clear P_2 B_2
  clear hb
  go_wp2_with fail
  refine (cW.out w3 _ P_3.out).mono ?_
  rintro e w4 ⟨rfl, hb⟩
  have P_4 := Lib.hid (P_3.out.after hN'.out hb)
  have B_4 := Lib.hid (Below.after B_3.out hb)
  clear P_3 B_3
  clear hb
  go_wp2_with fail
  refine (cE.out w4).mono ?_
  rintro e w' ⟨rfl, rfl⟩
  go_wp2_with fail
  refine (cA.out w4).mono ?_
  rintro e w5 ⟨rfl, hb⟩
  have P_5 := Lib.hid (P_4.out.after hN'.out hb)
  have B_5 := Lib.hid (Below.after B_4.out hb)
  clear P_4 B_4
  clear hb
  go_wp2
  go_ret
  exact ⟨rfl, B_5.out⟩
theorem wbHigh_any (hN : NodeSays Nd) (hS : WbSays Nd) (A : Option Addr) (n c : Nat) (l : List Bd) (hl : l.length = n) (hn : n ≤ c) (hc : c ≤ maxLen) (hz : A = none → c = 0) (w : World) (hr : Row w w.heap.size A (flat7 l)) : Calls Try.prog 6 #[.slice A n c] w fun e w' => e = .returned (.bool true) ∧ Below w.heap.size w w' := by
  rcases long_or hl hn hc hz hr with h | ⟨h, t, ht⟩
  · exact wbHigh_long hN hS A n c w h
  · cases e1 : mayW t with
    | false => exact wbHigh_no hN hS A n c l t w h ht e1
    | true => exact wbHigh_yes hN hS A n c l t w h ht e1
end Go.Proofs.Ytifhnaelkjfmdaa
