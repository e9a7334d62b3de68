/- Layer 18: the statement WbMakes, walked. Made by wip/gen/layer18laws.py. -/
import Derived.Test.YtifhnaelkjfmdaaL18Alive
namespace Go.Proofs.Ytifhnaelkjfmdaa
open Go.RowKit Go.Proofs.Treem
set_option maxRecDepth 100000
variable {Nd : NdP}

set_option maxHeartbeats 2000000 in
theorem wbMakes_long1 (hN : NodeSays Nd) (hS : WbSays Nd) (A A2 : Option Addr) (n c n2 c2 : Nat) (key val : BitVec 64) (w : World) (h : LongAt w A n c true) : Calls Try.prog 5 #[.slice A n c, .slice A2 n2 c2, K key, K val] w fun e w' => e = .returned (.bool true) ∧ Below w.heap.size w w' := by
  have c0 := Lib.hid (h w (Below.refl _ _))
  have c9 := Lib.hid (alive18_any hN hS w)
  clear h hN hS
  go_enter Try.func5, Try.ntmps5
  go_wp2_with fail
  refine c0.out.mono ?_
  rintro e w' ⟨rfl, rfl⟩
  go_wp2_with fail
  refine c9.out.mono ?_
  rintro e w1 ⟨rfl, hb⟩
  have b1 := Lib.hid hb
  clear hb
  go_wp2
  go_ret
  exact ⟨rfl, b1.out⟩
set_option maxHeartbeats 2000000 in
theorem wbMakes_long2 (hN : NodeSays Nd) (hS : WbSays Nd) (A A2 : Option Addr) (n c n2 c2 : Nat) (key val : BitVec 64) (w : World) (h : LongAt w A n c false) (h2 : LongAt w A2 n2 c2 true) : Calls Try.prog 5 #[.slice A n c, .slice A2 n2 c2, K key, K val] w fun e w' => e = .returned (.bool true) ∧ Below w.heap.size w w' := by
  have c0 := Lib.hid (h w (Below.refl _ _))
  have c1 := Lib.hid (h2 w (Below.refl _ _))
  have c9 := Lib.hid (alive18_any hN hS w)
  clear h hN hS h2
  go_enter Try.func5, Try.ntmps5
  go_wp2_with fail
  refine c0.out.mono ?_
  rintro e w' ⟨rfl, rfl⟩
  go_wp2_with fail
  refine c1.out.mono ?_
  rintro e w' ⟨rfl, rfl⟩
  go_wp2_with fail
  refine c9.out.mono ?_
  rintro e w1 ⟨rfl, hb⟩
  have b1 := Lib.hid hb
  clear hb
  go_wp2
  go_ret
  exact ⟨rfl, b1.out⟩
set_option maxHeartbeats 4000000 in
theorem wbMakes_A (hN : NodeSays Nd) (hS : WbSays Nd) (A A2 : Option Addr) (n c n2 c2 : Nat) (key val : BitVec 64) (l m : List Bd) (t u : Tr) (w : World) (h : LongAt w A n c false) (h2 : LongAt w A2 n2 c2 false) (ht : TreeIn w A n c l t) (hu : TreeIn w A2 n2 c2 m u) (e1 : mayW t = false) : Calls Try.prog 5 #[.slice A n c, .slice A2 n2 c2, K key, K val] w fun e w' => e = .returned (.bool true) ∧ Below w.heap.size w w' := by
  have c0 := Lib.hid (h w (Below.refl _ _))
  have c1 := Lib.hid (h2 w (Below.refl _ _))
  have cM := Lib.hid (ht.make hN)
  have cM2 := Lib.hid (hu.make hN)
  have hts : t.size ≤ 400 := by rw [ht.size]; exact ht.few
  have hus : u.size ≤ 400 := by rw [hu.size]; exact hu.few
  have hn := ht.size
  have hn2 := hu.size
  obtain ⟨N, hNN⟩ : ∃ N, 1 + n + n2 = N := ⟨_, rfl⟩
  have hsz : (makeW t key val u).size = N := by rw [makeW, Tr.size, hn, hn2, hNN]
  have cA : Hid (∀ W, Calls Try.prog 16 #[] W fun e w' => e = .returned (.bool true) ∧ Below W.heap.size W w') := fun W => alive18_any hN hS W
  have cK : Hid (∀ W p q, TreeAt Nd W W.heap.size t p → TreeAt Nd W W.heap.size u q → Calls Try.prog 27 #[.pointer p, K key, K val, .pointer q] W fun e w' => ∃ a x, e = .returned (.pointer (some a)) ∧ x.l = p ∧ x.r = q ∧ Nd w' w'.heap.size a x ∧ TreeAt Nd w' w'.heap.size (makeW t key val u) (some a) ∧ Below W.heap.size W w') := fun W p q k1 k2 => (WbSays.makeT hN hS W t u p q key val k1 k2).mono fun e w' ⟨a, k3, _, k4, k5, k6⟩ => ⟨a, _, k3, rfl, rfl, k4, k5, k6⟩
  have cC : Hid (∀ W p, TreeAt Nd W W.heap.size t p → Calls Try.prog 20 #[.pointer p] W fun e w' => e = .returned (.bool false) ∧ Below W.heap.size W w') := fun W p hp => e1 ▸ hS.may W t p hp (by omega)
  have cW : Hid (∀ W p, TreeAt Nd W W.heap.size t p → Calls Try.prog 22 #[.pointer p] W fun e w' => e = .returned (.int .i64 ((n : Int) + 1)) ∧ Below W.heap.size W w') := fun W p hp => by have := hS.weight W t p hp (by omega); rw [hn] at this; exact this
  have cV : Hid (∀ W p, TreeAt Nd W W.heap.size u p → Calls Try.prog 22 #[.pointer p] W fun e w' => e = .returned (.int .i64 ((n2 : Int) + 1)) ∧ Below W.heap.size W w') := fun W p hp => by have := hS.weight W u p hp (by omega); rw [hn2] at this; exact this
  have eM : mayW (makeW t key val u) = false := by rw [make_W, e1]; rfl
  have cX : Hid (∀ W p, TreeAt Nd W W.heap.size (makeW t key val u) p → Calls Try.prog 20 #[.pointer p] W fun e w' => e = .returned (.bool false) ∧ Below W.heap.size W w') := fun W p hp => eM ▸ hS.may W _ p hp (by omega)
  have cY : Hid (∀ W p, TreeAt Nd W W.heap.size (makeW t key val u) p → Calls Try.prog 22 #[.pointer p] W fun e w' => e = .returned (.int .i64 ((N : Int) + 1)) ∧ Below W.heap.size W w') := fun W p hp => by have := hS.weight W _ p hp (by omega); rw [hsz] at this; exact this
  have cR : Hid (∀ W, LieB W W.heap.size A n c l → LieB W W.heap.size A2 n2 c2 m → Calls Try.prog 29 #[.slice A n c, K key, K val, .int .u64 0, .slice A2 n2 c2] W (MadeB W N (makeW t key val u).told)) := fun W k1 k2 => by
    have := node9 t u key val 0#64 A A2 n n2 c c2 l m ht.pre hu.pre hn hn2 (by omega) W k1 k2
    rw [hNN] at this
    refine this.mono ?_
    rintro e w' ⟨v', rfl, ho, hb⟩
    obtain ⟨A3, c3, rfl, k3⟩ := LieB.of_own (by rw [told_len, ← hsz]; rfl) (by omega) ho
    exact ⟨A3, c3, rfl, k3, hb⟩
  have cI := Lib.hid (fun p A c W hT hl => Is9 hN (makeW t key val u) p (by omega) A N c hsz W hT hl)
  have pe := ptr_eql
  have L_0 : Hid (LieB w w.heap.size A n c l) := ht.lie
  have M_0 : Hid (LieB w w.heap.size A2 n2 c2 m) := hu.lie
  obtain ⟨tu, htu⟩ : ∃ tu, (makeW t key val u) = tu := ⟨_, rfl⟩
  rw [htu] at cK cX cY cR cI
  have hNi : (N : Int) = 1 + (n : Int) + (n2 : Int) := by omega
  have e9 : ((N : Int) + 1 == (n : Int) + 1 + ((n2 : Int) + 1)) = true := by rw [beq_iff_eq]; omega
  have e8 : IntKind.i64.wrap ((n : Int) + 1 + ((n2 : Int) + 1)) = (n : Int) + 1 + ((n2 : Int) + 1) := IntWalk.i64_in _ (by omega)
  have hN' := Lib.hid hN
  clear htu hNN hsz hn hn2 eM hN hS h h2 ht hu hts hus e1
  go_enter Try.func5, Try.ntmps5
  have B_0 := Lib.hid (Below.refl w.heap.size w)
  go_wp2_with fail
  refine (c0.out).mono ?_
  rintro e w' ⟨rfl, rfl⟩
  go_wp2_with fail
  refine (c1.out).mono ?_
  rintro e w' ⟨rfl, rfl⟩
  go_wp2_with fail
  refine (cM.out w B_0.out).mono ?_
  rintro e w1 ⟨p, rfl, hP, hb⟩
  have L_1 := Lib.hid (L_0.out.after hb)
  have M_1 := Lib.hid (M_0.out.after hb)
  have B_1 := Lib.hid (Below.after B_0.out hb)
  clear L_0 M_0 B_0
  have P_1 := Lib.hid hP
  clear hP
  clear hb
  go_wp2_with fail
  refine (cM2.out w1 B_1.out).mono ?_
  rintro e w2 ⟨q, rfl, hQ, hb⟩
  have L_2 := Lib.hid (L_1.out.after hb)
  have M_2 := Lib.hid (M_1.out.after hb)
  have P_2 := Lib.hid (P_1.out.after hN'.out hb)
  have B_2 := Lib.hid (Below.after B_1.out hb)
  clear L_1 M_1 P_1 B_1
  have Q_2 := Lib.hid hQ
  clear hQ
  clear hb
  go_wp2_with fail
  refine (cK.out w2 _ _ P_2.out Q_2.out).mono ?_
  rintro e w3 ⟨a, x, rfl, rfl, rfl, hX, hT, hb⟩
  have L_3 := Lib.hid (L_2.out.after hb)
  have M_3 := Lib.hid (M_2.out.after hb)
  have P_3 := Lib.hid (P_2.out.after hN'.out hb)
  have Q_3 := Lib.hid (Q_2.out.after hN'.out hb)
  have B_3 := Lib.hid (Below.after B_2.out hb)
  clear L_2 M_2 P_2 Q_2 B_2
  have X_3 := Lib.hid hX
  clear hX
  have T_3 := Lib.hid hT
  clear hT
  clear hb
  go_wp2_with fail
  refine (cC.out w3 _ P_3.out).mono ?_
  rintro e w4 ⟨rfl, hb⟩
  have L_4 := Lib.hid (L_3.out.after hb)
  have M_4 := Lib.hid (M_3.out.after hb)
  have P_4 := Lib.hid (P_3.out.after hN'.out hb)
  have Q_4 := Lib.hid (Q_3.out.after hN'.out hb)
  have X_4 := Lib.hid (nd_after hN'.out X_3.out hb)
  have T_4 := Lib.hid (T_3.out.after hN'.out hb)
  have B_4 := Lib.hid (Below.after B_3.out hb)
  clear L_3 M_3 P_3 Q_3 X_3 T_3 B_3
  clear hb
  go_wp2_with fail
  refine (cR.out w4 L_4.out M_4.out).mono ?_
  rintro e w5 ⟨A3, c3, rfl, hR, hb⟩
  have L_5 := Lib.hid (L_4.out.after hb)
  have M_5 := Lib.hid (M_4.out.after hb)
  have P_5 := Lib.hid (P_4.out.after hN'.out hb)
  have Q_5 := Lib.hid (Q_4.out.after hN'.out hb)
  have X_5 := Lib.hid (nd_after hN'.out X_4.out hb)
  have T_5 := Lib.hid (T_4.out.after hN'.out hb)
  have B_5 := Lib.hid (Below.after B_4.out hb)
  clear L_4 M_4 P_4 Q_4 X_4 T_4 B_4
  have R_5 := Lib.hid hR
  clear hR
  clear hb
  go_wp2_with fail
  refine (cI.out _ _ _ w5 T_5.out R_5.out).mono ?_
  rintro e w6 ⟨rfl, hb⟩
  have L_6 := Lib.hid (L_5.out.after hb)
  have M_6 := Lib.hid (M_5.out.after hb)
  have P_6 := Lib.hid (P_5.out.after hN'.out hb)
  have Q_6 := Lib.hid (Q_5.out.after hN'.out hb)
  have X_6 := Lib.hid (nd_after hN'.out X_5.out hb)
  have T_6 := Lib.hid (T_5.out.after hN'.out hb)
  have R_6 := Lib.hid (R_5.out.after hb)
  have B_6 := Lib.hid (Below.after B_5.out hb)
  clear L_5 M_5 P_5 Q_5 X_5 T_5 R_5 B_5
  clear hb
  go_wp2_with fail
  refine (hN'.out.left w6 _ _ _ X_6.out).mono ?_
  rintro e w' ⟨rfl, rfl⟩
  go_wp2_with fail
  refine (hN'.out.right w6 _ _ _ X_6.out).mono ?_
  rintro e w' ⟨rfl, rfl⟩
  go_wp2_with fail
  refine (cX.out w6 _ T_6.out).mono ?_
  rintro e w7 ⟨rfl, hb⟩
  have L_7 := Lib.hid (L_6.out.after hb)
  have M_7 := Lib.hid (M_6.out.after hb)
  have P_7 := Lib.hid (P_6.out.after hN'.out hb)
  have Q_7 := Lib.hid (Q_6.out.after hN'.out hb)
  have X_7 := Lib.hid (nd_after hN'.out X_6.out hb)
  have T_7 := Lib.hid (T_6.out.after hN'.out hb)
  have R_7 := Lib.hid (R_6.out.after hb)
  have B_7 := Lib.hid (Below.after B_6.out hb)
  clear L_6 M_6 P_6 Q_6 X_6 T_6 R_6 B_6
  clear hb
  go_wp2_with fail
  refine (cY.out w7 _ T_7.out).mono ?_
  rintro e w8 ⟨rfl, hb⟩
  have L_8 := Lib.hid (L_7.out.after hb)
  have M_8 := Lib.hid (M_7.out.after hb)
  have P_8 := Lib.hid (P_7.out.after hN'.out hb)
  have Q_8 := Lib.hid (Q_7.out.after hN'.out hb)
  have X_8 := Lib.hid (nd_after hN'.out X_7.out hb)
  have T_8 := Lib.hid (T_7.out.after hN'.out hb)
  have R_8 := Lib.hid (R_7.out.after hb)
  have B_8 := Lib.hid (Below.after B_7.out hb)
  clear L_7 M_7 P_7 Q_7 X_7 T_7 R_7 B_7
  clear hb
  go_wp2_with fail
  refine (cW.out w8 _ P_8.out).mono ?_
  rintro e w9 ⟨rfl, hb⟩
  have L_9 := Lib.hid (L_8.out.after hb)
  have M_9 := Lib.hid (M_8.out.after hb)
  have P_9 := Lib.hid (P_8.out.after hN'.out hb)
  have Q_9 := Lib.hid (Q_8.out.after hN'.out hb)
  have X_9 := Lib.hid (nd_after hN'.out X_8.out hb)
  have T_9 := Lib.hid (T_8.out.after hN'.out hb)
  have R_9 := Lib.hid (R_8.out.after hb)
  have B_9 := Lib.hid (Below.after B_8.out hb)
  clear L_8 M_8 P_8 Q_8 X_8 T_8 R_8 B_8
  clear hb
  go_wp2_with fail
  refine (cV.out w9 _ Q_9.out).mono ?_
  rintro e w10 ⟨rfl, hb⟩
  have L_10 := Lib.hid (L_9.out.after hb)
  have M_10 := Lib.hid (M_9.out.after hb)
  have P_10 := Lib.hid (P_9.out.after hN'.out hb)
  have Q_10 := Lib.hid (Q_9.out.after hN'.out hb)
  have X_10 := Lib.hid (nd_after hN'.out X_9.out hb)
  have T_10 := Lib.hid (T_9.out.after hN'.out hb)
  have R_10 := Lib.hid (R_9.out.after hb)
  have B_10 := Lib.hid (Below.after B_9.out hb)
  clear L_9 M_9 P_9 Q_9 X_9 T_9 R_9 B_9
  clear hb
  go_wp2_with fail
  refine (cA.out w10).mono ?_
  rintro e w11 ⟨rfl, hb⟩
  have L_11 := Lib.hid (L_10.out.after hb)
  have M_11 := Lib.hid (M_10.out.after hb)
  have P_11 := Lib.hid (P_10.out.after hN'.out hb)
  have Q_11 := Lib.hid (Q_10.out.after hN'.out hb)
  have X_11 := Lib.hid (nd_after hN'.out X_10.out hb)
  have T_11 := Lib.hid (T_10.out.after hN'.out hb)
  have R_11 := Lib.hid (R_10.out.after hb)
  have B_11 := Lib.hid (Below.after B_10.out hb)
  clear L_10 M_10 P_10 Q_10 X_10 T_10 R_10 B_10
  clear hb
  go_wp2
  go_ret
  exact ⟨rfl, B_11.out⟩
set_option maxHeartbeats 4000000 in
theorem wbMakes_B (hN : NodeSays Nd) (hS : WbSays Nd) (A A2 : Option Addr) (n c n2 c2 : Nat) (key val : BitVec 64) (l m : List Bd) (t u : Tr) (w : World) (h : LongAt w A n c false) (h2 : LongAt w A2 n2 c2 false) (ht : TreeIn w A n c l t) (hu : TreeIn w A2 n2 c2 m u) (e1 : mayW t = true) (e2 : mayW u = false) : Calls Try.prog 5 #[.slice A n c, .slice A2 n2 c2, K key, K val] w fun e w' => e = .returned (.bool true) ∧ Below w.heap.size w w' := by
  have c0 := Lib.hid (h w (Below.refl _ _))
  have c1 := Lib.hid (h2 w (Below.refl _ _))
  have cM := Lib.hid (ht.make hN)
  have cM2 := Lib.hid (hu.make hN)
  have hts : t.size ≤ 400 := by rw [ht.size]; exact ht.few
  have hus : u.size ≤ 400 := by rw [hu.size]; exact hu.few
  have hn := ht.size
  have hn2 := hu.size
  obtain ⟨N, hNN⟩ : ∃ N, 1 + n + n2 = N := ⟨_, rfl⟩
  have hsz : (makeW t key val u).size = N := by rw [makeW, Tr.size, hn, hn2, hNN]
  have cA : Hid (∀ W, Calls Try.prog 16 #[] W fun e w' => e = .returned (.bool true) ∧ Below W.heap.size W w') := fun W => alive18_any hN hS W
  have cK : Hid (∀ W p q, TreeAt Nd W W.heap.size t p → TreeAt Nd W W.heap.size u q → Calls Try.prog 27 #[.pointer p, K key, K val, .pointer q] W fun e w' => ∃ a x, e = .returned (.pointer (some a)) ∧ x.l = p ∧ x.r = q ∧ Nd w' w'.heap.size a x ∧ TreeAt Nd w' w'.heap.size (makeW t key val u) (some a) ∧ Below W.heap.size W w') := fun W p q k1 k2 => (WbSays.makeT hN hS W t u p q key val k1 k2).mono fun e w' ⟨a, k3, _, k4, k5, k6⟩ => ⟨a, _, k3, rfl, rfl, k4, k5, k6⟩
  have cC : Hid (∀ W p, TreeAt Nd W W.heap.size t p → Calls Try.prog 20 #[.pointer p] W fun e w' => e = .returned (.bool true) ∧ Below W.heap.size W w') := fun W p hp => e1 ▸ hS.may W t p hp (by omega)
  have cD : Hid (∀ W p, TreeAt Nd W W.heap.size u p → Calls Try.prog 20 #[.pointer p] W fun e w' => e = .returned (.bool false) ∧ Below W.heap.size W w') := fun W p hp => e2 ▸ hS.may W u p hp (by omega)
  have cW : Hid (∀ W p, TreeAt Nd W W.heap.size t p → Calls Try.prog 22 #[.pointer p] W fun e w' => e = .returned (.int .i64 ((n : Int) + 1)) ∧ Below W.heap.size W w') := fun W p hp => by have := hS.weight W t p hp (by omega); rw [hn] at this; exact this
  have cV : Hid (∀ W p, TreeAt Nd W W.heap.size u p → Calls Try.prog 22 #[.pointer p] W fun e w' => e = .returned (.int .i64 ((n2 : Int) + 1)) ∧ Below W.heap.size W w') := fun W p hp => by have := hS.weight W u p hp (by omega); rw [hn2] at this; exact this
  have eM : mayW (makeW t key val u) = false := by rw [make_W, e1, e2]; rfl
  have cX : Hid (∀ W p, TreeAt Nd W W.heap.size (makeW t key val u) p → Calls Try.prog 20 #[.pointer p] W fun e w' => e = .returned (.bool false) ∧ Below W.heap.size W w') := fun W p hp => eM ▸ hS.may W _ p hp (by omega)
  have cY : Hid (∀ W p, TreeAt Nd W W.heap.size (makeW t key val u) p → Calls Try.prog 22 #[.pointer p] W fun e w' => e = .returned (.int .i64 ((N : Int) + 1)) ∧ Below W.heap.size W w') := fun W p hp => by have := hS.weight W _ p hp (by omega); rw [hsz] at this; exact this
  have cR : Hid (∀ W, LieB W W.heap.size A n c l → LieB W W.heap.size A2 n2 c2 m → Calls Try.prog 29 #[.slice A n c, K key, K val, .int .u64 0, .slice A2 n2 c2] W (MadeB W N (makeW t key val u).told)) := fun W k1 k2 => by
    have := node9 t u key val 0#64 A A2 n n2 c c2 l m ht.pre hu.pre hn hn2 (by omega) W k1 k2
    rw [hNN] at this
    refine this.mono ?_
    rintro e w' ⟨v', rfl, ho, hb⟩
    obtain ⟨A3, c3, rfl, k3⟩ := LieB.of_own (by rw [told_len, ← hsz]; rfl) (by omega) ho
    exact ⟨A3, c3, rfl, k3, hb⟩
  have cI := Lib.hid (fun p A c W hT hl => Is9 hN (makeW t key val u) p (by omega) A N c hsz W hT hl)
  have pe := ptr_eql
  have L_0 : Hid (LieB w w.heap.size A n c l) := ht.lie
  have M_0 : Hid (LieB w w.heap.size A2 n2 c2 m) := hu.lie
  obtain ⟨tu, htu⟩ : ∃ tu, (makeW t key val u) = tu := ⟨_, rfl⟩
  rw [htu] at cK cX cY cR cI
  have hNi : (N : Int) = 1 + (n : Int) + (n2 : Int) := by omega
  have e9 : ((N : Int) + 1 == (n : Int) + 1 + ((n2 : Int) + 1)) = true := by rw [beq_iff_eq]; omega
  have e8 : IntKind.i64.wrap ((n : Int) + 1 + ((n2 : Int) + 1)) = (n : Int) + 1 + ((n2 : Int) + 1) := IntWalk.i64_in _ (by omega)
  have hN' := Lib.hid hN
  clear htu hNN hsz hn hn2 eM hN hS h h2 ht hu hts hus e1 e2
  go_enter Try.func5, Try.ntmps5
  have B_0 := Lib.hid (Below.refl w.heap.size w)
  go_wp2_with fail
  refine (c0.out).mono ?_
  rintro e w' ⟨rfl, rfl⟩
  go_wp2_with fail
  refine (c1.out).mono ?_
  rintro e w' ⟨rfl, rfl⟩
  go_wp2_with fail
  refine (cM.out w B_0.out).mono ?_
  rintro e w1 ⟨p, rfl, hP, hb⟩
  have L_1 := Lib.hid (L_0.out.after hb)
  have M_1 := Lib.hid (M_0.out.after hb)
  have B_1 := Lib.hid (Below.after B_0.out hb)
  clear L_0 M_0 B_0
  have P_1 := Lib.hid hP
  clear hP
  clear hb
  go_wp2_with fail
  refine (cM2.out w1 B_1.out).mono ?_
  rintro e w2 ⟨q, rfl, hQ, hb⟩
  have L_2 := Lib.hid (L_1.out.after hb)
  have M_2 := Lib.hid (M_1.out.after hb)
  have P_2 := Lib.hid (P_1.out.after hN'.out hb)
  have B_2 := Lib.hid (Below.after B_1.out hb)
  clear L_1 M_1 P_1 B_1
  have Q_2 := Lib.hid hQ
  clear hQ
  clear hb
  go_wp2_with fail
  refine (cK.out w2 _ _ P_2.out Q_2.out).mono ?_
  rintro e w3 ⟨a, x, rfl, rfl, rfl, hX, hT, hb⟩
  have L_3 := Lib.hid (L_2.out.after hb)
  have M_3 := Lib.hid (M_2.out.after hb)
  have P_3 := Lib.hid (P_2.out.after hN'.out hb)
  have Q_3 := Lib.hid (Q_2.out.after hN'.out hb)
  have B_3 := Lib.hid (Below.after B_2.out hb)
  clear L_2 M_2 P_2 Q_2 B_2
  have X_3 := Lib.hid hX
  clear hX
  have T_3 := Lib.hid hT
  clear hT
  clear hb
  go_wp2_with fail
  refine (cC.out w3 _ P_3.out).mono ?_
  rintro e w4 ⟨rfl, hb⟩
  have L_4 := Lib.hid (L_3.out.after hb)
  have M_4 := Lib.hid (M_3.out.after hb)
  have P_4 := Lib.hid (P_3.out.after hN'.out hb)
  have Q_4 := Lib.hid (Q_3.out.after hN'.out hb)
  have X_4 := Lib.hid (nd_after hN'.out X_3.out hb)
  have T_4 := Lib.hid (T_3.out.after hN'.out hb)
  have B_4 := Lib.hid (Below.after B_3.out hb)
  clear L_3 M_3 P_3 Q_3 X_3 T_3 B_3
  clear hb
  go_wp2_with fail
  refine (cD.out w4 _ Q_4.out).mono ?_
  rintro e w5 ⟨rfl, hb⟩
  have L_5 := Lib.hid (L_4.out.after hb)
  have M_5 := Lib.hid (M_4.out.after hb)
  have P_5 := Lib.hid (P_4.out.after hN'.out hb)
  have Q_5 := Lib.hid (Q_4.out.after hN'.out hb)
  have X_5 := Lib.hid (nd_after hN'.out X_4.out hb)
  have T_5 := Lib.hid (T_4.out.after hN'.out hb)
  have B_5 := Lib.hid (Below.after B_4.out hb)
  clear L_4 M_4 P_4 Q_4 X_4 T_4 B_4
  clear hb
  go_wp2_with fail
  refine (cR.out w5 L_5.out M_5.out).mono ?_
  rintro e w6 ⟨A3, c3, rfl, hR, hb⟩
  have L_6 := Lib.hid (L_5.out.after hb)
  have M_6 := Lib.hid (M_5.out.after hb)
  have P_6 := Lib.hid (P_5.out.after hN'.out hb)
  have Q_6 := Lib.hid (Q_5.out.after hN'.out hb)
  have X_6 := Lib.hid (nd_after hN'.out X_5.out hb)
  have T_6 := Lib.hid (T_5.out.after hN'.out hb)
  have B_6 := Lib.hid (Below.after B_5.out hb)
  clear L_5 M_5 P_5 Q_5 X_5 T_5 B_5
  have R_6 := Lib.hid hR
  clear hR
  clear hb
  go_wp2_with fail
  refine (cI.out _ _ _ w6 T_6.out R_6.out).mono ?_
  rintro e w7 ⟨rfl, hb⟩
  have L_7 := Lib.hid (L_6.out.after hb)
  have M_7 := Lib.hid (M_6.out.after hb)
  have P_7 := Lib.hid (P_6.out.after hN'.out hb)
  have Q_7 := Lib.hid (Q_6.out.after hN'.out hb)
  have X_7 := Lib.hid (nd_after hN'.out X_6.out hb)
  have T_7 := Lib.hid (T_6.out.after hN'.out hb)
  have R_7 := Lib.hid (R_6.out.after hb)
  have B_7 := Lib.hid (Below.after B_6.out hb)
  clear L_6 M_6 P_6 Q_6 X_6 T_6 R_6 B_6
  clear hb
  go_wp2_with fail
  refine (hN'.out.left w7 _ _ _ X_7.out).mono ?_
  rintro e w' ⟨rfl, rfl⟩
  go_wp2_with fail
  refine (hN'.out.right w7 _ _ _ X_7.out).mono ?_
  rintro e w' ⟨rfl, rfl⟩
  go_wp2_with fail
  refine (cX.out w7 _ T_7.out).mono ?_
  rintro e w8 ⟨rfl, hb⟩
  have L_8 := Lib.hid (L_7.out.after hb)
  have M_8 := Lib.hid (M_7.out.after hb)
  have P_8 := Lib.hid (P_7.out.after hN'.out hb)
  have Q_8 := Lib.hid (Q_7.out.after hN'.out hb)
  have X_8 := Lib.hid (nd_after hN'.out X_7.out hb)
  have T_8 := Lib.hid (T_7.out.after hN'.out hb)
  have R_8 := Lib.hid (R_7.out.after hb)
  have B_8 := Lib.hid (Below.after B_7.out hb)
  clear L_7 M_7 P_7 Q_7 X_7 T_7 R_7 B_7
  clear hb
  go_wp2_with fail
  refine (cY.out w8 _ T_8.out).mono ?_
  rintro e w9 ⟨rfl, hb⟩
  have L_9 := Lib.hid (L_8.out.after hb)
  have M_9 := Lib.hid (M_8.out.after hb)
  have P_9 := Lib.hid (P_8.out.after hN'.out hb)
  have Q_9 := Lib.hid (Q_8.out.after hN'.out hb)
  have X_9 := Lib.hid (nd_after hN'.out X_8.out hb)
  have T_9 := Lib.hid (T_8.out.after hN'.out hb)
  have R_9 := Lib.hid (R_8.out.after hb)
  have B_9 := Lib.hid (Below.after B_8.out hb)
  clear L_8 M_8 P_8 Q_8 X_8 T_8 R_8 B_8
  clear hb
  go_wp2_with fail
  refine (cW.out w9 _ P_9.out).mono ?_
  rintro e w10 ⟨rfl, hb⟩
  have L_10 := Lib.hid (L_9.out.after hb)
  have M_10 := Lib.hid (M_9.out.after hb)
  have P_10 := Lib.hid (P_9.out.after hN'.out hb)
  have Q_10 := Lib.hid (Q_9.out.after hN'.out hb)
  have X_10 := Lib.hid (nd_after hN'.out X_9.out hb)
  have T_10 := Lib.hid (T_9.out.after hN'.out hb)
  have R_10 := Lib.hid (R_9.out.after hb)
  have B_10 := Lib.hid (Below.after B_9.out hb)
  clear L_9 M_9 P_9 Q_9 X_9 T_9 R_9 B_9
  clear hb
  go_wp2_with fail
  refine (cV.out w10 _ Q_10.out).mono ?_
  rintro e w11 ⟨rfl, hb⟩
  have L_11 := Lib.hid (L_10.out.after hb)
  have M_11 := Lib.hid (M_10.out.after hb)
  have P_11 := Lib.hid (P_10.out.after hN'.out hb)
  have Q_11 := Lib.hid (Q_10.out.after hN'.out hb)
  have X_11 := Lib.hid (nd_after hN'.out X_10.out hb)
  have T_11 := Lib.hid (T_10.out.after hN'.out hb)
  have R_11 := Lib.hid (R_10.out.after hb)
  have B_11 := Lib.hid (Below.after B_10.out hb)
  clear L_10 M_10 P_10 Q_10 X_10 T_10 R_10 B_10
  clear hb
  go_wp2_with fail
  refine (cA.out w11).mono ?_
  rintro e w12 ⟨rfl, hb⟩
  have L_12 := Lib.hid (L_11.out.after hb)
  have M_12 := Lib.hid (M_11.out.after hb)
  have P_12 := Lib.hid (P_11.out.after hN'.out hb)
  have Q_12 := Lib.hid (Q_11.out.after hN'.out hb)
  have X_12 := Lib.hid (nd_after hN'.out X_11.out hb)
  have T_12 := Lib.hid (T_11.out.after hN'.out hb)
  have R_12 := Lib.hid (R_11.out.after hb)
  have B_12 := Lib.hid (Below.after B_11.out hb)
  clear L_11 M_11 P_11 Q_11 X_11 T_11 R_11 B_11
  clear hb
  go_wp2
  go_ret
  exact ⟨rfl, B_12.out⟩
set_option maxHeartbeats 4000000 in
theorem wbMakes_C (hN : NodeSays Nd) (hS : WbSays Nd) (A A2 : Option Addr) (n c n2 c2 : Nat) (key val : BitVec 64) (l m : List Bd) (t u : Tr) (w : World) (h : LongAt w A n c false) (h2 : LongAt w A2 n2 c2 false) (ht : TreeIn w A n c l t) (hu : TreeIn w A2 n2 c2 m u) (e1 : mayW t = true) (e2 : mayW u = true) (e3 : likeT t u = false) : Calls Try.prog 5 #[.slice A n c, .slice A2 n2 c2, K key, K val] w fun e w' => e = .returned (.bool true) ∧ Below w.heap.size w w' := by
  have c0 := Lib.hid (h w (Below.refl _ _))
  have c1 := Lib.hid (h2 w (Below.refl _ _))
  have cM := Lib.hid (ht.make hN)
  have cM2 := Lib.hid (hu.make hN)
  have hts : t.size ≤ 400 := by rw [ht.size]; exact ht.few
  have hus : u.size ≤ 400 := by rw [hu.size]; exact hu.few
  have hn := ht.size
  have hn2 := hu.size
  obtain ⟨N, hNN⟩ : ∃ N, 1 + n + n2 = N := ⟨_, rfl⟩
  have hsz : (makeW t key val u).size = N := by rw [makeW, Tr.size, hn, hn2, hNN]
  have cA : Hid (∀ W, Calls Try.prog 16 #[] W fun e w' => e = .returned (.bool true) ∧ Below W.heap.size W w') := fun W => alive18_any hN hS W
  have cK : Hid (∀ W p q, TreeAt Nd W W.heap.size t p → TreeAt Nd W W.heap.size u q → Calls Try.prog 27 #[.pointer p, K key, K val, .pointer q] W fun e w' => ∃ a x, e = .returned (.pointer (some a)) ∧ x.l = p ∧ x.r = q ∧ Nd w' w'.heap.size a x ∧ TreeAt Nd w' w'.heap.size (makeW t key val u) (some a) ∧ Below W.heap.size W w') := fun W p q k1 k2 => (WbSays.makeT hN hS W t u p q key val k1 k2).mono fun e w' ⟨a, k3, _, k4, k5, k6⟩ => ⟨a, _, k3, rfl, rfl, k4, k5, k6⟩
  have cC : Hid (∀ W p, TreeAt Nd W W.heap.size t p → Calls Try.prog 20 #[.pointer p] W fun e w' => e = .returned (.bool true) ∧ Below W.heap.size W w') := fun W p hp => e1 ▸ hS.may W t p hp (by omega)
  have cD : Hid (∀ W p, TreeAt Nd W W.heap.size u p → Calls Try.prog 20 #[.pointer p] W fun e w' => e = .returned (.bool true) ∧ Below W.heap.size W w') := fun W p hp => e2 ▸ hS.may W u p hp (by omega)
  have cW : Hid (∀ W p, TreeAt Nd W W.heap.size t p → Calls Try.prog 22 #[.pointer p] W fun e w' => e = .returned (.int .i64 ((n : Int) + 1)) ∧ Below W.heap.size W w') := fun W p hp => by have := hS.weight W t p hp (by omega); rw [hn] at this; exact this
  have cV : Hid (∀ W p, TreeAt Nd W W.heap.size u p → Calls Try.prog 22 #[.pointer p] W fun e w' => e = .returned (.int .i64 ((n2 : Int) + 1)) ∧ Below W.heap.size W w') := fun W p hp => by have := hS.weight W u p hp (by omega); rw [hn2] at this; exact this
  have cL : Hid (∀ W, Calls Try.prog 25 #[.int .i64 ((n : Int) + 1), .int .i64 ((n2 : Int) + 1)] W fun e w' => e = .returned (.bool false) ∧ Below W.heap.size W w') := fun W => by
    have := hS.like W ((n : Int) + 1) ((n2 : Int) + 1) (by omega) (by omega) (by omega) (by omega)
    rw [show likeI ((n : Int) + 1) ((n2 : Int) + 1) = likeT t u from by rw [likeT, hn, hn2]; rfl, e3] at this
    exact this
  have eM : mayW (makeW t key val u) = false := by rw [make_W, e1, e2, e3]; rfl
  have cX : Hid (∀ W p, TreeAt Nd W W.heap.size (makeW t key val u) p → Calls Try.prog 20 #[.pointer p] W fun e w' => e = .returned (.bool false) ∧ Below W.heap.size W w') := fun W p hp => eM ▸ hS.may W _ p hp (by omega)
  have cY : Hid (∀ W p, TreeAt Nd W W.heap.size (makeW t key val u) p → Calls Try.prog 22 #[.pointer p] W fun e w' => e = .returned (.int .i64 ((N : Int) + 1)) ∧ Below W.heap.size W w') := fun W p hp => by have := hS.weight W _ p hp (by omega); rw [hsz] at this; exact this
  have cR : Hid (∀ W, LieB W W.heap.size A n c l → LieB W W.heap.size A2 n2 c2 m → Calls Try.prog 29 #[.slice A n c, K key, K val, .int .u64 0, .slice A2 n2 c2] W (MadeB W N (makeW t key val u).told)) := fun W k1 k2 => by
    have := node9 t u key val 0#64 A A2 n n2 c c2 l m ht.pre hu.pre hn hn2 (by omega) W k1 k2
    rw [hNN] at this
    refine this.mono ?_
    rintro e w' ⟨v', rfl, ho, hb⟩
    obtain ⟨A3, c3, rfl, k3⟩ := LieB.of_own (by rw [told_len, ← hsz]; rfl) (by omega) ho
    exact ⟨A3, c3, rfl, k3, hb⟩
  have cI := Lib.hid (fun p A c W hT hl => Is9 hN (makeW t key val u) p (by omega) A N c hsz W hT hl)
  have pe := ptr_eql
  have L_0 : Hid (LieB w w.heap.size A n c l) := ht.lie
  have M_0 : Hid (LieB w w.heap.size A2 n2 c2 m) := hu.lie
  obtain ⟨tu, htu⟩ : ∃ tu, (makeW t key val u) = tu := ⟨_, rfl⟩
  rw [htu] at cK cX cY cR cI
  have hNi : (N : Int) = 1 + (n : Int) + (n2 : Int) := by omega
  have e9 : ((N : Int) + 1 == (n : Int) + 1 + ((n2 : Int) + 1)) = true := by rw [beq_iff_eq]; omega
  have e8 : IntKind.i64.wrap ((n : Int) + 1 + ((n2 : Int) + 1)) = (n : Int) + 1 + ((n2 : Int) + 1) := IntWalk.i64_in _ (by omega)
  have hN' := Lib.hid hN
  clear htu hNN hsz hn hn2 eM hN hS h h2 ht hu hts hus e1 e2 e3
  go_enter Try.func5, Try.ntmps5
  have B_0 := Lib.hid (Below.refl w.heap.size w)
  go_wp2_with fail
  refine (c0.out).mono ?_
  rintro e w' ⟨rfl, rfl⟩
  go_wp2_with fail
  refine (c1.out).mono ?_
  rintro e w' ⟨rfl, rfl⟩
  go_wp2_with fail
  refine (cM.out w B_0.out).mono ?_
  rintro e w1 ⟨p, rfl, hP, hb⟩
  have L_1 := Lib.hid (L_0.out.after hb)
  have M_1 := Lib.hid (M_0.out.after hb)
  have B_1 := Lib.hid (Below.after B_0.out hb)
  clear L_0 M_0 B_0
  have P_1 := Lib.hid hP
  clear hP
  clear hb
  go_wp2_with fail
  refine (cM2.out w1 B_1.out).mono ?_
  rintro e w2 ⟨q, rfl, hQ, hb⟩
  have L_2 := Lib.hid (L_1.out.after hb)
  have M_2 := Lib.hid (M_1.out.after hb)
  have P_2 := Lib.hid (P_1.out.after hN'.out hb)
  have B_2 := Lib.hid (Below.after B_1.out hb)
  clear L_1 M_1 P_1 B_1
  have Q_2 := Lib.hid hQ
  clear hQ
  clear hb
  go_wp2_with fail
  refine (cK.out w2 _ _ P_2.out Q_2.out).mono ?_
  rintro e w3 ⟨a, x, rfl, rfl, rfl, hX, hT, hb⟩
  have L_3 := Lib.hid (L_2.out.after hb)
  have M_3 := Lib.hid (M_2.out.after hb)
  have P_3 := Lib.hid (P_2.out.after hN'.out hb)
  have Q_3 := Lib.hid (Q_2.out.after hN'.out hb)
  have B_3 := Lib.hid (Below.after B_2.out hb)
  clear L_2 M_2 P_2 Q_2 B_2
  have X_3 := Lib.hid hX
  clear hX
  have T_3 := Lib.hid hT
  clear hT
  clear hb
  go_wp2_with fail
  refine (cC.out w3 _ P_3.out).mono ?_
  rintro e w4 ⟨rfl, hb⟩
  have L_4 := Lib.hid (L_3.out.after hb)
  have M_4 := Lib.hid (M_3.out.after hb)
  have P_4 := Lib.hid (P_3.out.after hN'.out hb)
  have Q_4 := Lib.hid (Q_3.out.after hN'.out hb)
  have X_4 := Lib.hid (nd_after hN'.out X_3.out hb)
  have T_4 := Lib.hid (T_3.out.after hN'.out hb)
  have B_4 := Lib.hid (Below.after B_3.out hb)
  clear L_3 M_3 P_3 Q_3 X_3 T_3 B_3
  clear hb
  go_wp2_with fail
  refine (cD.out w4 _ Q_4.out).mono ?_
  rintro e w5 ⟨rfl, hb⟩
  have L_5 := Lib.hid (L_4.out.after hb)
  have M_5 := Lib.hid (M_4.out.after hb)
  have P_5 := Lib.hid (P_4.out.after hN'.out hb)
  have Q_5 := Lib.hid (Q_4.out.after hN'.out hb)
  have X_5 := Lib.hid (nd_after hN'.out X_4.out hb)
  have T_5 := Lib.hid (T_4.out.after hN'.out hb)
  have B_5 := Lib.hid (Below.after B_4.out hb)
  clear L_4 M_4 P_4 Q_4 X_4 T_4 B_4
  clear hb
  go_wp2_with fail
  refine (cW.out w5 _ P_5.out).mono ?_
  rintro e w6 ⟨rfl, hb⟩
  have L_6 := Lib.hid (L_5.out.after hb)
  have M_6 := Lib.hid (M_5.out.after hb)
  have P_6 := Lib.hid (P_5.out.after hN'.out hb)
  have Q_6 := Lib.hid (Q_5.out.after hN'.out hb)
  have X_6 := Lib.hid (nd_after hN'.out X_5.out hb)
  have T_6 := Lib.hid (T_5.out.after hN'.out hb)
  have B_6 := Lib.hid (Below.after B_5.out hb)
  clear L_5 M_5 P_5 Q_5 X_5 T_5 B_5
  clear hb
  go_wp2_with fail
  refine (cV.out w6 _ Q_6.out).mono ?_
  rintro e w7 ⟨rfl, hb⟩
  have L_7 := Lib.hid (L_6.out.after hb)
  have M_7 := Lib.hid (M_6.out.after hb)
  have P_7 := Lib.hid (P_6.out.after hN'.out hb)
  have Q_7 := Lib.hid (Q_6.out.after hN'.out hb)
  have X_7 := Lib.hid (nd_after hN'.out X_6.out hb)
  have T_7 := Lib.hid (T_6.out.after hN'.out hb)
  have B_7 := Lib.hid (Below.after B_6.out hb)
  clear L_6 M_6 P_6 Q_6 X_6 T_6 B_6
  clear hb
  go_wp2_with fail
  refine (cL.out w7).mono ?_
  rintro e w8 ⟨rfl, hb⟩
  have L_8 := Lib.hid (L_7.out.after hb)
  have M_8 := Lib.hid (M_7.out.after hb)
  have P_8 := Lib.hid (P_7.out.after hN'.out hb)
  have Q_8 := Lib.hid (Q_7.out.after hN'.out hb)
  have X_8 := Lib.hid (nd_after hN'.out X_7.out hb)
  have T_8 := Lib.hid (T_7.out.after hN'.out hb)
  have B_8 := Lib.hid (Below.after B_7.out hb)
  clear L_7 M_7 P_7 Q_7 X_7 T_7 B_7
  clear hb
  go_wp2_with fail
  refine (cR.out w8 L_8.out M_8.out).mono ?_
  rintro e w9 ⟨A3, c3, rfl, hR, hb⟩
  have L_9 := Lib.hid (L_8.out.after hb)
  have M_9 := Lib.hid (M_8.out.after hb)
  have P_9 := Lib.hid (P_8.out.after hN'.out hb)
  have Q_9 := Lib.hid (Q_8.out.after hN'.out hb)
  have X_9 := Lib.hid (nd_after hN'.out X_8.out hb)
  have T_9 := Lib.hid (T_8.out.after hN'.out hb)
  have B_9 := Lib.hid (Below.after B_8.out hb)
  clear L_8 M_8 P_8 Q_8 X_8 T_8 B_8
  have R_9 := Lib.hid hR
  clear hR
  clear hb
  go_wp2_with fail
  refine (cI.out _ _ _ w9 T_9.out R_9.out).mono ?_
  rintro e w10 ⟨rfl, hb⟩
  have L_10 := Lib.hid (L_9.out.after hb)
  have M_10 := Lib.hid (M_9.out.after hb)
  have P_10 := Lib.hid (P_9.out.after hN'.out hb)
  have Q_10 := Lib.hid (Q_9.out.after hN'.out hb)
  have X_10 := Lib.hid (nd_after hN'.out X_9.out hb)
  have T_10 := Lib.hid (T_9.out.after hN'.out hb)
  have R_10 := Lib.hid (R_9.out.after hb)
  have B_10 := Lib.hid (Below.after B_9.out hb)
  clear L_9 M_9 P_9 Q_9 X_9 T_9 R_9 B_9
  clear hb
  go_wp2_with fail
  refine (hN'.out.left w10 _ _ _ X_10.out).mono ?_
  rintro e w' ⟨rfl, rfl⟩
  go_wp2_with fail
  refine (hN'.out.right w10 _ _ _ X_10.out).mono ?_
  rintro e w' ⟨rfl, rfl⟩
  go_wp2_with fail
  refine (cX.out w10 _ T_10.out).mono ?_
  rintro e w11 ⟨rfl, hb⟩
  have L_11 := Lib.hid (L_10.out.after hb)
  have M_11 := Lib.hid (M_10.out.after hb)
  have P_11 := Lib.hid (P_10.out.after hN'.out hb)
  have Q_11 := Lib.hid (Q_10.out.after hN'.out hb)
  have X_11 := Lib.hid (nd_after hN'.out X_10.out hb)
  have T_11 := Lib.hid (T_10.out.after hN'.out hb)
  have R_11 := Lib.hid (R_10.out.after hb)
  have B_11 := Lib.hid (Below.after B_10.out hb)
  clear L_10 M_10 P_10 Q_10 X_10 T_10 R_10 B_10
  clear hb
  go_wp2_with fail
  refine (cY.out w11 _ T_11.out).mono ?_
  rintro e w12 ⟨rfl, hb⟩
  have L_12 := Lib.hid (L_11.out.after hb)
  have M_12 := Lib.hid (M_11.out.after hb)
  have P_12 := Lib.hid (P_11.out.after hN'.out hb)
  have Q_12 := Lib.hid (Q_11.out.after hN'.out hb)
  have X_12 := Lib.hid (nd_after hN'.out X_11.out hb)
  have T_12 := Lib.hid (T_11.out.after hN'.out hb)
  have R_12 := Lib.hid (R_11.out.after hb)
  have B_12 := Lib.hid (Below.after B_11.out hb)
  clear L_11 M_11 P_11 Q_11 X_11 T_11 R_11 B_11
  clear hb
  go_wp2_with fail
  refine (cW.out w12 _ P_12.out).mono ?_
  rintro e w13 ⟨rfl, hb⟩
  have L_13 := Lib.hid (L_12.out.after hb)
  have M_13 := Lib.hid (M_12.out.after hb)
  have P_13 := Lib.hid (P_12.out.after hN'.out hb)
  have Q_13 := Lib.hid (Q_12.out.after hN'.out hb)
  have X_13 := Lib.hid (nd_after hN'.out X_12.out hb)
  have T_13 := Lib.hid (T_12.out.after hN'.out hb)
  have R_13 := Lib.hid (R_12.out.after hb)
  have B_13 := Lib.hid (Below.after B_12.out hb)
  clear L_12 M_12 P_12 Q_12 X_12 T_12 R_12 B_12
  clear hb
  go_wp2_with fail
  refine (cV.out w13 _ Q_13.out).mono ?_
  rintro e w14 ⟨rfl, hb⟩
  have L_14 := Lib.hid (L_13.out.after hb)
  have M_14 := Lib.hid (M_13.out.after hb)
  have P_14 := Lib.hid (P_13.out.after hN'.out hb)
  have Q_14 := Lib.hid (Q_13.out.after hN'.out hb)
  have X_14 := Lib.hid (nd_after hN'.out X_13.out hb)
  have T_14 := Lib.hid (T_13.out.after hN'.out hb)
  have R_14 := Lib.hid (R_13.out.after hb)
  have B_14 := Lib.hid (Below.after B_13.out hb)
  clear L_13 M_13 P_13 Q_13 X_13 T_13 R_13 B_13
  clear hb
  go_wp2_with fail
  refine (cA.out w14).mono ?_
  rintro e w15 ⟨rfl, hb⟩
  have L_15 := Lib.hid (L_14.out.after hb)
  have M_15 := Lib.hid (M_14.out.after hb)
  have P_15 := Lib.hid (P_14.out.after hN'.out hb)
  have Q_15 := Lib.hid (Q_14.out.after hN'.out hb)
  have X_15 := Lib.hid (nd_after hN'.out X_14.out hb)
  have T_15 := Lib.hid (T_14.out.after hN'.out hb)
  have R_15 := Lib.hid (R_14.out.after hb)
  have B_15 := Lib.hid (Below.after B_14.out hb)
  clear L_14 M_14 P_14 Q_14 X_14 T_14 R_14 B_14
  clear hb
  go_wp2
  go_ret
  exact ⟨rfl, B_15.out⟩
set_option maxHeartbeats 4000000 in
theorem wbMakes_D (hN : NodeSays Nd) (hS : WbSays Nd) (A A2 : Option Addr) (n c n2 c2 : Nat) (key val : BitVec 64) (l m : List Bd) (t u : Tr) (w : World) (h : LongAt w A n c false) (h2 : LongAt w A2 n2 c2 false) (ht : TreeIn w A n c l t) (hu : TreeIn w A2 n2 c2 m u) (e1 : mayW t = true) (e2 : mayW u = true) (e3 : likeT t u = true) : Calls Try.prog 5 #[.slice A n c, .slice A2 n2 c2, K key, K val] w fun e w' => e = .returned (.bool true) ∧ Below w.heap.size w w' := by
  have c0 := Lib.hid (h w (Below.refl _ _))
  have c1 := Lib.hid (h2 w (Below.refl _ _))
  have cM := Lib.hid (ht.make hN)
  have cM2 := Lib.hid (hu.make hN)
  have hts : t.size ≤ 400 := by rw [ht.size]; exact ht.few
  have hus : u.size ≤ 400 := by rw [hu.size]; exact hu.few
  have hn := ht.size
  have hn2 := hu.size
  obtain ⟨N, hNN⟩ : ∃ N, 1 + n + n2 = N := ⟨_, rfl⟩
  have hsz : (makeW t key val u).size = N := by rw [makeW, Tr.size, hn, hn2, hNN]
  have cA : Hid (∀ W, Calls Try.prog 16 #[] W fun e w' => e = .returned (.bool true) ∧ Below W.heap.size W w') := fun W => alive18_any hN hS W
  have cK : Hid (∀ W p q, TreeAt Nd W W.heap.size t p → TreeAt Nd W W.heap.size u q → Calls Try.prog 27 #[.pointer p, K key, K val, .pointer q] W fun e w' => ∃ a x, e = .returned (.pointer (some a)) ∧ x.l = p ∧ x.r = q ∧ Nd w' w'.heap.size a x ∧ TreeAt Nd w' w'.heap.size (makeW t key val u) (some a) ∧ Below W.heap.size W w') := fun W p q k1 k2 => (WbSays.makeT hN hS W t u p q key val k1 k2).mono fun e w' ⟨a, k3, _, k4, k5, k6⟩ => ⟨a, _, k3, rfl, rfl, k4, k5, k6⟩
  have cC : Hid (∀ W p, TreeAt Nd W W.heap.size t p → Calls Try.prog 20 #[.pointer p] W fun e w' => e = .returned (.bool true) ∧ Below W.heap.size W w') := fun W p hp => e1 ▸ hS.may W t p hp (by omega)
  have cD : Hid (∀ W p, TreeAt Nd W W.heap.size u p → Calls Try.prog 20 #[.pointer p] W fun e w' => e = .returned (.bool true) ∧ Below W.heap.size W w') := fun W p hp => e2 ▸ hS.may W u p hp (by omega)
  have cW : Hid (∀ W p, TreeAt Nd W W.heap.size t p → Calls Try.prog 22 #[.pointer p] W fun e w' => e = .returned (.int .i64 ((n : Int) + 1)) ∧ Below W.heap.size W w') := fun W p hp => by have := hS.weight W t p hp (by omega); rw [hn] at this; exact this
  have cV : Hid (∀ W p, TreeAt Nd W W.heap.size u p → Calls Try.prog 22 #[.pointer p] W fun e w' => e = .returned (.int .i64 ((n2 : Int) + 1)) ∧ Below W.heap.size W w') := fun W p hp => by have := hS.weight W u p hp (by omega); rw [hn2] at this; exact this
  have cL : Hid (∀ W, Calls Try.prog 25 #[.int .i64 ((n : Int) + 1), .int .i64 ((n2 : Int) + 1)] W fun e w' => e = .returned (.bool true) ∧ Below W.heap.size W w') := fun W => by
    have := hS.like W ((n : Int) + 1) ((n2 : Int) + 1) (by omega) (by omega) (by omega) (by omega)
    rw [show likeI ((n : Int) + 1) ((n2 : Int) + 1) = likeT t u from by rw [likeT, hn, hn2]; rfl, e3] at this
    exact this
  have eM : mayW (makeW t key val u) = true := by rw [make_W, e1, e2, e3]; rfl
  have cX : Hid (∀ W p, TreeAt Nd W W.heap.size (makeW t key val u) p → Calls Try.prog 20 #[.pointer p] W fun e w' => e = .returned (.bool true) ∧ Below W.heap.size W w') := fun W p hp => eM ▸ hS.may W _ p hp (by omega)
  have cY : Hid (∀ W p, TreeAt Nd W W.heap.size (makeW t key val u) p → Calls Try.prog 22 #[.pointer p] W fun e w' => e = .returned (.int .i64 ((N : Int) + 1)) ∧ Below W.heap.size W w') := fun W p hp => by have := hS.weight W _ p hp (by omega); rw [hsz] at this; exact this
  have cR : Hid (∀ W, LieB W W.heap.size A n c l → LieB W W.heap.size A2 n2 c2 m → Calls Try.prog 29 #[.slice A n c, K key, K val, .int .u64 0, .slice A2 n2 c2] W (MadeB W N (makeW t key val u).told)) := fun W k1 k2 => by
    have := node9 t u key val 0#64 A A2 n n2 c c2 l m ht.pre hu.pre hn hn2 (by omega) W k1 k2
    rw [hNN] at this
    refine this.mono ?_
    rintro e w' ⟨v', rfl, ho, hb⟩
    obtain ⟨A3, c3, rfl, k3⟩ := LieB.of_own (by rw [told_len, ← hsz]; rfl) (by omega) ho
    exact ⟨A3, c3, rfl, k3, hb⟩
  have cI := Lib.hid (fun p A c W hT hl => Is9 hN (makeW t key val u) p (by omega) A N c hsz W hT hl)
  have pe := ptr_eql
  have L_0 : Hid (LieB w w.heap.size A n c l) := ht.lie
  have M_0 : Hid (LieB w w.heap.size A2 n2 c2 m) := hu.lie
  obtain ⟨tu, htu⟩ : ∃ tu, (makeW t key val u) = tu := ⟨_, rfl⟩
  rw [htu] at cK cX cY cR cI
  have hNi : (N : Int) = 1 + (n : Int) + (n2 : Int) := by omega
  have e9 : ((N : Int) + 1 == (n : Int) + 1 + ((n2 : Int) + 1)) = true := by rw [beq_iff_eq]; omega
  have e8 : IntKind.i64.wrap ((n : Int) + 1 + ((n2 : Int) + 1)) = (n : Int) + 1 + ((n2 : Int) + 1) := IntWalk.i64_in _ (by omega)
  have hN' := Lib.hid hN
  clear htu hNN hsz hn hn2 eM hN hS h h2 ht hu hts hus e1 e2 e3
  go_enter Try.func5, Try.ntmps5
  have B_0 := Lib.hid (Below.refl w.heap.size w)
  go_wp2_with fail
  refine (c0.out).mono ?_
  rintro e w' ⟨rfl, rfl⟩
  go_wp2_with fail
  refine (c1.out).mono ?_
  rintro e w' ⟨rfl, rfl⟩
  go_wp2_with fail
  refine (cM.out w B_0.out).mono ?_
  rintro e w1 ⟨p, rfl, hP, hb⟩
  have L_1 := Lib.hid (L_0.out.after hb)
  have M_1 := Lib.hid (M_0.out.after hb)
  have B_1 := Lib.hid (Below.after B_0.out hb)
  clear L_0 M_0 B_0
  have P_1 := Lib.hid hP
  clear hP
  clear hb
  go_wp2_with fail
  refine (cM2.out w1 B_1.out).mono ?_
  rintro e w2 ⟨q, rfl, hQ, hb⟩
  have L_2 := Lib.hid (L_1.out.after hb)
  have M_2 := Lib.hid (M_1.out.after hb)
  have P_2 := Lib.hid (P_1.out.after hN'.out hb)
  have B_2 := Lib.hid (Below.after B_1.out hb)
  clear L_1 M_1 P_1 B_1
  have Q_2 := Lib.hid hQ
  clear hQ
  clear hb
  go_wp2_with fail
  refine (cK.out w2 _ _ P_2.out Q_2.out).mono ?_
  rintro e w3 ⟨a, x, rfl, rfl, rfl, hX, hT, hb⟩
  have L_3 := Lib.hid (L_2.out.after hb)
  have M_3 := Lib.hid (M_2.out.after hb)
  have P_3 := Lib.hid (P_2.out.after hN'.out hb)
  have Q_3 := Lib.hid (Q_2.out.after hN'.out hb)
  have B_3 := Lib.hid (Below.after B_2.out hb)
  clear L_2 M_2 P_2 Q_2 B_2
  have X_3 := Lib.hid hX
  clear hX
  have T_3 := Lib.hid hT
  clear hT
  clear hb
  go_wp2_with fail
  refine (cC.out w3 _ P_3.out).mono ?_
  rintro e w4 ⟨rfl, hb⟩
  have L_4 := Lib.hid (L_3.out.after hb)
  have M_4 := Lib.hid (M_3.out.after hb)
  have P_4 := Lib.hid (P_3.out.after hN'.out hb)
  have Q_4 := Lib.hid (Q_3.out.after hN'.out hb)
  have X_4 := Lib.hid (nd_after hN'.out X_3.out hb)
  have T_4 := Lib.hid (T_3.out.after hN'.out hb)
  have B_4 := Lib.hid (Below.after B_3.out hb)
  clear L_3 M_3 P_3 Q_3 X_3 T_3 B_3
  clear hb
  go_wp2_with fail
  refine (cD.out w4 _ Q_4.out).mono ?_
  rintro e w5 ⟨rfl, hb⟩
  have L_5 := Lib.hid (L_4.out.after hb)
  have M_5 := Lib.hid (M_4.out.after hb)
  have P_5 := Lib.hid (P_4.out.after hN'.out hb)
  have Q_5 := Lib.hid (Q_4.out.after hN'.out hb)
  have X_5 := Lib.hid (nd_after hN'.out X_4.out hb)
  have T_5 := Lib.hid (T_4.out.after hN'.out hb)
  have B_5 := Lib.hid (Below.after B_4.out hb)
  clear L_4 M_4 P_4 Q_4 X_4 T_4 B_4
  clear hb
  go_wp2_with fail
  refine (cW.out w5 _ P_5.out).mono ?_
  rintro e w6 ⟨rfl, hb⟩
  have L_6 := Lib.hid (L_5.out.after hb)
  have M_6 := Lib.hid (M_5.out.after hb)
  have P_6 := Lib.hid (P_5.out.after hN'.out hb)
  have Q_6 := Lib.hid (Q_5.out.after hN'.out hb)
  have X_6 := Lib.hid (nd_after hN'.out X_5.out hb)
  have T_6 := Lib.hid (T_5.out.after hN'.out hb)
  have B_6 := Lib.hid (Below.after B_5.out hb)
  clear L_5 M_5 P_5 Q_5 X_5 T_5 B_5
  clear hb
  go_wp2_with fail
  refine (cV.out w6 _ Q_6.out).mono ?_
  rintro e w7 ⟨rfl, hb⟩
  have L_7 := Lib.hid (L_6.out.after hb)
  have M_7 := Lib.hid (M_6.out.after hb)
  have P_7 := Lib.hid (P_6.out.after hN'.out hb)
  have Q_7 := Lib.hid (Q_6.out.after hN'.out hb)
  have X_7 := Lib.hid (nd_after hN'.out X_6.out hb)
  have T_7 := Lib.hid (T_6.out.after hN'.out hb)
  have B_7 := Lib.hid (Below.after B_6.out hb)
  clear L_6 M_6 P_6 Q_6 X_6 T_6 B_6
  clear hb
  go_wp2_with fail
  refine (cL.out w7).mono ?_
  rintro e w8 ⟨rfl, hb⟩
  have L_8 := Lib.hid (L_7.out.after hb)
  have M_8 := Lib.hid (M_7.out.after hb)
  have P_8 := Lib.hid (P_7.out.after hN'.out hb)
  have Q_8 := Lib.hid (Q_7.out.after hN'.out hb)
  have X_8 := Lib.hid (nd_after hN'.out X_7.out hb)
  have T_8 := Lib.hid (T_7.out.after hN'.out hb)
  have B_8 := Lib.hid (Below.after B_7.out hb)
  clear L_7 M_7 P_7 Q_7 X_7 T_7 B_7
  clear hb
  go_wp2_with fail
  refine (cR.out w8 L_8.out M_8.out).mono ?_
  rintro e w9 ⟨A3, c3, rfl, hR, hb⟩
  have L_9 := Lib.hid (L_8.out.after hb)
  have M_9 := Lib.hid (M_8.out.after hb)
  have P_9 := Lib.hid (P_8.out.after hN'.out hb)
  have Q_9 := Lib.hid (Q_8.out.after hN'.out hb)
  have X_9 := Lib.hid (nd_after hN'.out X_8.out hb)
  have T_9 := Lib.hid (T_8.out.after hN'.out hb)
  have B_9 := Lib.hid (Below.after B_8.out hb)
  clear L_8 M_8 P_8 Q_8 X_8 T_8 B_8
  have R_9 := Lib.hid hR
  clear hR
  clear hb
  go_wp2_with fail
  refine (cI.out _ _ _ w9 T_9.out R_9.out).mono ?_
  rintro e w10 ⟨rfl, hb⟩
  have L_10 := Lib.hid (L_9.out.after hb)
  have M_10 := Lib.hid (M_9.out.after hb)
  have P_10 := Lib.hid (P_9.out.after hN'.out hb)
  have Q_10 := Lib.hid (Q_9.out.after hN'.out hb)
  have X_10 := Lib.hid (nd_after hN'.out X_9.out hb)
  have T_10 := Lib.hid (T_9.out.after hN'.out hb)
  have R_10 := Lib.hid (R_9.out.after hb)
  have B_10 := Lib.hid (Below.after B_9.out hb)
  clear L_9 M_9 P_9 Q_9 X_9 T_9 R_9 B_9
  clear hb
  go_wp2_with fail
  refine (hN'.out.left w10 _ _ _ X_10.out).mono ?_
  rintro e w' ⟨rfl, rfl⟩
  go_wp2_with fail
  refine (hN'.out.right w10 _ _ _ X_10.out).mono ?_
  rintro e w' ⟨rfl, rfl⟩
  go_wp2_with fail
  refine (cX.out w10 _ T_10.out).mono ?_
  rintro e w11 ⟨rfl, hb⟩
  have L_11 := Lib.hid (L_10.out.after hb)
  have M_11 := Lib.hid (M_10.out.after hb)
  have P_11 := Lib.hid (P_10.out.after hN'.out hb)
  have Q_11 := Lib.hid (Q_10.out.after hN'.out hb)
  have X_11 := Lib.hid (nd_after hN'.out X_10.out hb)
  have T_11 := Lib.hid (T_10.out.after hN'.out hb)
  have R_11 := Lib.hid (R_10.out.after hb)
  have B_11 := Lib.hid (Below.after B_10.out hb)
  clear L_10 M_10 P_10 Q_10 X_10 T_10 R_10 B_10
  clear hb
  go_wp2_with fail
  refine (cY.out w11 _ T_11.out).mono ?_
  rintro e w12 ⟨rfl, hb⟩
  have L_12 := Lib.hid (L_11.out.after hb)
  have M_12 := Lib.hid (M_11.out.after hb)
  have P_12 := Lib.hid (P_11.out.after hN'.out hb)
  have Q_12 := Lib.hid (Q_11.out.after hN'.out hb)
  have X_12 := Lib.hid (nd_after hN'.out X_11.out hb)
  have T_12 := Lib.hid (T_11.out.after hN'.out hb)
  have R_12 := Lib.hid (R_11.out.after hb)
  have B_12 := Lib.hid (Below.after B_11.out hb)
  clear L_11 M_11 P_11 Q_11 X_11 T_11 R_11 B_11
  clear hb
  go_wp2_with fail
  refine (cW.out w12 _ P_12.out).mono ?_
  rintro e w13 ⟨rfl, hb⟩
  have L_13 := Lib.hid (L_12.out.after hb)
  have M_13 := Lib.hid (M_12.out.after hb)
  have P_13 := Lib.hid (P_12.out.after hN'.out hb)
  have Q_13 := Lib.hid (Q_12.out.after hN'.out hb)
  have X_13 := Lib.hid (nd_after hN'.out X_12.out hb)
  have T_13 := Lib.hid (T_12.out.after hN'.out hb)
  have R_13 := Lib.hid (R_12.out.after hb)
  have B_13 := Lib.hid (Below.after B_12.out hb)
  clear L_12 M_12 P_12 Q_12 X_12 T_12 R_12 B_12
  clear hb
  go_wp2_with fail
  refine (cV.out w13 _ Q_13.out).mono ?_
  rintro e w14 ⟨rfl, hb⟩
  have L_14 := Lib.hid (L_13.out.after hb)
  have M_14 := Lib.hid (M_13.out.after hb)
  have P_14 := Lib.hid (P_13.out.after hN'.out hb)
  have Q_14 := Lib.hid (Q_13.out.after hN'.out hb)
  have X_14 := Lib.hid (nd_after hN'.out X_13.out hb)
  have T_14 := Lib.hid (T_13.out.after hN'.out hb)
  have R_14 := Lib.hid (R_13.out.after hb)
  have B_14 := Lib.hid (Below.after B_13.out hb)
  clear L_13 M_13 P_13 Q_13 X_13 T_13 R_13 B_13
  clear hb
  go_wp2_with fail
  refine (cA.out w14).mono ?_
  rintro e w15 ⟨rfl, hb⟩
  have L_15 := Lib.hid (L_14.out.after hb)
  have M_15 := Lib.hid (M_14.out.after hb)
  have P_15 := Lib.hid (P_14.out.after hN'.out hb)
  have Q_15 := Lib.hid (Q_14.out.after hN'.out hb)
  have X_15 := Lib.hid (nd_after hN'.out X_14.out hb)
  have T_15 := Lib.hid (T_14.out.after hN'.out hb)
  have R_15 := Lib.hid (R_14.out.after hb)
  have B_15 := Lib.hid (Below.after B_14.out hb)
  clear L_14 M_14 P_14 Q_14 X_14 T_14 R_14 B_14
  clear hb
  go_wp2
  go_ret
  exact ⟨rfl, B_15.out⟩
theorem wbMakes_any (hN : NodeSays Nd) (hS : WbSays Nd) (A : Option Addr) (n c : Nat) (l : List Bd) (hl : l.length = n) (hn : n ≤ c) (hc : c ≤ maxLen) (hz : A = none → c = 0) (A2 : Option Addr) (n2 c2 : Nat) (m : List Bd) (kl : m.length = n2) (kn : n2 ≤ c2) (kc : c2 ≤ maxLen) (kz : A2 = none → c2 = 0) (key val : BitVec 64) (w : World) (hr : Row w w.heap.size A (flat7 l)) (kr : Row w w.heap.size A2 (flat7 m)) : Calls Try.prog 5 #[.slice A n c, .slice A2 n2 c2, K key, K val] w fun e w' => e = .returned (.bool true) ∧ Below w.heap.size w w' := by
  rcases long_or hl hn hc hz hr with h | ⟨h, t, ht⟩
  · exact wbMakes_long1 hN hS A A2 n c n2 c2 key val w h
  · rcases long_or kl kn kc kz kr with j | ⟨j, u, hu⟩
    · exact wbMakes_long2 hN hS A A2 n c n2 c2 key val w h j
    · cases e1 : mayW t with
      | false => exact wbMakes_A hN hS A A2 n c n2 c2 key val l m t u w h j ht hu e1
      | true =>
        cases e2 : mayW u with
        | false => exact wbMakes_B hN hS A A2 n c n2 c2 key val l m t u w h j ht hu e1 e2
        | true =>
          cases e3 : likeT t u with
          | false => exact wbMakes_C hN hS A A2 n c n2 c2 key val l m t u w h j ht hu e1 e2 e3
          | true => exact wbMakes_D hN hS A A2 n c n2 c2 key val l m t u w h j ht hu e1 e2 e3
end Go.Proofs.Ytifhnaelkjfmdaa
