/- Layer 16: the statement RbMakes, walked. Made by wip/gen/layer16laws.py. -/
import Derived.Test.YtifhnaelkjfmdabL16Alive
namespace Go.Proofs.Ytifhnaelkjfmdab
open Go.RowKit Go.Proofs.Treem
set_option maxRecDepth 100000
variable {Nd : NdP}

set_option maxHeartbeats 2000000 in
theorem rbMakes_long1 (hN : NodeSays Nd) (hS : RbSays Nd) (A A2 : Option Addr) (n c n2 c2 : Nat) (key val : BitVec 64) (red : Bool) (w : World) (h : LongAt w A n c true) : Calls Try.prog 3 #[.slice A n c, .slice A2 n2 c2, K key, K val, .bool red] w fun e w' => e = .returned (.bool true) ∧ Below w.heap.size w w' := by
  have c0 := Lib.hid (h w (Below.refl _ _))
  have c9 := Lib.hid (alive16_any hN hS w)
  clear h hN hS
  go_enter Try.func3, Try.ntmps3
  go_wp2_with fail
  refine c0.out.mono ?_
  rintro e w' ⟨rfl, rfl⟩
  go_wp2_with fail
  refine c9.out.mono ?_
  rintro e w1 ⟨rfl, hb⟩
  have b1 := Lib.hid hb
  clear hb
  go_wp2
  go_ret
  exact ⟨rfl, b1.out⟩
set_option maxHeartbeats 2000000 in
theorem rbMakes_long2 (hN : NodeSays Nd) (hS : RbSays Nd) (A A2 : Option Addr) (n c n2 c2 : Nat) (key val : BitVec 64) (red : Bool) (w : World) (h : LongAt w A n c false) (h2 : LongAt w A2 n2 c2 true) : Calls Try.prog 3 #[.slice A n c, .slice A2 n2 c2, K key, K val, .bool red] w fun e w' => e = .returned (.bool true) ∧ Below w.heap.size w w' := by
  have c0 := Lib.hid (h w (Below.refl _ _))
  have c1 := Lib.hid (h2 w (Below.refl _ _))
  have c9 := Lib.hid (alive16_any hN hS w)
  clear h hN hS h2
  go_enter Try.func3, Try.ntmps3
  go_wp2_with fail
  refine c0.out.mono ?_
  rintro e w' ⟨rfl, rfl⟩
  go_wp2_with fail
  refine c1.out.mono ?_
  rintro e w' ⟨rfl, rfl⟩
  go_wp2_with fail
  refine c9.out.mono ?_
  rintro e w1 ⟨rfl, hb⟩
  have b1 := Lib.hid hb
  clear hb
  go_wp2
  go_ret
  exact ⟨rfl, b1.out⟩
set_option maxHeartbeats 4000000 in
theorem rbMakes_true (hN : NodeSays Nd) (hS : RbSays Nd) (A A2 : Option Addr) (n c n2 c2 : Nat) (key val : BitVec 64) (l m : List Bd) (t u : Tr) (w : World) (h : LongAt w A n c false) (h2 : LongAt w A2 n2 c2 false) (ht : TreeIn w A n c l t) (hu : TreeIn w A2 n2 c2 m u) : Calls Try.prog 3 #[.slice A n c, .slice A2 n2 c2, K key, K val, .bool true] w fun e w' => e = .returned (.bool true) ∧ Below w.heap.size w w' := by
  have c0 := Lib.hid (h w (Below.refl _ _))
  have c1 := Lib.hid (h2 w (Below.refl _ _))
  have cM := Lib.hid (ht.make hN)
  have cM2 := Lib.hid (hu.make hN)
  have hts : t.size ≤ 400 := by rw [ht.size]; exact ht.few
  have hus : u.size ≤ 400 := by rw [hu.size]; exact hu.few
  have hn := ht.size
  have hn2 := hu.size
  obtain ⟨N, hNN⟩ : ∃ N, 1 + n + n2 = N := ⟨_, rfl⟩
  have hsz : (makeR t key val true u).size = N := by rw [makeR, Tr.size, hn, hn2, hNN]
  have hsb : (blackR (makeR t key val true u)).size = N := by rw [black_size, hsz]
  have cA : Hid (∀ W, Calls Try.prog 10 #[] W fun e w' => e = .returned (.bool true) ∧ Below W.heap.size W w') := fun W => alive16_any hN hS W
  have cK := Lib.hid (fun W p q h1 h2 => RbSays.makeT hN hS W t u p q key val true h1 h2)
  have cR : Hid (∀ W, LieB W W.heap.size A n c l → LieB W W.heap.size A2 n2 c2 m → Calls Try.prog 13 #[.slice A n c, K key, K val, .bool true, .slice A2 n2 c2] W (MadeB W N (makeR t key val true u).told)) := fun W k1 k2 => refMake16_true t u key val A A2 n n2 c c2 l m ht.pre hu.pre hn hn2 N hNN (by omega) W k1 k2
  have cI := Lib.hid (fun p A c W hT hl => Is9 hN (makeR t key val true u) p (by omega) A N c hsz W hT hl)
  have cI2 := Lib.hid (fun p A c W hT hl => Is9 hN (blackR (makeR t key val true u)) p (by omega) A N c hsb W hT hl)
  have cB : Hid (∀ W A3 c3, LieB W W.heap.size A3 N c3 (makeR t key val true u).told → Calls Try.prog 18 #[.slice A3 N c3] W (MadeB W N (blackR (makeR t key val true u)).told)) := fun W A3 c3 k => by
    have := refBlack16 (makeR t key val true u) A3 N c3 (makeR t key val true u).told (told_strip _) (by omega) W k
    rw [blackB_told] at this
    exact this
  have hred : redR (makeR t key val true u) = true := make_red t key val true u
  have pe := ptr_eql
  have L_0 : Hid (LieB w w.heap.size A n c l) := ht.lie
  have M_0 : Hid (LieB w w.heap.size A2 n2 c2 m) := hu.lie
  have cK' : Hid (∀ W p q, TreeAt Nd W W.heap.size t p → TreeAt Nd W W.heap.size u q → Calls Try.prog 12 #[.pointer p, K key, K val, .bool true, .pointer q] W fun e w' => ∃ a x, e = .returned (.pointer (some a)) ∧ x.l = p ∧ x.r = q ∧ x.k = key ∧ x.v = val ∧ x.g = tagR t true ∧ Nd w' w'.heap.size a x ∧ TreeAt Nd w' w'.heap.size (makeR t key val true u) (some a) ∧ Below W.heap.size W w') := fun W p q k1 k2 => (cK.out W p q k1 k2).mono fun e w' ⟨a, k3, _, k4, k5, k6⟩ => ⟨a, _, k3, rfl, rfl, rfl, rfl, rfl, k4, k5, k6⟩
  have cU : Hid (∀ W a x, x.k = key → x.v = val → x.g = tagR t true → Nd W W.heap.size a x → TreeAt Nd W W.heap.size (makeR t key val true u) (some a) → Calls Try.prog 14 #[.pointer (some a)] W fun e w' => ∃ b y, e = .returned (.pointer (some b)) ∧ y.l = x.l ∧ y.r = x.r ∧ Nd w' w'.heap.size b y ∧ TreeAt Nd w' w'.heap.size (blackR (makeR t key val true u)) (some b) ∧ Below W.heap.size W w') := fun W a x e1 e2 e3 k1 k2 => by
    have hx : x = ⟨x.l, x.r, key, val, tagR t true, x.size, x.sum⟩ := by rw [← e1, ← e2, ← e3]
    rw [hx] at k1
    rw [show (blackR (makeR t key val true u)) = .n t key val (tagR t true + 1#64) u from black_yes hred]
    exact (hS.blackY hN W t u key val _ a _ _ _ _ k1 k2 hred).mono fun e w' ⟨b, j1, _, j2, j3, j4⟩ => ⟨b, ⟨x.l, x.r, key, val, tagR t true + 1#64, _, _⟩, j1, rfl, rfl, j2, j3, j4⟩
  obtain ⟨tu, htu⟩ : ∃ tu, (makeR t key val true u) = tu := ⟨_, rfl⟩
  obtain ⟨tb, htb⟩ : ∃ tu, (blackR (makeR t key val true u)) = tu := ⟨_, rfl⟩
  rw [htb] at cU cB cI2
  rw [htu] at cK' cR cI cU cB
  have hN' := Lib.hid hN
  clear htb htu hNN hsz hsb hn hn2 cK hred hN hS h h2 ht hu hts hus
  go_enter Try.func3, Try.ntmps3
  have B_0 := Lib.hid (Below.refl w.heap.size w)
  go_wp2_with fail
  refine (c0.out).mono ?_
  rintro e w' ⟨rfl, rfl⟩
  go_wp2_with fail
  refine (c1.out).mono ?_
  rintro e w' ⟨rfl, rfl⟩
  go_wp2_with fail
  refine (cM.out w B_0.out).mono ?_
  rintro e w1 ⟨p, rfl, hP, hb⟩
  have L_1 := Lib.hid (L_0.out.after hb)
  have M_1 := Lib.hid (M_0.out.after hb)
  have B_1 := Lib.hid (Below.after B_0.out hb)
  clear L_0 M_0 B_0
  have P_1 := Lib.hid hP
  clear hP
  clear hb
  go_wp2_with fail
  refine (cM2.out w1 B_1.out).mono ?_
  rintro e w2 ⟨q, rfl, hQ, hb⟩
  have L_2 := Lib.hid (L_1.out.after hb)
  have M_2 := Lib.hid (M_1.out.after hb)
  have P_2 := Lib.hid (P_1.out.after hN'.out hb)
  have B_2 := Lib.hid (Below.after B_1.out hb)
  clear L_1 M_1 P_1 B_1
  have Q_2 := Lib.hid hQ
  clear hQ
  clear hb
  go_wp2_with fail
  refine (cK'.out w2 _ _ P_2.out Q_2.out).mono ?_
  rintro e w3 ⟨a, x, rfl, rfl, rfl, e1, e2, e3, hX, hT, hb⟩
  have L_3 := Lib.hid (L_2.out.after hb)
  have M_3 := Lib.hid (M_2.out.after hb)
  have P_3 := Lib.hid (P_2.out.after hN'.out hb)
  have Q_3 := Lib.hid (Q_2.out.after hN'.out hb)
  have B_3 := Lib.hid (Below.after B_2.out hb)
  clear L_2 M_2 P_2 Q_2 B_2
  have X_3 := Lib.hid hX
  clear hX
  have T_3 := Lib.hid hT
  clear hT
  clear hb
  go_wp2_with fail
  refine (cR.out w3 L_3.out M_3.out).mono ?_
  rintro e w4 ⟨A3, c3, rfl, hR, hb⟩
  have L_4 := Lib.hid (L_3.out.after hb)
  have M_4 := Lib.hid (M_3.out.after hb)
  have P_4 := Lib.hid (P_3.out.after hN'.out hb)
  have Q_4 := Lib.hid (Q_3.out.after hN'.out hb)
  have X_4 := Lib.hid (nd_after hN'.out X_3.out hb)
  have T_4 := Lib.hid (T_3.out.after hN'.out hb)
  have B_4 := Lib.hid (Below.after B_3.out hb)
  clear L_3 M_3 P_3 Q_3 X_3 T_3 B_3
  have R_4 := Lib.hid hR
  clear hR
  clear hb
  go_wp2_with fail
  refine (cU.out w4 a x e1 e2 e3 X_4.out T_4.out).mono ?_
  rintro e w5 ⟨b, y, rfl, f1, f2, hY, hU, hb⟩
  have L_5 := Lib.hid (L_4.out.after hb)
  have M_5 := Lib.hid (M_4.out.after hb)
  have P_5 := Lib.hid (P_4.out.after hN'.out hb)
  have Q_5 := Lib.hid (Q_4.out.after hN'.out hb)
  have X_5 := Lib.hid (nd_after hN'.out X_4.out hb)
  have T_5 := Lib.hid (T_4.out.after hN'.out hb)
  have R_5 := Lib.hid (R_4.out.after hb)
  have B_5 := Lib.hid (Below.after B_4.out hb)
  clear L_4 M_4 P_4 Q_4 X_4 T_4 R_4 B_4
  have Y_5 := Lib.hid hY
  clear hY
  have U_5 := Lib.hid hU
  clear hU
  clear hb
  clear e1 e2 e3
  go_wp2_with fail
  refine (cI.out _ _ _ w5 T_5.out R_5.out).mono ?_
  rintro e w6 ⟨rfl, hb⟩
  have L_6 := Lib.hid (L_5.out.after hb)
  have M_6 := Lib.hid (M_5.out.after hb)
  have P_6 := Lib.hid (P_5.out.after hN'.out hb)
  have Q_6 := Lib.hid (Q_5.out.after hN'.out hb)
  have X_6 := Lib.hid (nd_after hN'.out X_5.out hb)
  have T_6 := Lib.hid (T_5.out.after hN'.out hb)
  have R_6 := Lib.hid (R_5.out.after hb)
  have Y_6 := Lib.hid (nd_after hN'.out Y_5.out hb)
  have U_6 := Lib.hid (U_5.out.after hN'.out hb)
  have B_6 := Lib.hid (Below.after B_5.out hb)
  clear L_5 M_5 P_5 Q_5 X_5 T_5 R_5 Y_5 U_5 B_5
  clear hb
  go_wp2_with fail
  refine (hN'.out.left w6 _ _ _ X_6.out).mono ?_
  rintro e w' ⟨rfl, rfl⟩
  go_wp2_with fail
  refine (hN'.out.right w6 _ _ _ X_6.out).mono ?_
  rintro e w' ⟨rfl, rfl⟩
  go_wp2_with fail
  refine (cB.out w6 _ _ R_6.out).mono ?_
  rintro e w7 ⟨A4, c4, rfl, hS, hb⟩
  have L_7 := Lib.hid (L_6.out.after hb)
  have M_7 := Lib.hid (M_6.out.after hb)
  have P_7 := Lib.hid (P_6.out.after hN'.out hb)
  have Q_7 := Lib.hid (Q_6.out.after hN'.out hb)
  have X_7 := Lib.hid (nd_after hN'.out X_6.out hb)
  have T_7 := Lib.hid (T_6.out.after hN'.out hb)
  have R_7 := Lib.hid (R_6.out.after hb)
  have Y_7 := Lib.hid (nd_after hN'.out Y_6.out hb)
  have U_7 := Lib.hid (U_6.out.after hN'.out hb)
  have B_7 := Lib.hid (Below.after B_6.out hb)
  clear L_6 M_6 P_6 Q_6 X_6 T_6 R_6 Y_6 U_6 B_6
  have S_7 := Lib.hid hS
  clear hS
  clear hb
  go_wp2_with fail
  refine (cI2.out _ _ _ w7 U_7.out S_7.out).mono ?_
  rintro e w8 ⟨rfl, hb⟩
  have L_8 := Lib.hid (L_7.out.after hb)
  have M_8 := Lib.hid (M_7.out.after hb)
  have P_8 := Lib.hid (P_7.out.after hN'.out hb)
  have Q_8 := Lib.hid (Q_7.out.after hN'.out hb)
  have X_8 := Lib.hid (nd_after hN'.out X_7.out hb)
  have T_8 := Lib.hid (T_7.out.after hN'.out hb)
  have R_8 := Lib.hid (R_7.out.after hb)
  have Y_8 := Lib.hid (nd_after hN'.out Y_7.out hb)
  have U_8 := Lib.hid (U_7.out.after hN'.out hb)
  have S_8 := Lib.hid (S_7.out.after hb)
  have B_8 := Lib.hid (Below.after B_7.out hb)
  clear L_7 M_7 P_7 Q_7 X_7 T_7 R_7 Y_7 U_7 S_7 B_7
  clear hb
  go_wp2_with fail
  refine (hN'.out.left w8 _ _ _ Y_8.out).mono ?_
  rintro e w' ⟨rfl, rfl⟩
  rw [f1]
  go_wp2_with fail
  refine (hN'.out.right w8 _ _ _ Y_8.out).mono ?_
  rintro e w' ⟨rfl, rfl⟩
  rw [f2]
  go_wp2_with fail
  refine (cA.out w8).mono ?_
  rintro e w9 ⟨rfl, hb⟩
  have L_9 := Lib.hid (L_8.out.after hb)
  have M_9 := Lib.hid (M_8.out.after hb)
  have P_9 := Lib.hid (P_8.out.after hN'.out hb)
  have Q_9 := Lib.hid (Q_8.out.after hN'.out hb)
  have X_9 := Lib.hid (nd_after hN'.out X_8.out hb)
  have T_9 := Lib.hid (T_8.out.after hN'.out hb)
  have R_9 := Lib.hid (R_8.out.after hb)
  have Y_9 := Lib.hid (nd_after hN'.out Y_8.out hb)
  have U_9 := Lib.hid (U_8.out.after hN'.out hb)
  have S_9 := Lib.hid (S_8.out.after hb)
  have B_9 := Lib.hid (Below.after B_8.out hb)
  clear L_8 M_8 P_8 Q_8 X_8 T_8 R_8 Y_8 U_8 S_8 B_8
  clear hb
  go_wp2
  go_ret
  exact ⟨rfl, B_9.out⟩
set_option maxHeartbeats 4000000 in
theorem rbMakes_false (hN : NodeSays Nd) (hS : RbSays Nd) (A A2 : Option Addr) (n c n2 c2 : Nat) (key val : BitVec 64) (l m : List Bd) (t u : Tr) (w : World) (h : LongAt w A n c false) (h2 : LongAt w A2 n2 c2 false) (ht : TreeIn w A n c l t) (hu : TreeIn w A2 n2 c2 m u) : Calls Try.prog 3 #[.slice A n c, .slice A2 n2 c2, K key, K val, .bool false] w fun e w' => e = .returned (.bool true) ∧ Below w.heap.size w w' := by
  have c0 := Lib.hid (h w (Below.refl _ _))
  have c1 := Lib.hid (h2 w (Below.refl _ _))
  have cM := Lib.hid (ht.make hN)
  have cM2 := Lib.hid (hu.make hN)
  have hts : t.size ≤ 400 := by rw [ht.size]; exact ht.few
  have hus : u.size ≤ 400 := by rw [hu.size]; exact hu.few
  have hn := ht.size
  have hn2 := hu.size
  obtain ⟨N, hNN⟩ : ∃ N, 1 + n + n2 = N := ⟨_, rfl⟩
  have hsz : (makeR t key val false u).size = N := by rw [makeR, Tr.size, hn, hn2, hNN]
  have hsb : (blackR (makeR t key val false u)).size = N := by rw [black_size, hsz]
  have cA : Hid (∀ W, Calls Try.prog 10 #[] W fun e w' => e = .returned (.bool true) ∧ Below W.heap.size W w') := fun W => alive16_any hN hS W
  have cK := Lib.hid (fun W p q h1 h2 => RbSays.makeT hN hS W t u p q key val false h1 h2)
  have cR : Hid (∀ W, LieB W W.heap.size A n c l → LieB W W.heap.size A2 n2 c2 m → Calls Try.prog 13 #[.slice A n c, K key, K val, .bool false, .slice A2 n2 c2] W (MadeB W N (makeR t key val false u).told)) := fun W k1 k2 => refMake16_false t u key val A A2 n n2 c c2 l m ht.pre hu.pre hn hn2 N hNN (by omega) W k1 k2
  have cI := Lib.hid (fun p A c W hT hl => Is9 hN (makeR t key val false u) p (by omega) A N c hsz W hT hl)
  have cI2 := Lib.hid (fun p A c W hT hl => Is9 hN (blackR (makeR t key val false u)) p (by omega) A N c hsb W hT hl)
  have cB : Hid (∀ W A3 c3, LieB W W.heap.size A3 N c3 (makeR t key val false u).told → Calls Try.prog 18 #[.slice A3 N c3] W (MadeB W N (blackR (makeR t key val false u)).told)) := fun W A3 c3 k => by
    have := refBlack16 (makeR t key val false u) A3 N c3 (makeR t key val false u).told (told_strip _) (by omega) W k
    rw [blackB_told] at this
    exact this
  have hred : redR (makeR t key val false u) = false := make_red t key val false u
  have pe := ptr_eql
  have L_0 : Hid (LieB w w.heap.size A n c l) := ht.lie
  have M_0 : Hid (LieB w w.heap.size A2 n2 c2 m) := hu.lie
  have cK' : Hid (∀ W p q, TreeAt Nd W W.heap.size t p → TreeAt Nd W W.heap.size u q → Calls Try.prog 12 #[.pointer p, K key, K val, .bool false, .pointer q] W fun e w' => ∃ a x, e = .returned (.pointer (some a)) ∧ x.l = p ∧ x.r = q ∧ x.k = key ∧ x.v = val ∧ x.g = tagR t false ∧ Nd w' w'.heap.size a x ∧ TreeAt Nd w' w'.heap.size (makeR t key val false u) (some a) ∧ Below W.heap.size W w') := fun W p q k1 k2 => (cK.out W p q k1 k2).mono fun e w' ⟨a, k3, _, k4, k5, k6⟩ => ⟨a, _, k3, rfl, rfl, rfl, rfl, rfl, k4, k5, k6⟩
  have cU : Hid (∀ W p, TreeAt Nd W W.heap.size (makeR t key val false u) p → Calls Try.prog 14 #[.pointer p] W fun e w' => e = .returned (.pointer p) ∧ Below W.heap.size W w') := fun W p k => hS.blackN W _ p k hred
  rw [black_no hred] at cB cI2
  obtain ⟨tu, htu⟩ : ∃ tu, (makeR t key val false u) = tu := ⟨_, rfl⟩
  rw [htu] at cK' cR cI cU cB cI2
  have hN' := Lib.hid hN
  clear htu hNN hsz hsb hn hn2 cK hred hN hS h h2 ht hu hts hus
  go_enter Try.func3, Try.ntmps3
  have B_0 := Lib.hid (Below.refl w.heap.size w)
  go_wp2_with fail
  refine (c0.out).mono ?_
  rintro e w' ⟨rfl, rfl⟩
  go_wp2_with fail
  refine (c1.out).mono ?_
  rintro e w' ⟨rfl, rfl⟩
  go_wp2_with fail
  refine (cM.out w B_0.out).mono ?_
  rintro e w1 ⟨p, rfl, hP, hb⟩
  have L_1 := Lib.hid (L_0.out.after hb)
  have M_1 := Lib.hid (M_0.out.after hb)
  have B_1 := Lib.hid (Below.after B_0.out hb)
  clear L_0 M_0 B_0
  have P_1 := Lib.hid hP
  clear hP
  clear hb
  go_wp2_with fail
  refine (cM2.out w1 B_1.out).mono ?_
  rintro e w2 ⟨q, rfl, hQ, hb⟩
  have L_2 := Lib.hid (L_1.out.after hb)
  have M_2 := Lib.hid (M_1.out.after hb)
  have P_2 := Lib.hid (P_1.out.after hN'.out hb)
  have B_2 := Lib.hid (Below.after B_1.out hb)
  clear L_1 M_1 P_1 B_1
  have Q_2 := Lib.hid hQ
  clear hQ
  clear hb
  go_wp2_with fail
  refine (cK'.out w2 _ _ P_2.out Q_2.out).mono ?_
  rintro e w3 ⟨a, x, rfl, rfl, rfl, e1, e2, e3, hX, hT, hb⟩
  have L_3 := Lib.hid (L_2.out.after hb)
  have M_3 := Lib.hid (M_2.out.after hb)
  have P_3 := Lib.hid (P_2.out.after hN'.out hb)
  have Q_3 := Lib.hid (Q_2.out.after hN'.out hb)
  have B_3 := Lib.hid (Below.after B_2.out hb)
  clear L_2 M_2 P_2 Q_2 B_2
  have X_3 := Lib.hid hX
  clear hX
  have T_3 := Lib.hid hT
  clear hT
  clear hb
  go_wp2_with fail
  refine (cR.out w3 L_3.out M_3.out).mono ?_
  rintro e w4 ⟨A3, c3, rfl, hR, hb⟩
  have L_4 := Lib.hid (L_3.out.after hb)
  have M_4 := Lib.hid (M_3.out.after hb)
  have P_4 := Lib.hid (P_3.out.after hN'.out hb)
  have Q_4 := Lib.hid (Q_3.out.after hN'.out hb)
  have X_4 := Lib.hid (nd_after hN'.out X_3.out hb)
  have T_4 := Lib.hid (T_3.out.after hN'.out hb)
  have B_4 := Lib.hid (Below.after B_3.out hb)
  clear L_3 M_3 P_3 Q_3 X_3 T_3 B_3
  have R_4 := Lib.hid hR
  clear hR
  clear hb
  go_wp2_with fail
  refine (cU.out w4 _ T_4.out).mono ?_
  rintro e w5 ⟨rfl, hb⟩
  have L_5 := Lib.hid (L_4.out.after hb)
  have M_5 := Lib.hid (M_4.out.after hb)
  have P_5 := Lib.hid (P_4.out.after hN'.out hb)
  have Q_5 := Lib.hid (Q_4.out.after hN'.out hb)
  have X_5 := Lib.hid (nd_after hN'.out X_4.out hb)
  have T_5 := Lib.hid (T_4.out.after hN'.out hb)
  have R_5 := Lib.hid (R_4.out.after hb)
  have B_5 := Lib.hid (Below.after B_4.out hb)
  clear L_4 M_4 P_4 Q_4 X_4 T_4 R_4 B_4
  clear hb
  clear e1 e2 e3
  go_wp2_with fail
  refine (cI.out _ _ _ w5 T_5.out R_5.out).mono ?_
  rintro e w6 ⟨rfl, hb⟩
  have L_6 := Lib.hid (L_5.out.after hb)
  have M_6 := Lib.hid (M_5.out.after hb)
  have P_6 := Lib.hid (P_5.out.after hN'.out hb)
  have Q_6 := Lib.hid (Q_5.out.after hN'.out hb)
  have X_6 := Lib.hid (nd_after hN'.out X_5.out hb)
  have T_6 := Lib.hid (T_5.out.after hN'.out hb)
  have R_6 := Lib.hid (R_5.out.after hb)
  have B_6 := Lib.hid (Below.after B_5.out hb)
  clear L_5 M_5 P_5 Q_5 X_5 T_5 R_5 B_5
  clear hb
  go_wp2_with fail
  refine (hN'.out.left w6 _ _ _ X_6.out).mono ?_
  rintro e w' ⟨rfl, rfl⟩
  go_wp2_with fail
  refine (hN'.out.right w6 _ _ _ X_6.out).mono ?_
  rintro e w' ⟨rfl, rfl⟩
  go_wp2_with fail
  refine (cB.out w6 _ _ R_6.out).mono ?_
  rintro e w7 ⟨A4, c4, rfl, hS, hb⟩
  have L_7 := Lib.hid (L_6.out.after hb)
  have M_7 := Lib.hid (M_6.out.after hb)
  have P_7 := Lib.hid (P_6.out.after hN'.out hb)
  have Q_7 := Lib.hid (Q_6.out.after hN'.out hb)
  have X_7 := Lib.hid (nd_after hN'.out X_6.out hb)
  have T_7 := Lib.hid (T_6.out.after hN'.out hb)
  have R_7 := Lib.hid (R_6.out.after hb)
  have B_7 := Lib.hid (Below.after B_6.out hb)
  clear L_6 M_6 P_6 Q_6 X_6 T_6 R_6 B_6
  have S_7 := Lib.hid hS
  clear hS
  clear hb
  go_wp2_with fail
  refine (cI2.out _ _ _ w7 T_7.out S_7.out).mono ?_
  rintro e w8 ⟨rfl, hb⟩
  have L_8 := Lib.hid (L_7.out.after hb)
  have M_8 := Lib.hid (M_7.out.after hb)
  have P_8 := Lib.hid (P_7.out.after hN'.out hb)
  have Q_8 := Lib.hid (Q_7.out.after hN'.out hb)
  have X_8 := Lib.hid (nd_after hN'.out X_7.out hb)
  have T_8 := Lib.hid (T_7.out.after hN'.out hb)
  have R_8 := Lib.hid (R_7.out.after hb)
  have S_8 := Lib.hid (S_7.out.after hb)
  have B_8 := Lib.hid (Below.after B_7.out hb)
  clear L_7 M_7 P_7 Q_7 X_7 T_7 R_7 S_7 B_7
  clear hb
  go_wp2_with fail
  refine (hN'.out.left w8 _ _ _ X_8.out).mono ?_
  rintro e w' ⟨rfl, rfl⟩
  go_wp2_with fail
  refine (hN'.out.right w8 _ _ _ X_8.out).mono ?_
  rintro e w' ⟨rfl, rfl⟩
  go_wp2_with fail
  refine (cA.out w8).mono ?_
  rintro e w9 ⟨rfl, hb⟩
  have L_9 := Lib.hid (L_8.out.after hb)
  have M_9 := Lib.hid (M_8.out.after hb)
  have P_9 := Lib.hid (P_8.out.after hN'.out hb)
  have Q_9 := Lib.hid (Q_8.out.after hN'.out hb)
  have X_9 := Lib.hid (nd_after hN'.out X_8.out hb)
  have T_9 := Lib.hid (T_8.out.after hN'.out hb)
  have R_9 := Lib.hid (R_8.out.after hb)
  have S_9 := Lib.hid (S_8.out.after hb)
  have B_9 := Lib.hid (Below.after B_8.out hb)
  clear L_8 M_8 P_8 Q_8 X_8 T_8 R_8 S_8 B_8
  clear hb
  go_wp2
  go_ret
  exact ⟨rfl, B_9.out⟩
theorem rbMakes_any (hN : NodeSays Nd) (hS : RbSays Nd) (A : Option Addr) (n c : Nat) (l : List Bd) (hl : l.length = n) (hn : n ≤ c) (hc : c ≤ maxLen) (hz : A = none → c = 0) (A2 : Option Addr) (n2 c2 : Nat) (m : List Bd) (kl : m.length = n2) (kn : n2 ≤ c2) (kc : c2 ≤ maxLen) (kz : A2 = none → c2 = 0) (key val : BitVec 64) (red : Bool) (w : World) (hr : Row w w.heap.size A (flat7 l)) (kr : Row w w.heap.size A2 (flat7 m)) : Calls Try.prog 3 #[.slice A n c, .slice A2 n2 c2, K key, K val, .bool red] w fun e w' => e = .returned (.bool true) ∧ Below w.heap.size w w' := by
  rcases long_or hl hn hc hz hr with h | ⟨h, t, ht⟩
  · exact rbMakes_long1 hN hS A A2 n c n2 c2 key val red w h
  · rcases long_or kl kn kc kz kr with j | ⟨j, u, hu⟩
    · exact rbMakes_long2 hN hS A A2 n c n2 c2 key val red w h j
    · cases red with
      | true => exact rbMakes_true hN hS A A2 n c n2 c2 key val l m t u w h j ht hu
      | false => exact rbMakes_false hN hS A A2 n c n2 c2 key val l m t u w h j ht hu
end Go.Proofs.Ytifhnaelkjfmdab
