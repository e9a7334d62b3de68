/- Layer 14: the statement AvlMakes, walked. Made by wip/gen/layer14laws.py. -/
import Derived.Test.YtifhnaelkjfmdaaL14Says
namespace Go.Proofs.Ytifhnaelkjfmdaa
open Go.RowKit Go.Proofs.Treem
set_option maxRecDepth 100000
variable {Nd : NdP}

/-- what is made of two that may be may be, if their tags differ by 1 at most -/
theorem make_no1 {t u : Tr} (k v : BitVec 64) (h : mayA t = false) : mayA (makeA t k v u) = false := by
  unfold mayA at *
  rw [beq_eq_false_iff_ne] at *
  exact fun e => h ((err_n ..).1 e).2.1
theorem make_no2 {t u : Tr} (k v : BitVec 64) (h : mayA u = false) : mayA (makeA t k v u) = false := by
  unfold mayA at *
  rw [beq_eq_false_iff_ne] at *
  exact fun e => h ((err_n ..).1 e).2.2
theorem tag_few {t : Tr} (h : mayA t = true) (hs : t.size ≤ 400) : t.tag.toInt = (t.high : Int) ∧ t.tag.toNat = t.high ∧ t.high ≤ 12 := by
  unfold mayA at h
  rw [beq_iff_eq] at h
  have h1 := may_high t h
  have h2 := may_12 h hs
  exact ⟨by rw [BitVec.toInt_eq_toNat_of_lt (by omega), h1], h1, h2⟩
theorem make_yes {t u : Tr} (k v : BitVec 64) (h : mayA t = true) (h' : mayA u = true) (hs : t.size ≤ 400) (hs' : u.size ≤ 400) : mayA (makeA t k v u) = decide (max t.high u.high ≤ min t.high u.high + 1) := by
  obtain ⟨-, a1, a2⟩ := tag_few h hs
  obtain ⟨-, b1, b2⟩ := tag_few h' hs'
  have k1 : errA t = 0 := by unfold mayA at h; rwa [beq_iff_eq] at h
  have k2 : errA u = 0 := by unfold mayA at h'; rwa [beq_iff_eq] at h'
  have := make_may t k v u (.inl (by omega)) (.inl (by omega))
  rw [a1, b1] at this
  unfold mayA
  by_cases hc : max t.high u.high ≤ min t.high u.high + 1
  · rw [decide_eq_true hc, beq_iff_eq]; exact this.2 ⟨k1, k2, hc⟩
  · rw [decide_eq_false hc, beq_eq_false_iff_ne]; exact fun e => hc (this.1 e).2.2
set_option maxHeartbeats 2000000 in
theorem avlMakes_long1 (hN : NodeSays Nd) (hS : AvlSays Nd) (A A2 : Option Addr) (n c n2 c2 : Nat) (key val : BitVec 64) (w : World) (h : LongAt w A n c true) : Calls Try.prog 8 #[.slice A n c, .slice A2 n2 c2, K key, K val] w fun e w' => e = .returned (.bool true) ∧ Below w.heap.size w w' := by
  have c0 := Lib.hid (h w (Below.refl _ _))
  have c9 := Lib.hid (alive14_any hN hS w)
  clear h hN hS
  go_enter Try.func8, Try.ntmps8
  go_wp2_with fail
  refine c0.out.mono ?_
  rintro e w' ⟨rfl, rfl⟩
  go_wp2_with fail
  refine c9.out.mono ?_
  rintro e w1 ⟨rfl, hb⟩
  have b1 := Lib.hid hb
  clear hb
  go_wp2
  go_ret
  exact ⟨rfl, b1.out⟩
set_option maxHeartbeats 2000000 in
theorem avlMakes_long2 (hN : NodeSays Nd) (hS : AvlSays Nd) (A A2 : Option Addr) (n c n2 c2 : Nat) (key val : BitVec 64) (w : World) (h : LongAt w A n c false) (h2 : LongAt w A2 n2 c2 true) : Calls Try.prog 8 #[.slice A n c, .slice A2 n2 c2, K key, K val] w fun e w' => e = .returned (.bool true) ∧ Below w.heap.size w w' := by
  have c0 := Lib.hid (h w (Below.refl _ _))
  have c1 := Lib.hid (h2 w (Below.refl _ _))
  have c9 := Lib.hid (alive14_any hN hS w)
  clear h hN hS h2
  go_enter Try.func8, Try.ntmps8
  go_wp2_with fail
  refine c0.out.mono ?_
  rintro e w' ⟨rfl, rfl⟩
  go_wp2_with fail
  refine c1.out.mono ?_
  rintro e w' ⟨rfl, rfl⟩
  go_wp2_with fail
  refine c9.out.mono ?_
  rintro e w1 ⟨rfl, hb⟩
  have b1 := Lib.hid hb
  clear hb
  go_wp2
  go_ret
  exact ⟨rfl, b1.out⟩
set_option maxHeartbeats 4000000 in
theorem avlMakes_A (hN : NodeSays Nd) (hS : AvlSays Nd) (A A2 : Option Addr) (n c n2 c2 : Nat) (key val : BitVec 64) (l m : List Bd) (t u : Tr) (w : World) (h : LongAt w A n c false) (h2 : LongAt w A2 n2 c2 false) (ht : TreeIn w A n c l t) (hu : TreeIn w A2 n2 c2 m u) (e1 : mayA t = false) : Calls Try.prog 8 #[.slice A n c, .slice A2 n2 c2, K key, K val] w fun e w' => e = .returned (.bool true) ∧ Below w.heap.size w w' := by
  have c0 := Lib.hid (h w (Below.refl _ _))
  have c1 := Lib.hid (h2 w (Below.refl _ _))
  have cM := Lib.hid (ht.make hN)
  have cM2 := Lib.hid (hu.make hN)
  have hts : t.size ≤ 400 := by rw [ht.size]; exact ht.few
  have hus : u.size ≤ 400 := by rw [hu.size]; exact hu.few
  have hn := ht.size
  have hn2 := hu.size
  obtain ⟨N, hNN⟩ : ∃ N, 1 + n + n2 = N := ⟨_, rfl⟩
  have hsz : (makeA t key val u).size = N := by rw [makeA, Tr.size, hn, hn2, hNN]
  have cA : Hid (∀ W, Calls Try.prog 34 #[] W fun e w' => e = .returned (.bool true) ∧ Below W.heap.size W w') := fun W => alive14_any hN hS W
  have cK := Lib.hid (fun W p q h1 h2 => AvlSays.makeT hN hS W t u p q key val h1 h2)
  have cC : Hid (∀ W p, TreeAt Nd W W.heap.size t p → Calls Try.prog 39 #[.pointer p] W fun e w' => e = .returned (.bool false) ∧ Below W.heap.size W w') := fun W p hp => e1 ▸ hS.may W t p hp (by omega)
  have eM : mayA (makeA t key val u) = false := make_no1 key val e1
  have cD : Hid (∀ W p, TreeAt Nd W W.heap.size (makeA t key val u) p → Calls Try.prog 39 #[.pointer p] W fun e w' => e = .returned (.bool false) ∧ Below W.heap.size W w') := fun W p hp => eM ▸ hS.may W _ p hp (by omega)
  have cG : Hid (∀ W p, TreeAt Nd W W.heap.size t p → Calls Try.prog 41 #[.pointer p] W fun e w' => e = .returned (.int .i64 t.tag.toInt) ∧ Below W.heap.size W w') := fun W p hp => hS.rank W t p hp
  have cG2 : Hid (∀ W p, TreeAt Nd W W.heap.size u p → Calls Try.prog 41 #[.pointer p] W fun e w' => e = .returned (.int .i64 u.tag.toInt) ∧ Below W.heap.size W w') := fun W p hp => hS.rank W u p hp
  have cR : Hid (∀ W, LieB W W.heap.size A n c l → LieB W W.heap.size A2 n2 c2 m → Calls Try.prog 44 #[.slice A n c, K key, K val, .slice A2 n2 c2] W (MadeB W N (makeA t key val u).told)) := fun W k1 k2 => refMake14 t u key val A A2 n n2 c c2 l m ht.pre hu.pre hn hn2 N hNN (by omega) W k1 k2
  have cI := Lib.hid (fun p A c W hT hl => Is9 hN (makeA t key val u) p (by omega) A N c hsz W hT hl)
  have pe := ptr_eql
  have L_0 : Hid (LieB w w.heap.size A n c l) := ht.lie
  have M_0 : Hid (LieB w w.heap.size A2 n2 c2 m) := hu.lie
  obtain ⟨P, hP⟩ : ∃ P, t.tag.toInt = P := ⟨_, rfl⟩
  obtain ⟨Q, hQ⟩ : ∃ Q, u.tag.toInt = Q := ⟨_, rfl⟩
  rw [hP] at cG
  rw [hQ] at cG2
  obtain ⟨tu, htu⟩ : ∃ tu, makeA t key val u = tu := ⟨_, rfl⟩
  have cK' : Hid (∀ W p q, TreeAt Nd W W.heap.size t p → TreeAt Nd W W.heap.size u q → Calls Try.prog 43 #[.pointer p, K key, K val, .pointer q] W fun e w' => ∃ a x, e = .returned (.pointer (some a)) ∧ x.l = p ∧ x.r = q ∧ Nd w' w'.heap.size a x ∧ TreeAt Nd w' w'.heap.size tu (some a) ∧ Below W.heap.size W w') := fun W p q k1 k2 => (cK.out W p q k1 k2).mono fun e w' ⟨a, k3, _, k4, k5, k6⟩ => ⟨a, _, k3, rfl, rfl, k4, htu ▸ k5, k6⟩
  rw [htu] at cD cR cI
  have hN' := Lib.hid hN
  clear htu hNN hsz hn hn2 cK eM hN hS h h2 ht hu hts hus hP hQ e1
  go_enter Try.func8, Try.ntmps8
  have B_0 := Lib.hid (Below.refl w.heap.size w)
  go_wp2_with fail
  refine (c0.out).mono ?_
  rintro e w' ⟨rfl, rfl⟩
  go_wp2_with fail
  refine (c1.out).mono ?_
  rintro e w' ⟨rfl, rfl⟩
  go_wp2_with fail
  refine (cM.out w B_0.out).mono ?_
  rintro e w1 ⟨p, rfl, hP, hb⟩
  have L_1 := Lib.hid (L_0.out.after hb)
  have M_1 := Lib.hid (M_0.out.after hb)
  have B_1 := Lib.hid (Below.after B_0.out hb)
  clear L_0 M_0 B_0
  have P_1 := Lib.hid hP
  clear hP
  clear hb
  go_wp2_with fail
  refine (cM2.out w1 B_1.out).mono ?_
  rintro e w2 ⟨q, rfl, hQ, hb⟩
  have L_2 := Lib.hid (L_1.out.after hb)
  have M_2 := Lib.hid (M_1.out.after hb)
  have P_2 := Lib.hid (P_1.out.after hN'.out hb)
  have B_2 := Lib.hid (Below.after B_1.out hb)
  clear L_1 M_1 P_1 B_1
  have Q_2 := Lib.hid hQ
  clear hQ
  clear hb
  go_wp2_with fail
  refine (cK'.out w2 _ _ P_2.out Q_2.out).mono ?_
  rintro e w3 ⟨a, x, rfl, rfl, rfl, hX, hT, hb⟩
  have L_3 := Lib.hid (L_2.out.after hb)
  have M_3 := Lib.hid (M_2.out.after hb)
  have P_3 := Lib.hid (P_2.out.after hN'.out hb)
  have Q_3 := Lib.hid (Q_2.out.after hN'.out hb)
  have B_3 := Lib.hid (Below.after B_2.out hb)
  clear L_2 M_2 P_2 Q_2 B_2
  have X_3 := Lib.hid hX
  clear hX
  have T_3 := Lib.hid hT
  clear hT
  clear hb
  go_wp2_with fail
  refine (cG.out w3 _ P_3.out).mono ?_
  rintro e w4 ⟨rfl, hb⟩
  have L_4 := Lib.hid (L_3.out.after hb)
  have M_4 := Lib.hid (M_3.out.after hb)
  have P_4 := Lib.hid (P_3.out.after hN'.out hb)
  have Q_4 := Lib.hid (Q_3.out.after hN'.out hb)
  have X_4 := Lib.hid (nd_after hN'.out X_3.out hb)
  have T_4 := Lib.hid (T_3.out.after hN'.out hb)
  have B_4 := Lib.hid (Below.after B_3.out hb)
  clear L_3 M_3 P_3 Q_3 X_3 T_3 B_3
  clear hb
  go_wp2_with fail
  refine (cG2.out w4 _ Q_4.out).mono ?_
  rintro e w5 ⟨rfl, hb⟩
  have L_5 := Lib.hid (L_4.out.after hb)
  have M_5 := Lib.hid (M_4.out.after hb)
  have P_5 := Lib.hid (P_4.out.after hN'.out hb)
  have Q_5 := Lib.hid (Q_4.out.after hN'.out hb)
  have X_5 := Lib.hid (nd_after hN'.out X_4.out hb)
  have T_5 := Lib.hid (T_4.out.after hN'.out hb)
  have B_5 := Lib.hid (Below.after B_4.out hb)
  clear L_4 M_4 P_4 Q_4 X_4 T_4 B_4
  clear hb
  go_wp2_with fail
  refine (cC.out w5 _ P_5.out).mono ?_
  rintro e w6 ⟨rfl, hb⟩
  have L_6 := Lib.hid (L_5.out.after hb)
  have M_6 := Lib.hid (M_5.out.after hb)
  have P_6 := Lib.hid (P_5.out.after hN'.out hb)
  have Q_6 := Lib.hid (Q_5.out.after hN'.out hb)
  have X_6 := Lib.hid (nd_after hN'.out X_5.out hb)
  have T_6 := Lib.hid (T_5.out.after hN'.out hb)
  have B_6 := Lib.hid (Below.after B_5.out hb)
  clear L_5 M_5 P_5 Q_5 X_5 T_5 B_5
  clear hb
  go_wp2_with fail
  refine (cR.out w6 L_6.out M_6.out).mono ?_
  rintro e w7 ⟨A3, c3, rfl, hR, hb⟩
  have L_7 := Lib.hid (L_6.out.after hb)
  have M_7 := Lib.hid (M_6.out.after hb)
  have P_7 := Lib.hid (P_6.out.after hN'.out hb)
  have Q_7 := Lib.hid (Q_6.out.after hN'.out hb)
  have X_7 := Lib.hid (nd_after hN'.out X_6.out hb)
  have T_7 := Lib.hid (T_6.out.after hN'.out hb)
  have B_7 := Lib.hid (Below.after B_6.out hb)
  clear L_6 M_6 P_6 Q_6 X_6 T_6 B_6
  have R_7 := Lib.hid hR
  clear hR
  clear hb
  go_wp2_with fail
  refine (cI.out _ _ _ w7 T_7.out R_7.out).mono ?_
  rintro e w8 ⟨rfl, hb⟩
  have L_8 := Lib.hid (L_7.out.after hb)
  have M_8 := Lib.hid (M_7.out.after hb)
  have P_8 := Lib.hid (P_7.out.after hN'.out hb)
  have Q_8 := Lib.hid (Q_7.out.after hN'.out hb)
  have X_8 := Lib.hid (nd_after hN'.out X_7.out hb)
  have T_8 := Lib.hid (T_7.out.after hN'.out hb)
  have R_8 := Lib.hid (R_7.out.after hb)
  have B_8 := Lib.hid (Below.after B_7.out hb)
  clear L_7 M_7 P_7 Q_7 X_7 T_7 R_7 B_7
  clear hb
  go_wp2_with fail
  refine (hN'.out.left w8 _ _ _ X_8.out).mono ?_
  rintro e w' ⟨rfl, rfl⟩
  go_wp2_with fail
  refine (hN'.out.right w8 _ _ _ X_8.out).mono ?_
  rintro e w' ⟨rfl, rfl⟩
  go_wp2_with fail
  refine (cD.out w8 _ T_8.out).mono ?_
  rintro e w9 ⟨rfl, hb⟩
  have L_9 := Lib.hid (L_8.out.after hb)
  have M_9 := Lib.hid (M_8.out.after hb)
  have P_9 := Lib.hid (P_8.out.after hN'.out hb)
  have Q_9 := Lib.hid (Q_8.out.after hN'.out hb)
  have X_9 := Lib.hid (nd_after hN'.out X_8.out hb)
  have T_9 := Lib.hid (T_8.out.after hN'.out hb)
  have R_9 := Lib.hid (R_8.out.after hb)
  have B_9 := Lib.hid (Below.after B_8.out hb)
  clear L_8 M_8 P_8 Q_8 X_8 T_8 R_8 B_8
  clear hb
  go_wp2_with fail
  refine (cA.out w9).mono ?_
  rintro e w10 ⟨rfl, hb⟩
  have L_10 := Lib.hid (L_9.out.after hb)
  have M_10 := Lib.hid (M_9.out.after hb)
  have P_10 := Lib.hid (P_9.out.after hN'.out hb)
  have Q_10 := Lib.hid (Q_9.out.after hN'.out hb)
  have X_10 := Lib.hid (nd_after hN'.out X_9.out hb)
  have T_10 := Lib.hid (T_9.out.after hN'.out hb)
  have R_10 := Lib.hid (R_9.out.after hb)
  have B_10 := Lib.hid (Below.after B_9.out hb)
  clear L_9 M_9 P_9 Q_9 X_9 T_9 R_9 B_9
  clear hb
  go_wp2
  go_ret
  exact ⟨rfl, B_10.out⟩
set_option maxHeartbeats 4000000 in
theorem avlMakes_B (hN : NodeSays Nd) (hS : AvlSays Nd) (A A2 : Option Addr) (n c n2 c2 : Nat) (key val : BitVec 64) (l m : List Bd) (t u : Tr) (w : World) (h : LongAt w A n c false) (h2 : LongAt w A2 n2 c2 false) (ht : TreeIn w A n c l t) (hu : TreeIn w A2 n2 c2 m u) (e1 : mayA t = true) (e2 : mayA u = false) : Calls Try.prog 8 #[.slice A n c, .slice A2 n2 c2, K key, K val] w fun e w' => e = .returned (.bool true) ∧ Below w.heap.size w w' := by
  have c0 := Lib.hid (h w (Below.refl _ _))
  have c1 := Lib.hid (h2 w (Below.refl _ _))
  have cM := Lib.hid (ht.make hN)
  have cM2 := Lib.hid (hu.make hN)
  have hts : t.size ≤ 400 := by rw [ht.size]; exact ht.few
  have hus : u.size ≤ 400 := by rw [hu.size]; exact hu.few
  have hn := ht.size
  have hn2 := hu.size
  obtain ⟨N, hNN⟩ : ∃ N, 1 + n + n2 = N := ⟨_, rfl⟩
  have hsz : (makeA t key val u).size = N := by rw [makeA, Tr.size, hn, hn2, hNN]
  have cA : Hid (∀ W, Calls Try.prog 34 #[] W fun e w' => e = .returned (.bool true) ∧ Below W.heap.size W w') := fun W => alive14_any hN hS W
  have cK := Lib.hid (fun W p q h1 h2 => AvlSays.makeT hN hS W t u p q key val h1 h2)
  have cC : Hid (∀ W p, TreeAt Nd W W.heap.size t p → Calls Try.prog 39 #[.pointer p] W fun e w' => e = .returned (.bool true) ∧ Below W.heap.size W w') := fun W p hp => e1 ▸ hS.may W t p hp (by omega)
  have cC2 : Hid (∀ W p, TreeAt Nd W W.heap.size u p → Calls Try.prog 39 #[.pointer p] W fun e w' => e = .returned (.bool false) ∧ Below W.heap.size W w') := fun W p hp => e2 ▸ hS.may W u p hp (by omega)
  have eM : mayA (makeA t key val u) = false := make_no2 key val e2
  have cD : Hid (∀ W p, TreeAt Nd W W.heap.size (makeA t key val u) p → Calls Try.prog 39 #[.pointer p] W fun e w' => e = .returned (.bool false) ∧ Below W.heap.size W w') := fun W p hp => eM ▸ hS.may W _ p hp (by omega)
  have cG : Hid (∀ W p, TreeAt Nd W W.heap.size t p → Calls Try.prog 41 #[.pointer p] W fun e w' => e = .returned (.int .i64 t.tag.toInt) ∧ Below W.heap.size W w') := fun W p hp => hS.rank W t p hp
  have cG2 : Hid (∀ W p, TreeAt Nd W W.heap.size u p → Calls Try.prog 41 #[.pointer p] W fun e w' => e = .returned (.int .i64 u.tag.toInt) ∧ Below W.heap.size W w') := fun W p hp => hS.rank W u p hp
  have cR : Hid (∀ W, LieB W W.heap.size A n c l → LieB W W.heap.size A2 n2 c2 m → Calls Try.prog 44 #[.slice A n c, K key, K val, .slice A2 n2 c2] W (MadeB W N (makeA t key val u).told)) := fun W k1 k2 => refMake14 t u key val A A2 n n2 c c2 l m ht.pre hu.pre hn hn2 N hNN (by omega) W k1 k2
  have cI := Lib.hid (fun p A c W hT hl => Is9 hN (makeA t key val u) p (by omega) A N c hsz W hT hl)
  have pe := ptr_eql
  have L_0 : Hid (LieB w w.heap.size A n c l) := ht.lie
  have M_0 : Hid (LieB w w.heap.size A2 n2 c2 m) := hu.lie
  obtain ⟨P, hP⟩ : ∃ P, t.tag.toInt = P := ⟨_, rfl⟩
  obtain ⟨Q, hQ⟩ : ∃ Q, u.tag.toInt = Q := ⟨_, rfl⟩
  rw [hP] at cG
  rw [hQ] at cG2
  obtain ⟨tu, htu⟩ : ∃ tu, makeA t key val u = tu := ⟨_, rfl⟩
  have cK' : Hid (∀ W p q, TreeAt Nd W W.heap.size t p → TreeAt Nd W W.heap.size u q → Calls Try.prog 43 #[.pointer p, K key, K val, .pointer q] W fun e w' => ∃ a x, e = .returned (.pointer (some a)) ∧ x.l = p ∧ x.r = q ∧ Nd w' w'.heap.size a x ∧ TreeAt Nd w' w'.heap.size tu (some a) ∧ Below W.heap.size W w') := fun W p q k1 k2 => (cK.out W p q k1 k2).mono fun e w' ⟨a, k3, _, k4, k5, k6⟩ => ⟨a, _, k3, rfl, rfl, k4, htu ▸ k5, k6⟩
  rw [htu] at cD cR cI
  have hN' := Lib.hid hN
  clear htu hNN hsz hn hn2 cK eM hN hS h h2 ht hu hts hus hP hQ e1 e2
  go_enter Try.func8, Try.ntmps8
  have B_0 := Lib.hid (Below.refl w.heap.size w)
  go_wp2_with fail
  refine (c0.out).mono ?_
  rintro e w' ⟨rfl, rfl⟩
  go_wp2_with fail
  refine (c1.out).mono ?_
  rintro e w' ⟨rfl, rfl⟩
  go_wp2_with fail
  refine (cM.out w B_0.out).mono ?_
  rintro e w1 ⟨p, rfl, hP, hb⟩
  have L_1 := Lib.hid (L_0.out.after hb)
  have M_1 := Lib.hid (M_0.out.after hb)
  have B_1 := Lib.hid (Below.after B_0.out hb)
  clear L_0 M_0 B_0
  have P_1 := Lib.hid hP
  clear hP
  clear hb
  go_wp2_with fail
  refine (cM2.out w1 B_1.out).mono ?_
  rintro e w2 ⟨q, rfl, hQ, hb⟩
  have L_2 := Lib.hid (L_1.out.after hb)
  have M_2 := Lib.hid (M_1.out.after hb)
  have P_2 := Lib.hid (P_1.out.after hN'.out hb)
  have B_2 := Lib.hid (Below.after B_1.out hb)
  clear L_1 M_1 P_1 B_1
  have Q_2 := Lib.hid hQ
  clear hQ
  clear hb
  go_wp2_with fail
  refine (cK'.out w2 _ _ P_2.out Q_2.out).mono ?_
  rintro e w3 ⟨a, x, rfl, rfl, rfl, hX, hT, hb⟩
  have L_3 := Lib.hid (L_2.out.after hb)
  have M_3 := Lib.hid (M_2.out.after hb)
  have P_3 := Lib.hid (P_2.out.after hN'.out hb)
  have Q_3 := Lib.hid (Q_2.out.after hN'.out hb)
  have B_3 := Lib.hid (Below.after B_2.out hb)
  clear L_2 M_2 P_2 Q_2 B_2
  have X_3 := Lib.hid hX
  clear hX
  have T_3 := Lib.hid hT
  clear hT
  clear hb
  go_wp2_with fail
  refine (cG.out w3 _ P_3.out).mono ?_
  rintro e w4 ⟨rfl, hb⟩
  have L_4 := Lib.hid (L_3.out.after hb)
  have M_4 := Lib.hid (M_3.out.after hb)
  have P_4 := Lib.hid (P_3.out.after hN'.out hb)
  have Q_4 := Lib.hid (Q_3.out.after hN'.out hb)
  have X_4 := Lib.hid (nd_after hN'.out X_3.out hb)
  have T_4 := Lib.hid (T_3.out.after hN'.out hb)
  have B_4 := Lib.hid (Below.after B_3.out hb)
  clear L_3 M_3 P_3 Q_3 X_3 T_3 B_3
  clear hb
  go_wp2_with fail
  refine (cG2.out w4 _ Q_4.out).mono ?_
  rintro e w5 ⟨rfl, hb⟩
  have L_5 := Lib.hid (L_4.out.after hb)
  have M_5 := Lib.hid (M_4.out.after hb)
  have P_5 := Lib.hid (P_4.out.after hN'.out hb)
  have Q_5 := Lib.hid (Q_4.out.after hN'.out hb)
  have X_5 := Lib.hid (nd_after hN'.out X_4.out hb)
  have T_5 := Lib.hid (T_4.out.after hN'.out hb)
  have B_5 := Lib.hid (Below.after B_4.out hb)
  clear L_4 M_4 P_4 Q_4 X_4 T_4 B_4
  clear hb
  go_wp2_with fail
  refine (cC.out w5 _ P_5.out).mono ?_
  rintro e w6 ⟨rfl, hb⟩
  have L_6 := Lib.hid (L_5.out.after hb)
  have M_6 := Lib.hid (M_5.out.after hb)
  have P_6 := Lib.hid (P_5.out.after hN'.out hb)
  have Q_6 := Lib.hid (Q_5.out.after hN'.out hb)
  have X_6 := Lib.hid (nd_after hN'.out X_5.out hb)
  have T_6 := Lib.hid (T_5.out.after hN'.out hb)
  have B_6 := Lib.hid (Below.after B_5.out hb)
  clear L_5 M_5 P_5 Q_5 X_5 T_5 B_5
  clear hb
  go_wp2_with fail
  refine (cC2.out w6 _ Q_6.out).mono ?_
  rintro e w7 ⟨rfl, hb⟩
  have L_7 := Lib.hid (L_6.out.after hb)
  have M_7 := Lib.hid (M_6.out.after hb)
  have P_7 := Lib.hid (P_6.out.after hN'.out hb)
  have Q_7 := Lib.hid (Q_6.out.after hN'.out hb)
  have X_7 := Lib.hid (nd_after hN'.out X_6.out hb)
  have T_7 := Lib.hid (T_6.out.after hN'.out hb)
  have B_7 := Lib.hid (Below.after B_6.out hb)
  clear L_6 M_6 P_6 Q_6 X_6 T_6 B_6
  clear hb
  go_wp2_with fail
  refine (cR.out w7 L_7.out M_7.out).mono ?_
  rintro e w8 ⟨A3, c3, rfl, hR, hb⟩
  have L_8 := Lib.hid (L_7.out.after hb)
  have M_8 := Lib.hid (M_7.out.after hb)
  have P_8 := Lib.hid (P_7.out.after hN'.out hb)
  have Q_8 := Lib.hid (Q_7.out.after hN'.out hb)
  have X_8 := Lib.hid (nd_after hN'.out X_7.out hb)
  have T_8 := Lib.hid (T_7.out.after hN'.out hb)
  have B_8 := Lib.hid (Below.after B_7.out hb)
  clear L_7 M_7 P_7 Q_7 X_7 T_7 B_7
  have R_8 := Lib.hid hR
  clear hR
  clear hb
  go_wp2_with fail
  refine (cI.out _ _ _ w8 T_8.out R_8.out).mono ?_
  rintro e w9 ⟨rfl, hb⟩
  have L_9 := Lib.hid (L_8.out.after hb)
  have M_9 := Lib.hid (M_8.out.after hb)
  have P_9 := Lib.hid (P_8.out.after hN'.out hb)
  have Q_9 := Lib.hid (Q_8.out.after hN'.out hb)
  have X_9 := Lib.hid (nd_after hN'.out X_8.out hb)
  have T_9 := Lib.hid (T_8.out.after hN'.out hb)
  have R_9 := Lib.hid (R_8.out.after hb)
  have B_9 := Lib.hid (Below.after B_8.out hb)
  clear L_8 M_8 P_8 Q_8 X_8 T_8 R_8 B_8
  clear hb
  go_wp2_with fail
  refine (hN'.out.left w9 _ _ _ X_9.out).mono ?_
  rintro e w' ⟨rfl, rfl⟩
  go_wp2_with fail
  refine (hN'.out.right w9 _ _ _ X_9.out).mono ?_
  rintro e w' ⟨rfl, rfl⟩
  go_wp2_with fail
  refine (cD.out w9 _ T_9.out).mono ?_
  rintro e w10 ⟨rfl, hb⟩
  have L_10 := Lib.hid (L_9.out.after hb)
  have M_10 := Lib.hid (M_9.out.after hb)
  have P_10 := Lib.hid (P_9.out.after hN'.out hb)
  have Q_10 := Lib.hid (Q_9.out.after hN'.out hb)
  have X_10 := Lib.hid (nd_after hN'.out X_9.out hb)
  have T_10 := Lib.hid (T_9.out.after hN'.out hb)
  have R_10 := Lib.hid (R_9.out.after hb)
  have B_10 := Lib.hid (Below.after B_9.out hb)
  clear L_9 M_9 P_9 Q_9 X_9 T_9 R_9 B_9
  clear hb
  go_wp2_with fail
  refine (cA.out w10).mono ?_
  rintro e w11 ⟨rfl, hb⟩
  have L_11 := Lib.hid (L_10.out.after hb)
  have M_11 := Lib.hid (M_10.out.after hb)
  have P_11 := Lib.hid (P_10.out.after hN'.out hb)
  have Q_11 := Lib.hid (Q_10.out.after hN'.out hb)
  have X_11 := Lib.hid (nd_after hN'.out X_10.out hb)
  have T_11 := Lib.hid (T_10.out.after hN'.out hb)
  have R_11 := Lib.hid (R_10.out.after hb)
  have B_11 := Lib.hid (Below.after B_10.out hb)
  clear L_10 M_10 P_10 Q_10 X_10 T_10 R_10 B_10
  clear hb
  go_wp2
  go_ret
  exact ⟨rfl, B_11.out⟩
set_option maxHeartbeats 4000000 in
theorem avlMakes_C1 (hN : NodeSays Nd) (hS : AvlSays Nd) (A A2 : Option Addr) (n c n2 c2 : Nat) (key val : BitVec 64) (l m : List Bd) (t u : Tr) (w : World) (h : LongAt w A n c false) (h2 : LongAt w A2 n2 c2 false) (ht : TreeIn w A n c l t) (hu : TreeIn w A2 n2 c2 m u) (e1 : mayA t = true) (e2 : mayA u = true) (e3 : u.high + 1 < t.high) : Calls Try.prog 8 #[.slice A n c, .slice A2 n2 c2, K key, K val] w fun e w' => e = .returned (.bool true) ∧ Below w.heap.size w w' := by
  have c0 := Lib.hid (h w (Below.refl _ _))
  have c1 := Lib.hid (h2 w (Below.refl _ _))
  have cM := Lib.hid (ht.make hN)
  have cM2 := Lib.hid (hu.make hN)
  have hts : t.size ≤ 400 := by rw [ht.size]; exact ht.few
  have hus : u.size ≤ 400 := by rw [hu.size]; exact hu.few
  have hn := ht.size
  have hn2 := hu.size
  obtain ⟨N, hNN⟩ : ∃ N, 1 + n + n2 = N := ⟨_, rfl⟩
  have hsz : (makeA t key val u).size = N := by rw [makeA, Tr.size, hn, hn2, hNN]
  have cA : Hid (∀ W, Calls Try.prog 34 #[] W fun e w' => e = .returned (.bool true) ∧ Below W.heap.size W w') := fun W => alive14_any hN hS W
  have cK := Lib.hid (fun W p q h1 h2 => AvlSays.makeT hN hS W t u p q key val h1 h2)
  have cC : Hid (∀ W p, TreeAt Nd W W.heap.size t p → Calls Try.prog 39 #[.pointer p] W fun e w' => e = .returned (.bool true) ∧ Below W.heap.size W w') := fun W p hp => e1 ▸ hS.may W t p hp (by omega)
  have cC2 : Hid (∀ W p, TreeAt Nd W W.heap.size u p → Calls Try.prog 39 #[.pointer p] W fun e w' => e = .returned (.bool true) ∧ Below W.heap.size W w') := fun W p hp => e2 ▸ hS.may W u p hp (by omega)
  have eM : mayA (makeA t key val u) = false := by rw [make_yes key val e1 e2 hts hus]; exact decide_eq_false (by omega)
  have cD : Hid (∀ W p, TreeAt Nd W W.heap.size (makeA t key val u) p → Calls Try.prog 39 #[.pointer p] W fun e w' => e = .returned (.bool false) ∧ Below W.heap.size W w') := fun W p hp => eM ▸ hS.may W _ p hp (by omega)
  have cG : Hid (∀ W p, TreeAt Nd W W.heap.size t p → Calls Try.prog 41 #[.pointer p] W fun e w' => e = .returned (.int .i64 t.tag.toInt) ∧ Below W.heap.size W w') := fun W p hp => hS.rank W t p hp
  have cG2 : Hid (∀ W p, TreeAt Nd W W.heap.size u p → Calls Try.prog 41 #[.pointer p] W fun e w' => e = .returned (.int .i64 u.tag.toInt) ∧ Below W.heap.size W w') := fun W p hp => hS.rank W u p hp
  have cR : Hid (∀ W, LieB W W.heap.size A n c l → LieB W W.heap.size A2 n2 c2 m → Calls Try.prog 44 #[.slice A n c, K key, K val, .slice A2 n2 c2] W (MadeB W N (makeA t key val u).told)) := fun W k1 k2 => refMake14 t u key val A A2 n n2 c c2 l m ht.pre hu.pre hn hn2 N hNN (by omega) W k1 k2
  have cI := Lib.hid (fun p A c W hT hl => Is9 hN (makeA t key val u) p (by omega) A N c hsz W hT hl)
  have pe := ptr_eql
  have L_0 : Hid (LieB w w.heap.size A n c l) := ht.lie
  have M_0 : Hid (LieB w w.heap.size A2 n2 c2 m) := hu.lie
  have tp := tag_few e1 hts
  have tq := tag_few e2 hus
  obtain ⟨P, hP⟩ : ∃ P, t.tag.toInt = P := ⟨_, rfl⟩
  obtain ⟨Q, hQ⟩ : ∃ Q, u.tag.toInt = Q := ⟨_, rfl⟩
  rw [hP] at cG tp
  rw [hQ] at cG2 tq
  have wr1 : IntKind.i64.wrap (P - Q) = P - Q := IntWalk.i64_in _ (by omega)
  have wr2 : IntKind.i64.wrap (Q - P) = Q - P := IntWalk.i64_in _ (by omega)
  have d1 : decide (P - Q ≤ 1) = false := decide_eq_false (by omega)
  have d1n : ¬ (P - Q ≤ 1) := by omega
  obtain ⟨tu, htu⟩ : ∃ tu, makeA t key val u = tu := ⟨_, rfl⟩
  have cK' : Hid (∀ W p q, TreeAt Nd W W.heap.size t p → TreeAt Nd W W.heap.size u q → Calls Try.prog 43 #[.pointer p, K key, K val, .pointer q] W fun e w' => ∃ a x, e = .returned (.pointer (some a)) ∧ x.l = p ∧ x.r = q ∧ Nd w' w'.heap.size a x ∧ TreeAt Nd w' w'.heap.size tu (some a) ∧ Below W.heap.size W w') := fun W p q k1 k2 => (cK.out W p q k1 k2).mono fun e w' ⟨a, k3, _, k4, k5, k6⟩ => ⟨a, _, k3, rfl, rfl, k4, htu ▸ k5, k6⟩
  rw [htu] at cD cR cI
  have hN' := Lib.hid hN
  clear htu hNN hsz hn hn2 cK eM hN hS h h2 ht hu hts hus hP hQ e1 e2 e3 tp tq
  go_enter Try.func8, Try.ntmps8
  have B_0 := Lib.hid (Below.refl w.heap.size w)
  go_wp2_with fail
  refine (c0.out).mono ?_
  rintro e w' ⟨rfl, rfl⟩
  go_wp2_with fail
  refine (c1.out).mono ?_
  rintro e w' ⟨rfl, rfl⟩
  go_wp2_with fail
  refine (cM.out w B_0.out).mono ?_
  rintro e w1 ⟨p, rfl, hP, hb⟩
  have L_1 := Lib.hid (L_0.out.after hb)
  have M_1 := Lib.hid (M_0.out.after hb)
  have B_1 := Lib.hid (Below.after B_0.out hb)
  clear L_0 M_0 B_0
  have P_1 := Lib.hid hP
  clear hP
  clear hb
  go_wp2_with fail
  refine (cM2.out w1 B_1.out).mono ?_
  rintro e w2 ⟨q, rfl, hQ, hb⟩
  have L_2 := Lib.hid (L_1.out.after hb)
  have M_2 := Lib.hid (M_1.out.after hb)
  have P_2 := Lib.hid (P_1.out.after hN'.out hb)
  have B_2 := Lib.hid (Below.after B_1.out hb)
  clear L_1 M_1 P_1 B_1
  have Q_2 := Lib.hid hQ
  clear hQ
  clear hb
  go_wp2_with fail
  refine (cK'.out w2 _ _ P_2.out Q_2.out).mono ?_
  rintro e w3 ⟨a, x, rfl, rfl, rfl, hX, hT, hb⟩
  have L_3 := Lib.hid (L_2.out.after hb)
  have M_3 := Lib.hid (M_2.out.after hb)
  have P_3 := Lib.hid (P_2.out.after hN'.out hb)
  have Q_3 := Lib.hid (Q_2.out.after hN'.out hb)
  have B_3 := Lib.hid (Below.after B_2.out hb)
  clear L_2 M_2 P_2 Q_2 B_2
  have X_3 := Lib.hid hX
  clear hX
  have T_3 := Lib.hid hT
  clear hT
  clear hb
  go_wp2_with fail
  refine (cG.out w3 _ P_3.out).mono ?_
  rintro e w4 ⟨rfl, hb⟩
  have L_4 := Lib.hid (L_3.out.after hb)
  have M_4 := Lib.hid (M_3.out.after hb)
  have P_4 := Lib.hid (P_3.out.after hN'.out hb)
  have Q_4 := Lib.hid (Q_3.out.after hN'.out hb)
  have X_4 := Lib.hid (nd_after hN'.out X_3.out hb)
  have T_4 := Lib.hid (T_3.out.after hN'.out hb)
  have B_4 := Lib.hid (Below.after B_3.out hb)
  clear L_3 M_3 P_3 Q_3 X_3 T_3 B_3
  clear hb
  go_wp2_with fail
  refine (cG2.out w4 _ Q_4.out).mono ?_
  rintro e w5 ⟨rfl, hb⟩
  have L_5 := Lib.hid (L_4.out.after hb)
  have M_5 := Lib.hid (M_4.out.after hb)
  have P_5 := Lib.hid (P_4.out.after hN'.out hb)
  have Q_5 := Lib.hid (Q_4.out.after hN'.out hb)
  have X_5 := Lib.hid (nd_after hN'.out X_4.out hb)
  have T_5 := Lib.hid (T_4.out.after hN'.out hb)
  have B_5 := Lib.hid (Below.after B_4.out hb)
  clear L_4 M_4 P_4 Q_4 X_4 T_4 B_4
  clear hb
  go_wp2_with fail
  refine (cC.out w5 _ P_5.out).mono ?_
  rintro e w6 ⟨rfl, hb⟩
  have L_6 := Lib.hid (L_5.out.after hb)
  have M_6 := Lib.hid (M_5.out.after hb)
  have P_6 := Lib.hid (P_5.out.after hN'.out hb)
  have Q_6 := Lib.hid (Q_5.out.after hN'.out hb)
  have X_6 := Lib.hid (nd_after hN'.out X_5.out hb)
  have T_6 := Lib.hid (T_5.out.after hN'.out hb)
  have B_6 := Lib.hid (Below.after B_5.out hb)
  clear L_5 M_5 P_5 Q_5 X_5 T_5 B_5
  clear hb
  go_wp2_with fail
  refine (cC2.out w6 _ Q_6.out).mono ?_
  rintro e w7 ⟨rfl, hb⟩
  have L_7 := Lib.hid (L_6.out.after hb)
  have M_7 := Lib.hid (M_6.out.after hb)
  have P_7 := Lib.hid (P_6.out.after hN'.out hb)
  have Q_7 := Lib.hid (Q_6.out.after hN'.out hb)
  have X_7 := Lib.hid (nd_after hN'.out X_6.out hb)
  have T_7 := Lib.hid (T_6.out.after hN'.out hb)
  have B_7 := Lib.hid (Below.after B_6.out hb)
  clear L_6 M_6 P_6 Q_6 X_6 T_6 B_6
  clear hb
  go_wp2_with fail
  refine (cR.out w7 L_7.out M_7.out).mono ?_
  rintro e w8 ⟨A3, c3, rfl, hR, hb⟩
  have L_8 := Lib.hid (L_7.out.after hb)
  have M_8 := Lib.hid (M_7.out.after hb)
  have P_8 := Lib.hid (P_7.out.after hN'.out hb)
  have Q_8 := Lib.hid (Q_7.out.after hN'.out hb)
  have X_8 := Lib.hid (nd_after hN'.out X_7.out hb)
  have T_8 := Lib.hid (T_7.out.after hN'.out hb)
  have B_8 := Lib.hid (Below.after B_7.out hb)
  clear L_7 M_7 P_7 Q_7 X_7 T_7 B_7
  have R_8 := Lib.hid hR
  clear hR
  clear hb
  go_wp2_with fail
  refine (cI.out _ _ _ w8 T_8.out R_8.out).mono ?_
  rintro e w9 ⟨rfl, hb⟩
  have L_9 := Lib.hid (L_8.out.after hb)
  have M_9 := Lib.hid (M_8.out.after hb)
  have P_9 := Lib.hid (P_8.out.after hN'.out hb)
  have Q_9 := Lib.hid (Q_8.out.after hN'.out hb)
  have X_9 := Lib.hid (nd_after hN'.out X_8.out hb)
  have T_9 := Lib.hid (T_8.out.after hN'.out hb)
  have R_9 := Lib.hid (R_8.out.after hb)
  have B_9 := Lib.hid (Below.after B_8.out hb)
  clear L_8 M_8 P_8 Q_8 X_8 T_8 R_8 B_8
  clear hb
  go_wp2_with fail
  refine (hN'.out.left w9 _ _ _ X_9.out).mono ?_
  rintro e w' ⟨rfl, rfl⟩
  go_wp2_with fail
  refine (hN'.out.right w9 _ _ _ X_9.out).mono ?_
  rintro e w' ⟨rfl, rfl⟩
  go_wp2_with fail
  refine (cD.out w9 _ T_9.out).mono ?_
  rintro e w10 ⟨rfl, hb⟩
  have L_10 := Lib.hid (L_9.out.after hb)
  have M_10 := Lib.hid (M_9.out.after hb)
  have P_10 := Lib.hid (P_9.out.after hN'.out hb)
  have Q_10 := Lib.hid (Q_9.out.after hN'.out hb)
  have X_10 := Lib.hid (nd_after hN'.out X_9.out hb)
  have T_10 := Lib.hid (T_9.out.after hN'.out hb)
  have R_10 := Lib.hid (R_9.out.after hb)
  have B_10 := Lib.hid (Below.after B_9.out hb)
  clear L_9 M_9 P_9 Q_9 X_9 T_9 R_9 B_9
  clear hb
  go_wp2_with fail
  refine (cA.out w10).mono ?_
  rintro e w11 ⟨rfl, hb⟩
  have L_11 := Lib.hid (L_10.out.after hb)
  have M_11 := Lib.hid (M_10.out.after hb)
  have P_11 := Lib.hid (P_10.out.after hN'.out hb)
  have Q_11 := Lib.hid (Q_10.out.after hN'.out hb)
  have X_11 := Lib.hid (nd_after hN'.out X_10.out hb)
  have T_11 := Lib.hid (T_10.out.after hN'.out hb)
  have R_11 := Lib.hid (R_10.out.after hb)
  have B_11 := Lib.hid (Below.after B_10.out hb)
  clear L_10 M_10 P_10 Q_10 X_10 T_10 R_10 B_10
  clear hb
  go_wp2
  go_ret
  exact ⟨rfl, B_11.out⟩
set_option maxHeartbeats 4000000 in
theorem avlMakes_C2 (hN : NodeSays Nd) (hS : AvlSays Nd) (A A2 : Option Addr) (n c n2 c2 : Nat) (key val : BitVec 64) (l m : List Bd) (t u : Tr) (w : World) (h : LongAt w A n c false) (h2 : LongAt w A2 n2 c2 false) (ht : TreeIn w A n c l t) (hu : TreeIn w A2 n2 c2 m u) (e1 : mayA t = true) (e2 : mayA u = true) (e3 : t.high + 1 < u.high) : Calls Try.prog 8 #[.slice A n c, .slice A2 n2 c2, K key, K val] w fun e w' => e = .returned (.bool true) ∧ Below w.heap.size w w' := by
  have c0 := Lib.hid (h w (Below.refl _ _))
  have c1 := Lib.hid (h2 w (Below.refl _ _))
  have cM := Lib.hid (ht.make hN)
  have cM2 := Lib.hid (hu.make hN)
  have hts : t.size ≤ 400 := by rw [ht.size]; exact ht.few
  have hus : u.size ≤ 400 := by rw [hu.size]; exact hu.few
  have hn := ht.size
  have hn2 := hu.size
  obtain ⟨N, hNN⟩ : ∃ N, 1 + n + n2 = N := ⟨_, rfl⟩
  have hsz : (makeA t key val u).size = N := by rw [makeA, Tr.size, hn, hn2, hNN]
  have cA : Hid (∀ W, Calls Try.prog 34 #[] W fun e w' => e = .returned (.bool true) ∧ Below W.heap.size W w') := fun W => alive14_any hN hS W
  have cK := Lib.hid (fun W p q h1 h2 => AvlSays.makeT hN hS W t u p q key val h1 h2)
  have cC : Hid (∀ W p, TreeAt Nd W W.heap.size t p → Calls Try.prog 39 #[.pointer p] W fun e w' => e = .returned (.bool true) ∧ Below W.heap.size W w') := fun W p hp => e1 ▸ hS.may W t p hp (by omega)
  have cC2 : Hid (∀ W p, TreeAt Nd W W.heap.size u p → Calls Try.prog 39 #[.pointer p] W fun e w' => e = .returned (.bool true) ∧ Below W.heap.size W w') := fun W p hp => e2 ▸ hS.may W u p hp (by omega)
  have eM : mayA (makeA t key val u) = false := by rw [make_yes key val e1 e2 hts hus]; exact decide_eq_false (by omega)
  have cD : Hid (∀ W p, TreeAt Nd W W.heap.size (makeA t key val u) p → Calls Try.prog 39 #[.pointer p] W fun e w' => e = .returned (.bool false) ∧ Below W.heap.size W w') := fun W p hp => eM ▸ hS.may W _ p hp (by omega)
  have cG : Hid (∀ W p, TreeAt Nd W W.heap.size t p → Calls Try.prog 41 #[.pointer p] W fun e w' => e = .returned (.int .i64 t.tag.toInt) ∧ Below W.heap.size W w') := fun W p hp => hS.rank W t p hp
  have cG2 : Hid (∀ W p, TreeAt Nd W W.heap.size u p → Calls Try.prog 41 #[.pointer p] W fun e w' => e = .returned (.int .i64 u.tag.toInt) ∧ Below W.heap.size W w') := fun W p hp => hS.rank W u p hp
  have cR : Hid (∀ W, LieB W W.heap.size A n c l → LieB W W.heap.size A2 n2 c2 m → Calls Try.prog 44 #[.slice A n c, K key, K val, .slice A2 n2 c2] W (MadeB W N (makeA t key val u).told)) := fun W k1 k2 => refMake14 t u key val A A2 n n2 c c2 l m ht.pre hu.pre hn hn2 N hNN (by omega) W k1 k2
  have cI := Lib.hid (fun p A c W hT hl => Is9 hN (makeA t key val u) p (by omega) A N c hsz W hT hl)
  have pe := ptr_eql
  have L_0 : Hid (LieB w w.heap.size A n c l) := ht.lie
  have M_0 : Hid (LieB w w.heap.size A2 n2 c2 m) := hu.lie
  have tp := tag_few e1 hts
  have tq := tag_few e2 hus
  obtain ⟨P, hP⟩ : ∃ P, t.tag.toInt = P := ⟨_, rfl⟩
  obtain ⟨Q, hQ⟩ : ∃ Q, u.tag.toInt = Q := ⟨_, rfl⟩
  rw [hP] at cG tp
  rw [hQ] at cG2 tq
  have wr1 : IntKind.i64.wrap (P - Q) = P - Q := IntWalk.i64_in _ (by omega)
  have wr2 : IntKind.i64.wrap (Q - P) = Q - P := IntWalk.i64_in _ (by omega)
  have d1 : decide (P - Q ≤ 1) = true := decide_eq_true (by omega)
  have d2 : decide (Q - P ≤ 1) = false := decide_eq_false (by omega)
  have d1n : P - Q ≤ 1 := by omega
  have d2n : ¬ (Q - P ≤ 1) := by omega
  obtain ⟨tu, htu⟩ : ∃ tu, makeA t key val u = tu := ⟨_, rfl⟩
  have cK' : Hid (∀ W p q, TreeAt Nd W W.heap.size t p → TreeAt Nd W W.heap.size u q → Calls Try.prog 43 #[.pointer p, K key, K val, .pointer q] W fun e w' => ∃ a x, e = .returned (.pointer (some a)) ∧ x.l = p ∧ x.r = q ∧ Nd w' w'.heap.size a x ∧ TreeAt Nd w' w'.heap.size tu (some a) ∧ Below W.heap.size W w') := fun W p q k1 k2 => (cK.out W p q k1 k2).mono fun e w' ⟨a, k3, _, k4, k5, k6⟩ => ⟨a, _, k3, rfl, rfl, k4, htu ▸ k5, k6⟩
  rw [htu] at cD cR cI
  have hN' := Lib.hid hN
  clear htu hNN hsz hn hn2 cK eM hN hS h h2 ht hu hts hus hP hQ e1 e2 e3 tp tq
  go_enter Try.func8, Try.ntmps8
  have B_0 := Lib.hid (Below.refl w.heap.size w)
  go_wp2_with fail
  refine (c0.out).mono ?_
  rintro e w' ⟨rfl, rfl⟩
  go_wp2_with fail
  refine (c1.out).mono ?_
  rintro e w' ⟨rfl, rfl⟩
  go_wp2_with fail
  refine (cM.out w B_0.out).mono ?_
  rintro e w1 ⟨p, rfl, hP, hb⟩
  have L_1 := Lib.hid (L_0.out.after hb)
  have M_1 := Lib.hid (M_0.out.after hb)
  have B_1 := Lib.hid (Below.after B_0.out hb)
  clear L_0 M_0 B_0
  have P_1 := Lib.hid hP
  clear hP
  clear hb
  go_wp2_with fail
  refine (cM2.out w1 B_1.out).mono ?_
  rintro e w2 ⟨q, rfl, hQ, hb⟩
  have L_2 := Lib.hid (L_1.out.after hb)
  have M_2 := Lib.hid (M_1.out.after hb)
  have P_2 := Lib.hid (P_1.out.after hN'.out hb)
  have B_2 := Lib.hid (Below.after B_1.out hb)
  clear L_1 M_1 P_1 B_1
  have Q_2 := Lib.hid hQ
  clear hQ
  clear hb
  go_wp2_with fail
  refine (cK'.out w2 _ _ P_2.out Q_2.out).mono ?_
  rintro e w3 ⟨a, x, rfl, rfl, rfl, hX, hT, hb⟩
  have L_3 := Lib.hid (L_2.out.after hb)
  have M_3 := Lib.hid (M_2.out.after hb)
  have P_3 := Lib.hid (P_2.out.after hN'.out hb)
  have Q_3 := Lib.hid (Q_2.out.after hN'.out hb)
  have B_3 := Lib.hid (Below.after B_2.out hb)
  clear L_2 M_2 P_2 Q_2 B_2
  have X_3 := Lib.hid hX
  clear hX
  have T_3 := Lib.hid hT
  clear hT
  clear hb
  go_wp2_with fail
  refine (cG.out w3 _ P_3.out).mono ?_
  rintro e w4 ⟨rfl, hb⟩
  have L_4 := Lib.hid (L_3.out.after hb)
  have M_4 := Lib.hid (M_3.out.after hb)
  have P_4 := Lib.hid (P_3.out.after hN'.out hb)
  have Q_4 := Lib.hid (Q_3.out.after hN'.out hb)
  have X_4 := Lib.hid (nd_after hN'.out X_3.out hb)
  have T_4 := Lib.hid (T_3.out.after hN'.out hb)
  have B_4 := Lib.hid (Below.after B_3.out hb)
  clear L_3 M_3 P_3 Q_3 X_3 T_3 B_3
  clear hb
  go_wp2_with fail
  refine (cG2.out w4 _ Q_4.out).mono ?_
  rintro e w5 ⟨rfl, hb⟩
  have L_5 := Lib.hid (L_4.out.after hb)
  have M_5 := Lib.hid (M_4.out.after hb)
  have P_5 := Lib.hid (P_4.out.after hN'.out hb)
  have Q_5 := Lib.hid (Q_4.out.after hN'.out hb)
  have X_5 := Lib.hid (nd_after hN'.out X_4.out hb)
  have T_5 := Lib.hid (T_4.out.after hN'.out hb)
  have B_5 := Lib.hid (Below.after B_4.out hb)
  clear L_4 M_4 P_4 Q_4 X_4 T_4 B_4
  clear hb
  go_wp2_with fail
  refine (cC.out w5 _ P_5.out).mono ?_
  rintro e w6 ⟨rfl, hb⟩
  have L_6 := Lib.hid (L_5.out.after hb)
  have M_6 := Lib.hid (M_5.out.after hb)
  have P_6 := Lib.hid (P_5.out.after hN'.out hb)
  have Q_6 := Lib.hid (Q_5.out.after hN'.out hb)
  have X_6 := Lib.hid (nd_after hN'.out X_5.out hb)
  have T_6 := Lib.hid (T_5.out.after hN'.out hb)
  have B_6 := Lib.hid (Below.after B_5.out hb)
  clear L_5 M_5 P_5 Q_5 X_5 T_5 B_5
  clear hb
  go_wp2_with fail
  refine (cC2.out w6 _ Q_6.out).mono ?_
  rintro e w7 ⟨rfl, hb⟩
  have L_7 := Lib.hid (L_6.out.after hb)
  have M_7 := Lib.hid (M_6.out.after hb)
  have P_7 := Lib.hid (P_6.out.after hN'.out hb)
  have Q_7 := Lib.hid (Q_6.out.after hN'.out hb)
  have X_7 := Lib.hid (nd_after hN'.out X_6.out hb)
  have T_7 := Lib.hid (T_6.out.after hN'.out hb)
  have B_7 := Lib.hid (Below.after B_6.out hb)
  clear L_6 M_6 P_6 Q_6 X_6 T_6 B_6
  clear hb
  go_wp2_with fail
  refine (cR.out w7 L_7.out M_7.out).mono ?_
  rintro e w8 ⟨A3, c3, rfl, hR, hb⟩
  have L_8 := Lib.hid (L_7.out.after hb)
  have M_8 := Lib.hid (M_7.out.after hb)
  have P_8 := Lib.hid (P_7.out.after hN'.out hb)
  have Q_8 := Lib.hid (Q_7.out.after hN'.out hb)
  have X_8 := Lib.hid (nd_after hN'.out X_7.out hb)
  have T_8 := Lib.hid (T_7.out.after hN'.out hb)
  have B_8 := Lib.hid (Below.after B_7.out hb)
  clear L_7 M_7 P_7 Q_7 X_7 T_7 B_7
  have R_8 := Lib.hid hR
  clear hR
  clear hb
  go_wp2_with fail
  refine (cI.out _ _ _ w8 T_8.out R_8.out).mono ?_
  rintro e w9 ⟨rfl, hb⟩
  have L_9 := Lib.hid (L_8.out.after hb)
  have M_9 := Lib.hid (M_8.out.after hb)
  have P_9 := Lib.hid (P_8.out.after hN'.out hb)
  have Q_9 := Lib.hid (Q_8.out.after hN'.out hb)
  have X_9 := Lib.hid (nd_after hN'.out X_8.out hb)
  have T_9 := Lib.hid (T_8.out.after hN'.out hb)
  have R_9 := Lib.hid (R_8.out.after hb)
  have B_9 := Lib.hid (Below.after B_8.out hb)
  clear L_8 M_8 P_8 Q_8 X_8 T_8 R_8 B_8
  clear hb
  go_wp2_with fail
  refine (hN'.out.left w9 _ _ _ X_9.out).mono ?_
  rintro e w' ⟨rfl, rfl⟩
  go_wp2_with fail
  refine (hN'.out.right w9 _ _ _ X_9.out).mono ?_
  rintro e w' ⟨rfl, rfl⟩
  go_wp2_with fail
  refine (cD.out w9 _ T_9.out).mono ?_
  rintro e w10 ⟨rfl, hb⟩
  have L_10 := Lib.hid (L_9.out.after hb)
  have M_10 := Lib.hid (M_9.out.after hb)
  have P_10 := Lib.hid (P_9.out.after hN'.out hb)
  have Q_10 := Lib.hid (Q_9.out.after hN'.out hb)
  have X_10 := Lib.hid (nd_after hN'.out X_9.out hb)
  have T_10 := Lib.hid (T_9.out.after hN'.out hb)
  have R_10 := Lib.hid (R_9.out.after hb)
  have B_10 := Lib.hid (Below.after B_9.out hb)
  clear L_9 M_9 P_9 Q_9 X_9 T_9 R_9 B_9
  clear hb
  go_wp2_with fail
  refine (cA.out w10).mono ?_
  rintro e w11 ⟨rfl, hb⟩
  have L_11 := Lib.hid (L_10.out.after hb)
  have M_11 := Lib.hid (M_10.out.after hb)
  have P_11 := Lib.hid (P_10.out.after hN'.out hb)
  have Q_11 := Lib.hid (Q_10.out.after hN'.out hb)
  have X_11 := Lib.hid (nd_after hN'.out X_10.out hb)
  have T_11 := Lib.hid (T_10.out.after hN'.out hb)
  have R_11 := Lib.hid (R_10.out.after hb)
  have B_11 := Lib.hid (Below.after B_10.out hb)
  clear L_10 M_10 P_10 Q_10 X_10 T_10 R_10 B_10
  clear hb
  go_wp2
  go_ret
  exact ⟨rfl, B_11.out⟩
set_option maxHeartbeats 4000000 in
theorem avlMakes_C3 (hN : NodeSays Nd) (hS : AvlSays Nd) (A A2 : Option Addr) (n c n2 c2 : Nat) (key val : BitVec 64) (l m : List Bd) (t u : Tr) (w : World) (h : LongAt w A n c false) (h2 : LongAt w A2 n2 c2 false) (ht : TreeIn w A n c l t) (hu : TreeIn w A2 n2 c2 m u) (e1 : mayA t = true) (e2 : mayA u = true) (e3 : t.high ≤ u.high + 1) (e4 : u.high ≤ t.high + 1) : Calls Try.prog 8 #[.slice A n c, .slice A2 n2 c2, K key, K val] w fun e w' => e = .returned (.bool true) ∧ Below w.heap.size w w' := by
  have c0 := Lib.hid (h w (Below.refl _ _))
  have c1 := Lib.hid (h2 w (Below.refl _ _))
  have cM := Lib.hid (ht.make hN)
  have cM2 := Lib.hid (hu.make hN)
  have hts : t.size ≤ 400 := by rw [ht.size]; exact ht.few
  have hus : u.size ≤ 400 := by rw [hu.size]; exact hu.few
  have hn := ht.size
  have hn2 := hu.size
  obtain ⟨N, hNN⟩ : ∃ N, 1 + n + n2 = N := ⟨_, rfl⟩
  have hsz : (makeA t key val u).size = N := by rw [makeA, Tr.size, hn, hn2, hNN]
  have cA : Hid (∀ W, Calls Try.prog 34 #[] W fun e w' => e = .returned (.bool true) ∧ Below W.heap.size W w') := fun W => alive14_any hN hS W
  have cK := Lib.hid (fun W p q h1 h2 => AvlSays.makeT hN hS W t u p q key val h1 h2)
  have cC : Hid (∀ W p, TreeAt Nd W W.heap.size t p → Calls Try.prog 39 #[.pointer p] W fun e w' => e = .returned (.bool true) ∧ Below W.heap.size W w') := fun W p hp => e1 ▸ hS.may W t p hp (by omega)
  have cC2 : Hid (∀ W p, TreeAt Nd W W.heap.size u p → Calls Try.prog 39 #[.pointer p] W fun e w' => e = .returned (.bool true) ∧ Below W.heap.size W w') := fun W p hp => e2 ▸ hS.may W u p hp (by omega)
  have eM : mayA (makeA t key val u) = true := by rw [make_yes key val e1 e2 hts hus]; exact decide_eq_true (by omega)
  have cD : Hid (∀ W p, TreeAt Nd W W.heap.size (makeA t key val u) p → Calls Try.prog 39 #[.pointer p] W fun e w' => e = .returned (.bool true) ∧ Below W.heap.size W w') := fun W p hp => eM ▸ hS.may W _ p hp (by omega)
  have cG : Hid (∀ W p, TreeAt Nd W W.heap.size t p → Calls Try.prog 41 #[.pointer p] W fun e w' => e = .returned (.int .i64 t.tag.toInt) ∧ Below W.heap.size W w') := fun W p hp => hS.rank W t p hp
  have cG2 : Hid (∀ W p, TreeAt Nd W W.heap.size u p → Calls Try.prog 41 #[.pointer p] W fun e w' => e = .returned (.int .i64 u.tag.toInt) ∧ Below W.heap.size W w') := fun W p hp => hS.rank W u p hp
  have cR : Hid (∀ W, LieB W W.heap.size A n c l → LieB W W.heap.size A2 n2 c2 m → Calls Try.prog 44 #[.slice A n c, K key, K val, .slice A2 n2 c2] W (MadeB W N (makeA t key val u).told)) := fun W k1 k2 => refMake14 t u key val A A2 n n2 c c2 l m ht.pre hu.pre hn hn2 N hNN (by omega) W k1 k2
  have cI := Lib.hid (fun p A c W hT hl => Is9 hN (makeA t key val u) p (by omega) A N c hsz W hT hl)
  have pe := ptr_eql
  have L_0 : Hid (LieB w w.heap.size A n c l) := ht.lie
  have M_0 : Hid (LieB w w.heap.size A2 n2 c2 m) := hu.lie
  have tp := tag_few e1 hts
  have tq := tag_few e2 hus
  obtain ⟨P, hP⟩ : ∃ P, t.tag.toInt = P := ⟨_, rfl⟩
  obtain ⟨Q, hQ⟩ : ∃ Q, u.tag.toInt = Q := ⟨_, rfl⟩
  rw [hP] at cG tp
  rw [hQ] at cG2 tq
  have wr1 : IntKind.i64.wrap (P - Q) = P - Q := IntWalk.i64_in _ (by omega)
  have wr2 : IntKind.i64.wrap (Q - P) = Q - P := IntWalk.i64_in _ (by omega)
  have d1 : decide (P - Q ≤ 1) = true := decide_eq_true (by omega)
  have d2 : decide (Q - P ≤ 1) = true := decide_eq_true (by omega)
  have d1n : P - Q ≤ 1 := by omega
  have d2n : Q - P ≤ 1 := by omega
  obtain ⟨tu, htu⟩ : ∃ tu, makeA t key val u = tu := ⟨_, rfl⟩
  have cK' : Hid (∀ W p q, TreeAt Nd W W.heap.size t p → TreeAt Nd W W.heap.size u q → Calls Try.prog 43 #[.pointer p, K key, K val, .pointer q] W fun e w' => ∃ a x, e = .returned (.pointer (some a)) ∧ x.l = p ∧ x.r = q ∧ Nd w' w'.heap.size a x ∧ TreeAt Nd w' w'.heap.size tu (some a) ∧ Below W.heap.size W w') := fun W p q k1 k2 => (cK.out W p q k1 k2).mono fun e w' ⟨a, k3, _, k4, k5, k6⟩ => ⟨a, _, k3, rfl, rfl, k4, htu ▸ k5, k6⟩
  rw [htu] at cD cR cI
  have hN' := Lib.hid hN
  clear htu hNN hsz hn hn2 cK eM hN hS h h2 ht hu hts hus hP hQ e1 e2 e3 tp tq e4
  go_enter Try.func8, Try.ntmps8
  have B_0 := Lib.hid (Below.refl w.heap.size w)
  go_wp2_with fail
  refine (c0.out).mono ?_
  rintro e w' ⟨rfl, rfl⟩
  go_wp2_with fail
  refine (c1.out).mono ?_
  rintro e w' ⟨rfl, rfl⟩
  go_wp2_with fail
  refine (cM.out w B_0.out).mono ?_
  rintro e w1 ⟨p, rfl, hP, hb⟩
  have L_1 := Lib.hid (L_0.out.after hb)
  have M_1 := Lib.hid (M_0.out.after hb)
  have B_1 := Lib.hid (Below.after B_0.out hb)
  clear L_0 M_0 B_0
  have P_1 := Lib.hid hP
  clear hP
  clear hb
  go_wp2_with fail
  refine (cM2.out w1 B_1.out).mono ?_
  rintro e w2 ⟨q, rfl, hQ, hb⟩
  have L_2 := Lib.hid (L_1.out.after hb)
  have M_2 := Lib.hid (M_1.out.after hb)
  have P_2 := Lib.hid (P_1.out.after hN'.out hb)
  have B_2 := Lib.hid (Below.after B_1.out hb)
  clear L_1 M_1 P_1 B_1
  have Q_2 := Lib.hid hQ
  clear hQ
  clear hb
  go_wp2_with fail
  refine (cK'.out w2 _ _ P_2.out Q_2.out).mono ?_
  rintro e w3 ⟨a, x, rfl, rfl, rfl, hX, hT, hb⟩
  have L_3 := Lib.hid (L_2.out.after hb)
  have M_3 := Lib.hid (M_2.out.after hb)
  have P_3 := Lib.hid (P_2.out.after hN'.out hb)
  have Q_3 := Lib.hid (Q_2.out.after hN'.out hb)
  have B_3 := Lib.hid (Below.after B_2.out hb)
  clear L_2 M_2 P_2 Q_2 B_2
  have X_3 := Lib.hid hX
  clear hX
  have T_3 := Lib.hid hT
  clear hT
  clear hb
  go_wp2_with fail
  refine (cG.out w3 _ P_3.out).mono ?_
  rintro e w4 ⟨rfl, hb⟩
  have L_4 := Lib.hid (L_3.out.after hb)
  have M_4 := Lib.hid (M_3.out.after hb)
  have P_4 := Lib.hid (P_3.out.after hN'.out hb)
  have Q_4 := Lib.hid (Q_3.out.after hN'.out hb)
  have X_4 := Lib.hid (nd_after hN'.out X_3.out hb)
  have T_4 := Lib.hid (T_3.out.after hN'.out hb)
  have B_4 := Lib.hid (Below.after B_3.out hb)
  clear L_3 M_3 P_3 Q_3 X_3 T_3 B_3
  clear hb
  go_wp2_with fail
  refine (cG2.out w4 _ Q_4.out).mono ?_
  rintro e w5 ⟨rfl, hb⟩
  have L_5 := Lib.hid (L_4.out.after hb)
  have M_5 := Lib.hid (M_4.out.after hb)
  have P_5 := Lib.hid (P_4.out.after hN'.out hb)
  have Q_5 := Lib.hid (Q_4.out.after hN'.out hb)
  have X_5 := Lib.hid (nd_after hN'.out X_4.out hb)
  have T_5 := Lib.hid (T_4.out.after hN'.out hb)
  have B_5 := Lib.hid (Below.after B_4.out hb)
  clear L_4 M_4 P_4 Q_4 X_4 T_4 B_4
  clear hb
  go_wp2_with fail
  refine (cC.out w5 _ P_5.out).mono ?_
  rintro e w6 ⟨rfl, hb⟩
  have L_6 := Lib.hid (L_5.out.after hb)
  have M_6 := Lib.hid (M_5.out.after hb)
  have P_6 := Lib.hid (P_5.out.after hN'.out hb)
  have Q_6 := Lib.hid (Q_5.out.after hN'.out hb)
  have X_6 := Lib.hid (nd_after hN'.out X_5.out hb)
  have T_6 := Lib.hid (T_5.out.after hN'.out hb)
  have B_6 := Lib.hid (Below.after B_5.out hb)
  clear L_5 M_5 P_5 Q_5 X_5 T_5 B_5
  clear hb
  go_wp2_with fail
  refine (cC2.out w6 _ Q_6.out).mono ?_
  rintro e w7 ⟨rfl, hb⟩
  have L_7 := Lib.hid (L_6.out.after hb)
  have M_7 := Lib.hid (M_6.out.after hb)
  have P_7 := Lib.hid (P_6.out.after hN'.out hb)
  have Q_7 := Lib.hid (Q_6.out.after hN'.out hb)
  have X_7 := Lib.hid (nd_after hN'.out X_6.out hb)
  have T_7 := Lib.hid (T_6.out.after hN'.out hb)
  have B_7 := Lib.hid (Below.after B_6.out hb)
  clear L_6 M_6 P_6 Q_6 X_6 T_6 B_6
  clear hb
  go_wp2_with fail
  refine (cR.out w7 L_7.out M_7.out).mono ?_
  rintro e w8 ⟨A3, c3, rfl, hR, hb⟩
  have L_8 := Lib.hid (L_7.out.after hb)
  have M_8 := Lib.hid (M_7.out.after hb)
  have P_8 := Lib.hid (P_7.out.after hN'.out hb)
  have Q_8 := Lib.hid (Q_7.out.after hN'.out hb)
  have X_8 := Lib.hid (nd_after hN'.out X_7.out hb)
  have T_8 := Lib.hid (T_7.out.after hN'.out hb)
  have B_8 := Lib.hid (Below.after B_7.out hb)
  clear L_7 M_7 P_7 Q_7 X_7 T_7 B_7
  have R_8 := Lib.hid hR
  clear hR
  clear hb
  go_wp2_with fail
  refine (cI.out _ _ _ w8 T_8.out R_8.out).mono ?_
  rintro e w9 ⟨rfl, hb⟩
  have L_9 := Lib.hid (L_8.out.after hb)
  have M_9 := Lib.hid (M_8.out.after hb)
  have P_9 := Lib.hid (P_8.out.after hN'.out hb)
  have Q_9 := Lib.hid (Q_8.out.after hN'.out hb)
  have X_9 := Lib.hid (nd_after hN'.out X_8.out hb)
  have T_9 := Lib.hid (T_8.out.after hN'.out hb)
  have R_9 := Lib.hid (R_8.out.after hb)
  have B_9 := Lib.hid (Below.after B_8.out hb)
  clear L_8 M_8 P_8 Q_8 X_8 T_8 R_8 B_8
  clear hb
  go_wp2_with fail
  refine (hN'.out.left w9 _ _ _ X_9.out).mono ?_
  rintro e w' ⟨rfl, rfl⟩
  go_wp2_with fail
  refine (hN'.out.right w9 _ _ _ X_9.out).mono ?_
  rintro e w' ⟨rfl, rfl⟩
  go_wp2_with fail
  refine (cD.out w9 _ T_9.out).mono ?_
  rintro e w10 ⟨rfl, hb⟩
  have L_10 := Lib.hid (L_9.out.after hb)
  have M_10 := Lib.hid (M_9.out.after hb)
  have P_10 := Lib.hid (P_9.out.after hN'.out hb)
  have Q_10 := Lib.hid (Q_9.out.after hN'.out hb)
  have X_10 := Lib.hid (nd_after hN'.out X_9.out hb)
  have T_10 := Lib.hid (T_9.out.after hN'.out hb)
  have R_10 := Lib.hid (R_9.out.after hb)
  have B_10 := Lib.hid (Below.after B_9.out hb)
  clear L_9 M_9 P_9 Q_9 X_9 T_9 R_9 B_9
  clear hb
  go_wp2_with fail
  refine (cA.out w10).mono ?_
  rintro e w11 ⟨rfl, hb⟩
  have L_11 := Lib.hid (L_10.out.after hb)
  have M_11 := Lib.hid (M_10.out.after hb)
  have P_11 := Lib.hid (P_10.out.after hN'.out hb)
  have Q_11 := Lib.hid (Q_10.out.after hN'.out hb)
  have X_11 := Lib.hid (nd_after hN'.out X_10.out hb)
  have T_11 := Lib.hid (T_10.out.after hN'.out hb)
  have R_11 := Lib.hid (R_10.out.after hb)
  have B_11 := Lib.hid (Below.after B_10.out hb)
  clear L_10 M_10 P_10 Q_10 X_10 T_10 R_10 B_10
  clear hb
  go_wp2
  go_ret
  exact ⟨rfl, B_11.out⟩
theorem avlMakes_any (hN : NodeSays Nd) (hS : AvlSays Nd) (A : Option Addr) (n c : Nat) (l : List Bd) (hl : l.length = n) (hn : n ≤ c) (hc : c ≤ maxLen) (hz : A = none → c = 0) (B : Option Addr) (m d : Nat) (r : List Bd) (kl : r.length = m) (kn : m ≤ d) (kc : d ≤ maxLen) (kz : B = none → d = 0) (key val : BitVec 64) (w : World) (hr : Row w w.heap.size A (flat7 l)) (kr : Row w w.heap.size B (flat7 r)) : Calls Try.prog 8 #[.slice A n c, .slice B m d, K key, K val] w fun e w' => e = .returned (.bool true) ∧ Below w.heap.size w w' := by
  rcases long_or hl hn hc hz hr with h | ⟨h, t, ht⟩
  · exact avlMakes_long1 hN hS A B n c m d key val w h
  · rcases long_or kl kn kc kz kr with j | ⟨j, u, hu⟩
    · exact avlMakes_long2 hN hS A B n c m d key val w h j
    · cases e1 : mayA t with
      | false => exact avlMakes_A hN hS A B n c m d key val l r t u w h j ht hu e1
      | true =>
        cases e2 : mayA u with
        | false => exact avlMakes_B hN hS A B n c m d key val l r t u w h j ht hu e1 e2
        | true =>
          rcases Nat.lt_or_ge (u.high + 1) t.high with e3 | e3
          · exact avlMakes_C1 hN hS A B n c m d key val l r t u w h j ht hu e1 e2 e3
          · rcases Nat.lt_or_ge (t.high + 1) u.high with e4 | e4
            · exact avlMakes_C2 hN hS A B n c m d key val l r t u w h j ht hu e1 e2 e4
            · exact avlMakes_C3 hN hS A B n c m d key val l r t u w h j ht hu e1 e2 e3 e4
end Go.Proofs.Ytifhnaelkjfmdaa
