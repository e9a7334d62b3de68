/- Layer 16: the statement RbParts, walked. Made by wip/gen/layer16laws.py. -/
import Derived.Test.YtifhnaelkjfmdabL16Alive
namespace Go.Proofs.Ytifhnaelkjfmdab
open Go.RowKit Go.Proofs.Treem
set_option maxRecDepth 100000
variable {Nd : NdP}

set_option maxHeartbeats 2000000 in
theorem rbParts_long1 (hN : NodeSays Nd) (hS : RbSays Nd) (A A2 : Option Addr) (n c n2 c2 : Nat) (key val : BitVec 64) (red : Bool) (w : World) (h : LongAt w A n c true) : Calls Try.prog 4 #[.slice A n c, .slice A2 n2 c2, K key, K val, .bool red] w fun e w' => e = .returned (.bool true) ∧ Below w.heap.size w w' := by
  have c0 := Lib.hid (h w (Below.refl _ _))
  have c9 := Lib.hid (alive16_any hN hS w)
  clear h hN hS
  go_enter Try.func4, Try.ntmps4
  go_wp2_with fail
  refine c0.out.mono ?_
  rintro e w' ⟨rfl, rfl⟩
  go_wp2_with fail
  refine c9.out.mono ?_
  rintro e w1 ⟨rfl, hb⟩
  have b1 := Lib.hid hb
  clear hb
  go_wp2
  go_ret
  exact ⟨rfl, b1.out⟩
set_option maxHeartbeats 2000000 in
theorem rbParts_long2 (hN : NodeSays Nd) (hS : RbSays Nd) (A A2 : Option Addr) (n c n2 c2 : Nat) (key val : BitVec 64) (red : Bool) (w : World) (h : LongAt w A n c false) (h2 : LongAt w A2 n2 c2 true) : Calls Try.prog 4 #[.slice A n c, .slice A2 n2 c2, K key, K val, .bool red] w fun e w' => e = .returned (.bool true) ∧ Below w.heap.size w w' := by
  have c0 := Lib.hid (h w (Below.refl _ _))
  have c1 := Lib.hid (h2 w (Below.refl _ _))
  have c9 := Lib.hid (alive16_any hN hS w)
  clear h hN hS h2
  go_enter Try.func4, Try.ntmps4
  go_wp2_with fail
  refine c0.out.mono ?_
  rintro e w' ⟨rfl, rfl⟩
  go_wp2_with fail
  refine c1.out.mono ?_
  rintro e w' ⟨rfl, rfl⟩
  go_wp2_with fail
  refine c9.out.mono ?_
  rintro e w1 ⟨rfl, hb⟩
  have b1 := Lib.hid hb
  clear hb
  go_wp2
  go_ret
  exact ⟨rfl, b1.out⟩
set_option maxHeartbeats 4000000 in
theorem rbParts_A (hN : NodeSays Nd) (hS : RbSays Nd) (A A2 : Option Addr) (n c n2 c2 : Nat) (key val : BitVec 64) (red : Bool) (l m : List Bd) (t u : Tr) (w : World) (h : LongAt w A n c false) (h2 : LongAt w A2 n2 c2 false) (ht : TreeIn w A n c l t) (hu : TreeIn w A2 n2 c2 m u) (g1 : partR t = false) : Calls Try.prog 4 #[.slice A n c, .slice A2 n2 c2, K key, K val, .bool red] w fun e w' => e = .returned (.bool true) ∧ Below w.heap.size w w' := by
  have c0 := Lib.hid (h w (Below.refl _ _))
  have c1 := Lib.hid (h2 w (Below.refl _ _))
  have cM := Lib.hid (ht.make hN)
  have cM2 := Lib.hid (hu.make hN)
  have hts : t.size ≤ 400 := by rw [ht.size]; exact ht.few
  have hus : u.size ≤ 400 := by rw [hu.size]; exact hu.few
  have hsz : (makeR t key val red u).size ≤ 5000 := by rw [makeR, Tr.size]; omega
  have hT : partR (makeR t key val red u) = false := by rw [make_part _ _ _ _ _ (by omega), g1]; simp
  have hM : mayR (makeR t key val red u) = false := by rw [may_R, hT]; rfl
  have cA : Hid (∀ W, Calls Try.prog 10 #[] W fun e w' => e = .returned (.bool true) ∧ Below W.heap.size W w') := fun W => alive16_any hN hS W
  have cK := Lib.hid (fun W p q h1 h2 => RbSays.makeT hN hS W t u p q key val red h1 h2)
  have cK' : Hid (∀ W p q, TreeAt Nd W W.heap.size t p → TreeAt Nd W W.heap.size u q → Calls Try.prog 12 #[.pointer p, K key, K val, .bool red, .pointer q] W fun e w' => ∃ a, e = .returned (.pointer (some a)) ∧ TreeAt Nd w' w'.heap.size (makeR t key val red u) (some a) ∧ Below W.heap.size W w') := fun W p q k1 k2 => (cK.out W p q k1 k2).mono fun e w' ⟨a, k3, _, _, k5, k6⟩ => ⟨a, k3, k5, k6⟩
  have cP : Hid (∀ W p, TreeAt Nd W W.heap.size t p → Calls Try.prog 19 #[.pointer p] W fun e w' => e = .returned (.bool false) ∧ Below W.heap.size W w') := fun W p hp => g1 ▸ hS.part W t p hp (by omega)
  have cT : Hid (∀ W p, TreeAt Nd W W.heap.size (makeR t key val red u) p → Calls Try.prog 19 #[.pointer p] W fun e w' => e = .returned (.bool false) ∧ Below W.heap.size W w') := fun W p hp => hT ▸ hS.part W _ p hp hsz
  have cU : Hid (∀ W p, TreeAt Nd W W.heap.size (makeR t key val red u) p → Calls Try.prog 22 #[.pointer p] W fun e w' => e = .returned (.bool false) ∧ Below W.heap.size W w') := fun W p hp => hM ▸ hS.may W _ p hp hsz
  obtain ⟨tu, htu⟩ : ∃ tu, (makeR t key val red u) = tu := ⟨_, rfl⟩
  rw [htu] at cK' cT cU
  have hN' := Lib.hid hN
  clear htu cK hT hM hsz hts hus hN hS h h2 ht hu g1
  go_enter Try.func4, Try.ntmps4
  have B_0 := Lib.hid (Below.refl w.heap.size w)
  go_wp2_with fail
  refine (c0.out).mono ?_
  rintro e w' ⟨rfl, rfl⟩
  go_wp2_with fail
  refine (c1.out).mono ?_
  rintro e w' ⟨rfl, rfl⟩
  go_wp2_with fail
  refine (cM.out w B_0.out).mono ?_
  rintro e w1 ⟨p, rfl, hP, hb⟩
  have B_1 := Lib.hid (Below.after B_0.out hb)
  clear B_0
  have P_1 := Lib.hid hP
  clear hP
  clear hb
  go_wp2_with fail
  refine (cM2.out w1 B_1.out).mono ?_
  rintro e w2 ⟨q, rfl, hQ, hb⟩
  have P_2 := Lib.hid (P_1.out.after hN'.out hb)
  have B_2 := Lib.hid (Below.after B_1.out hb)
  clear P_1 B_1
  have Q_2 := Lib.hid hQ
  clear hQ
  clear hb
  go_wp2_with fail
  refine (cK'.out w2 _ _ P_2.out Q_2.out).mono ?_
  rintro e w3 ⟨a, rfl, hT, hb⟩
  have P_3 := Lib.hid (P_2.out.after hN'.out hb)
  have Q_3 := Lib.hid (Q_2.out.after hN'.out hb)
  have B_3 := Lib.hid (Below.after B_2.out hb)
  clear P_2 Q_2 B_2
  have T_3 := Lib.hid hT
  clear hT
  clear hb
  go_wp2_with fail
  refine (cP.out w3 _ P_3.out).mono ?_
  rintro e w4 ⟨rfl, hb⟩
  have P_4 := Lib.hid (P_3.out.after hN'.out hb)
  have Q_4 := Lib.hid (Q_3.out.after hN'.out hb)
  have T_4 := Lib.hid (T_3.out.after hN'.out hb)
  have B_4 := Lib.hid (Below.after B_3.out hb)
  clear P_3 Q_3 T_3 B_3
  clear hb
  go_wp2_with fail
  refine (cT.out w4 _ T_4.out).mono ?_
  rintro e w5 ⟨rfl, hb⟩
  have P_5 := Lib.hid (P_4.out.after hN'.out hb)
  have Q_5 := Lib.hid (Q_4.out.after hN'.out hb)
  have T_5 := Lib.hid (T_4.out.after hN'.out hb)
  have B_5 := Lib.hid (Below.after B_4.out hb)
  clear P_4 Q_4 T_4 B_4
  clear hb
  go_wp2_with fail
  refine (cU.out w5 _ T_5.out).mono ?_
  rintro e w6 ⟨rfl, hb⟩
  have P_6 := Lib.hid (P_5.out.after hN'.out hb)
  have Q_6 := Lib.hid (Q_5.out.after hN'.out hb)
  have T_6 := Lib.hid (T_5.out.after hN'.out hb)
  have B_6 := Lib.hid (Below.after B_5.out hb)
  clear P_5 Q_5 T_5 B_5
  clear hb
  go_wp2_with fail
  refine (cP.out w6 _ P_6.out).mono ?_
  rintro e w7 ⟨rfl, hb⟩
  have P_7 := Lib.hid (P_6.out.after hN'.out hb)
  have Q_7 := Lib.hid (Q_6.out.after hN'.out hb)
  have T_7 := Lib.hid (T_6.out.after hN'.out hb)
  have B_7 := Lib.hid (Below.after B_6.out hb)
  clear P_6 Q_6 T_6 B_6
  clear hb
  go_wp2_with fail
  refine (cA.out w7).mono ?_
  rintro e w8 ⟨rfl, hb⟩
  have P_8 := Lib.hid (P_7.out.after hN'.out hb)
  have Q_8 := Lib.hid (Q_7.out.after hN'.out hb)
  have T_8 := Lib.hid (T_7.out.after hN'.out hb)
  have B_8 := Lib.hid (Below.after B_7.out hb)
  clear P_7 Q_7 T_7 B_7
  clear hb
  go_wp2
  go_ret
  exact ⟨rfl, B_8.out⟩
set_option maxHeartbeats 4000000 in
theorem rbParts_B (hN : NodeSays Nd) (hS : RbSays Nd) (A A2 : Option Addr) (n c n2 c2 : Nat) (key val : BitVec 64) (red : Bool) (l m : List Bd) (t u : Tr) (w : World) (h : LongAt w A n c false) (h2 : LongAt w A2 n2 c2 false) (ht : TreeIn w A n c l t) (hu : TreeIn w A2 n2 c2 m u) (g1 : partR t = true) (g2 : partR u = false) : Calls Try.prog 4 #[.slice A n c, .slice A2 n2 c2, K key, K val, .bool red] w fun e w' => e = .returned (.bool true) ∧ Below w.heap.size w w' := by
  have c0 := Lib.hid (h w (Below.refl _ _))
  have c1 := Lib.hid (h2 w (Below.refl _ _))
  have cM := Lib.hid (ht.make hN)
  have cM2 := Lib.hid (hu.make hN)
  have hts : t.size ≤ 400 := by rw [ht.size]; exact ht.few
  have hus : u.size ≤ 400 := by rw [hu.size]; exact hu.few
  have hsz : (makeR t key val red u).size ≤ 5000 := by rw [makeR, Tr.size]; omega
  have hT : partR (makeR t key val red u) = false := by rw [make_part _ _ _ _ _ (by omega), g1, g2]; simp
  have hM : mayR (makeR t key val red u) = false := by rw [may_R, hT]; rfl
  have cA : Hid (∀ W, Calls Try.prog 10 #[] W fun e w' => e = .returned (.bool true) ∧ Below W.heap.size W w') := fun W => alive16_any hN hS W
  have cK := Lib.hid (fun W p q h1 h2 => RbSays.makeT hN hS W t u p q key val red h1 h2)
  have cK' : Hid (∀ W p q, TreeAt Nd W W.heap.size t p → TreeAt Nd W W.heap.size u q → Calls Try.prog 12 #[.pointer p, K key, K val, .bool red, .pointer q] W fun e w' => ∃ a, e = .returned (.pointer (some a)) ∧ TreeAt Nd w' w'.heap.size (makeR t key val red u) (some a) ∧ Below W.heap.size W w') := fun W p q k1 k2 => (cK.out W p q k1 k2).mono fun e w' ⟨a, k3, _, _, k5, k6⟩ => ⟨a, k3, k5, k6⟩
  have cP : Hid (∀ W p, TreeAt Nd W W.heap.size t p → Calls Try.prog 19 #[.pointer p] W fun e w' => e = .returned (.bool true) ∧ Below W.heap.size W w') := fun W p hp => g1 ▸ hS.part W t p hp (by omega)
  have cQ : Hid (∀ W p, TreeAt Nd W W.heap.size u p → Calls Try.prog 19 #[.pointer p] W fun e w' => e = .returned (.bool false) ∧ Below W.heap.size W w') := fun W p hp => g2 ▸ hS.part W u p hp (by omega)
  have cT : Hid (∀ W p, TreeAt Nd W W.heap.size (makeR t key val red u) p → Calls Try.prog 19 #[.pointer p] W fun e w' => e = .returned (.bool false) ∧ Below W.heap.size W w') := fun W p hp => hT ▸ hS.part W _ p hp hsz
  have cU : Hid (∀ W p, TreeAt Nd W W.heap.size (makeR t key val red u) p → Calls Try.prog 22 #[.pointer p] W fun e w' => e = .returned (.bool false) ∧ Below W.heap.size W w') := fun W p hp => hM ▸ hS.may W _ p hp hsz
  have hY : mayR (blackR t) = true := black_may g1 (by omega)
  have cY : Hid (∀ W p, TreeAt Nd W W.heap.size t p → Calls Try.prog 14 #[.pointer p] W fun e w' => ∃ q, e = .returned (.pointer q) ∧ TreeAt Nd w' w'.heap.size (blackR t) q ∧ Below W.heap.size W w') := fun W p hp => hS.blackT hN W _ p hp
  have cZ : Hid (∀ W p, TreeAt Nd W W.heap.size (blackR t) p → Calls Try.prog 22 #[.pointer p] W fun e w' => e = .returned (.bool true) ∧ Below W.heap.size W w') := fun W p hp => hY ▸ hS.may W _ p hp (by rw [black_size]; omega)
  obtain ⟨tu, htu⟩ : ∃ tu, (makeR t key val red u) = tu := ⟨_, rfl⟩
  rw [htu] at cK' cT cU
  obtain ⟨ta, hta⟩ : ∃ x, blackR t = x := ⟨_, rfl⟩
  rw [hta] at cY cZ
  have hN' := Lib.hid hN
  clear htu cK hT hM hsz hts hus hN hS h h2 ht hu g1 g2 hta hY
  go_enter Try.func4, Try.ntmps4
  have B_0 := Lib.hid (Below.refl w.heap.size w)
  go_wp2_with fail
  refine (c0.out).mono ?_
  rintro e w' ⟨rfl, rfl⟩
  go_wp2_with fail
  refine (c1.out).mono ?_
  rintro e w' ⟨rfl, rfl⟩
  go_wp2_with fail
  refine (cM.out w B_0.out).mono ?_
  rintro e w1 ⟨p, rfl, hP, hb⟩
  have B_1 := Lib.hid (Below.after B_0.out hb)
  clear B_0
  have P_1 := Lib.hid hP
  clear hP
  clear hb
  go_wp2_with fail
  refine (cM2.out w1 B_1.out).mono ?_
  rintro e w2 ⟨q, rfl, hQ, hb⟩
  have P_2 := Lib.hid (P_1.out.after hN'.out hb)
  have B_2 := Lib.hid (Below.after B_1.out hb)
  clear P_1 B_1
  have Q_2 := Lib.hid hQ
  clear hQ
  clear hb
  go_wp2_with fail
  refine (cK'.out w2 _ _ P_2.out Q_2.out).mono ?_
  rintro e w3 ⟨a, rfl, hT, hb⟩
  have P_3 := Lib.hid (P_2.out.after hN'.out hb)
  have Q_3 := Lib.hid (Q_2.out.after hN'.out hb)
  have B_3 := Lib.hid (Below.after B_2.out hb)
  clear P_2 Q_2 B_2
  have T_3 := Lib.hid hT
  clear hT
  clear hb
  go_wp2_with fail
  refine (cP.out w3 _ P_3.out).mono ?_
  rintro e w4 ⟨rfl, hb⟩
  have P_4 := Lib.hid (P_3.out.after hN'.out hb)
  have Q_4 := Lib.hid (Q_3.out.after hN'.out hb)
  have T_4 := Lib.hid (T_3.out.after hN'.out hb)
  have B_4 := Lib.hid (Below.after B_3.out hb)
  clear P_3 Q_3 T_3 B_3
  clear hb
  go_wp2_with fail
  refine (cQ.out w4 _ Q_4.out).mono ?_
  rintro e w5 ⟨rfl, hb⟩
  have P_5 := Lib.hid (P_4.out.after hN'.out hb)
  have Q_5 := Lib.hid (Q_4.out.after hN'.out hb)
  have T_5 := Lib.hid (T_4.out.after hN'.out hb)
  have B_5 := Lib.hid (Below.after B_4.out hb)
  clear P_4 Q_4 T_4 B_4
  clear hb
  go_wp2_with fail
  refine (cT.out w5 _ T_5.out).mono ?_
  rintro e w6 ⟨rfl, hb⟩
  have P_6 := Lib.hid (P_5.out.after hN'.out hb)
  have Q_6 := Lib.hid (Q_5.out.after hN'.out hb)
  have T_6 := Lib.hid (T_5.out.after hN'.out hb)
  have B_6 := Lib.hid (Below.after B_5.out hb)
  clear P_5 Q_5 T_5 B_5
  clear hb
  go_wp2_with fail
  refine (cU.out w6 _ T_6.out).mono ?_
  rintro e w7 ⟨rfl, hb⟩
  have P_7 := Lib.hid (P_6.out.after hN'.out hb)
  have Q_7 := Lib.hid (Q_6.out.after hN'.out hb)
  have T_7 := Lib.hid (T_6.out.after hN'.out hb)
  have B_7 := Lib.hid (Below.after B_6.out hb)
  clear P_6 Q_6 T_6 B_6
  clear hb
  go_wp2_with fail
  refine (cP.out w7 _ P_7.out).mono ?_
  rintro e w8 ⟨rfl, hb⟩
  have P_8 := Lib.hid (P_7.out.after hN'.out hb)
  have Q_8 := Lib.hid (Q_7.out.after hN'.out hb)
  have T_8 := Lib.hid (T_7.out.after hN'.out hb)
  have B_8 := Lib.hid (Below.after B_7.out hb)
  clear P_7 Q_7 T_7 B_7
  clear hb
  go_wp2_with fail
  refine (cY.out w8 _ P_8.out).mono ?_
  rintro e w9 ⟨y, rfl, hY, hb⟩
  have P_9 := Lib.hid (P_8.out.after hN'.out hb)
  have Q_9 := Lib.hid (Q_8.out.after hN'.out hb)
  have T_9 := Lib.hid (T_8.out.after hN'.out hb)
  have B_9 := Lib.hid (Below.after B_8.out hb)
  clear P_8 Q_8 T_8 B_8
  have Y_9 := Lib.hid hY
  clear hY
  clear hb
  go_wp2_with fail
  refine (cZ.out w9 _ Y_9.out).mono ?_
  rintro e w10 ⟨rfl, hb⟩
  have P_10 := Lib.hid (P_9.out.after hN'.out hb)
  have Q_10 := Lib.hid (Q_9.out.after hN'.out hb)
  have T_10 := Lib.hid (T_9.out.after hN'.out hb)
  have Y_10 := Lib.hid (Y_9.out.after hN'.out hb)
  have B_10 := Lib.hid (Below.after B_9.out hb)
  clear P_9 Q_9 T_9 Y_9 B_9
  clear hb
  go_wp2_with fail
  refine (cA.out w10).mono ?_
  rintro e w11 ⟨rfl, hb⟩
  have P_11 := Lib.hid (P_10.out.after hN'.out hb)
  have Q_11 := Lib.hid (Q_10.out.after hN'.out hb)
  have T_11 := Lib.hid (T_10.out.after hN'.out hb)
  have Y_11 := Lib.hid (Y_10.out.after hN'.out hb)
  have B_11 := Lib.hid (Below.after B_10.out hb)
  clear P_10 Q_10 T_10 Y_10 B_10
  clear hb
  go_wp2
  go_ret
  exact ⟨rfl, B_11.out⟩
set_option maxHeartbeats 4000000 in
theorem rbParts_C (hN : NodeSays Nd) (hS : RbSays Nd) (A A2 : Option Addr) (n c n2 c2 : Nat) (key val : BitVec 64) (red : Bool) (l m : List Bd) (t u : Tr) (w : World) (h : LongAt w A n c false) (h2 : LongAt w A2 n2 c2 false) (ht : TreeIn w A n c l t) (hu : TreeIn w A2 n2 c2 m u) (g1 : partR t = true) (g2 : partR u = true) (g3 : (highR t == highR u) = false) : Calls Try.prog 4 #[.slice A n c, .slice A2 n2 c2, K key, K val, .bool red] w fun e w' => e = .returned (.bool true) ∧ Below w.heap.size w w' := by
  have c0 := Lib.hid (h w (Below.refl _ _))
  have c1 := Lib.hid (h2 w (Below.refl _ _))
  have cM := Lib.hid (ht.make hN)
  have cM2 := Lib.hid (hu.make hN)
  have hts : t.size ≤ 400 := by rw [ht.size]; exact ht.few
  have hus : u.size ≤ 400 := by rw [hu.size]; exact hu.few
  have hsz : (makeR t key val red u).size ≤ 5000 := by rw [makeR, Tr.size]; omega
  have hT : partR (makeR t key val red u) = false := by rw [make_part _ _ _ _ _ (by omega), g1, g2, g3]; simp
  have hM : mayR (makeR t key val red u) = false := by rw [may_R, hT]; rfl
  have cA : Hid (∀ W, Calls Try.prog 10 #[] W fun e w' => e = .returned (.bool true) ∧ Below W.heap.size W w') := fun W => alive16_any hN hS W
  have cK := Lib.hid (fun W p q h1 h2 => RbSays.makeT hN hS W t u p q key val red h1 h2)
  have cK' : Hid (∀ W p q, TreeAt Nd W W.heap.size t p → TreeAt Nd W W.heap.size u q → Calls Try.prog 12 #[.pointer p, K key, K val, .bool red, .pointer q] W fun e w' => ∃ a, e = .returned (.pointer (some a)) ∧ TreeAt Nd w' w'.heap.size (makeR t key val red u) (some a) ∧ Below W.heap.size W w') := fun W p q k1 k2 => (cK.out W p q k1 k2).mono fun e w' ⟨a, k3, _, _, k5, k6⟩ => ⟨a, k3, k5, k6⟩
  have cP : Hid (∀ W p, TreeAt Nd W W.heap.size t p → Calls Try.prog 19 #[.pointer p] W fun e w' => e = .returned (.bool true) ∧ Below W.heap.size W w') := fun W p hp => g1 ▸ hS.part W t p hp (by omega)
  have cQ : Hid (∀ W p, TreeAt Nd W W.heap.size u p → Calls Try.prog 19 #[.pointer p] W fun e w' => e = .returned (.bool true) ∧ Below W.heap.size W w') := fun W p hp => g2 ▸ hS.part W u p hp (by omega)
  have cH : Hid (∀ W p, TreeAt Nd W W.heap.size t p → Calls Try.prog 20 #[.pointer p] W fun e w' => e = .returned (nI (highR t)) ∧ Below W.heap.size W w') := fun W p hp => hS.high W t p hp
  have cJ : Hid (∀ W p, TreeAt Nd W W.heap.size u p → Calls Try.prog 20 #[.pointer p] W fun e w' => e = .returned (nI (highR u)) ∧ Below W.heap.size W w') := fun W p hp => hS.high W u p hp
  have cT : Hid (∀ W p, TreeAt Nd W W.heap.size (makeR t key val red u) p → Calls Try.prog 19 #[.pointer p] W fun e w' => e = .returned (.bool false) ∧ Below W.heap.size W w') := fun W p hp => hT ▸ hS.part W _ p hp hsz
  have cU : Hid (∀ W p, TreeAt Nd W W.heap.size (makeR t key val red u) p → Calls Try.prog 22 #[.pointer p] W fun e w' => e = .returned (.bool false) ∧ Below W.heap.size W w') := fun W p hp => hM ▸ hS.may W _ p hp hsz
  have hY : mayR (blackR t) = true := black_may g1 (by omega)
  have cY : Hid (∀ W p, TreeAt Nd W W.heap.size t p → Calls Try.prog 14 #[.pointer p] W fun e w' => ∃ q, e = .returned (.pointer q) ∧ TreeAt Nd w' w'.heap.size (blackR t) q ∧ Below W.heap.size W w') := fun W p hp => hS.blackT hN W _ p hp
  have cZ : Hid (∀ W p, TreeAt Nd W W.heap.size (blackR t) p → Calls Try.prog 22 #[.pointer p] W fun e w' => e = .returned (.bool true) ∧ Below W.heap.size W w') := fun W p hp => hY ▸ hS.may W _ p hp (by rw [black_size]; omega)
  obtain ⟨H, hH⟩ : ∃ m, highR t = m := ⟨_, rfl⟩
  obtain ⟨J, hJ⟩ : ∃ m, highR u = m := ⟨_, rfl⟩
  rw [hH] at cH g3
  rw [hJ] at cJ g3
  have d1 : ((H : Int) == (J : Int)) = false := by
    rw [beq_eq_false_iff_ne] at g3 ⊢; omega
  obtain ⟨tu, htu⟩ : ∃ tu, (makeR t key val red u) = tu := ⟨_, rfl⟩
  rw [htu] at cK' cT cU
  obtain ⟨ta, hta⟩ : ∃ x, blackR t = x := ⟨_, rfl⟩
  rw [hta] at cY cZ
  have hN' := Lib.hid hN
  clear htu cK hT hM hsz hts hus hN hS h h2 ht hu g1 g2 g3 hta hY hH hJ
  go_enter Try.func4, Try.ntmps4
  have B_0 := Lib.hid (Below.refl w.heap.size w)
  go_wp2_with fail
  refine (c0.out).mono ?_
  rintro e w' ⟨rfl, rfl⟩
  go_wp2_with fail
  refine (c1.out).mono ?_
  rintro e w' ⟨rfl, rfl⟩
  go_wp2_with fail
  refine (cM.out w B_0.out).mono ?_
  rintro e w1 ⟨p, rfl, hP, hb⟩
  have B_1 := Lib.hid (Below.after B_0.out hb)
  clear B_0
  have P_1 := Lib.hid hP
  clear hP
  clear hb
  go_wp2_with fail
  refine (cM2.out w1 B_1.out).mono ?_
  rintro e w2 ⟨q, rfl, hQ, hb⟩
  have P_2 := Lib.hid (P_1.out.after hN'.out hb)
  have B_2 := Lib.hid (Below.after B_1.out hb)
  clear P_1 B_1
  have Q_2 := Lib.hid hQ
  clear hQ
  clear hb
  go_wp2_with fail
  refine (cK'.out w2 _ _ P_2.out Q_2.out).mono ?_
  rintro e w3 ⟨a, rfl, hT, hb⟩
  have P_3 := Lib.hid (P_2.out.after hN'.out hb)
  have Q_3 := Lib.hid (Q_2.out.after hN'.out hb)
  have B_3 := Lib.hid (Below.after B_2.out hb)
  clear P_2 Q_2 B_2
  have T_3 := Lib.hid hT
  clear hT
  clear hb
  go_wp2_with fail
  refine (cP.out w3 _ P_3.out).mono ?_
  rintro e w4 ⟨rfl, hb⟩
  have P_4 := Lib.hid (P_3.out.after hN'.out hb)
  have Q_4 := Lib.hid (Q_3.out.after hN'.out hb)
  have T_4 := Lib.hid (T_3.out.after hN'.out hb)
  have B_4 := Lib.hid (Below.after B_3.out hb)
  clear P_3 Q_3 T_3 B_3
  clear hb
  go_wp2_with fail
  refine (cQ.out w4 _ Q_4.out).mono ?_
  rintro e w5 ⟨rfl, hb⟩
  have P_5 := Lib.hid (P_4.out.after hN'.out hb)
  have Q_5 := Lib.hid (Q_4.out.after hN'.out hb)
  have T_5 := Lib.hid (T_4.out.after hN'.out hb)
  have B_5 := Lib.hid (Below.after B_4.out hb)
  clear P_4 Q_4 T_4 B_4
  clear hb
  go_wp2_with fail
  refine (cH.out w5 _ P_5.out).mono ?_
  rintro e w6 ⟨rfl, hb⟩
  have P_6 := Lib.hid (P_5.out.after hN'.out hb)
  have Q_6 := Lib.hid (Q_5.out.after hN'.out hb)
  have T_6 := Lib.hid (T_5.out.after hN'.out hb)
  have B_6 := Lib.hid (Below.after B_5.out hb)
  clear P_5 Q_5 T_5 B_5
  clear hb
  go_wp2_with fail
  refine (cJ.out w6 _ Q_6.out).mono ?_
  rintro e w7 ⟨rfl, hb⟩
  have P_7 := Lib.hid (P_6.out.after hN'.out hb)
  have Q_7 := Lib.hid (Q_6.out.after hN'.out hb)
  have T_7 := Lib.hid (T_6.out.after hN'.out hb)
  have B_7 := Lib.hid (Below.after B_6.out hb)
  clear P_6 Q_6 T_6 B_6
  clear hb
  go_wp2_with fail
  refine (cT.out w7 _ T_7.out).mono ?_
  rintro e w8 ⟨rfl, hb⟩
  have P_8 := Lib.hid (P_7.out.after hN'.out hb)
  have Q_8 := Lib.hid (Q_7.out.after hN'.out hb)
  have T_8 := Lib.hid (T_7.out.after hN'.out hb)
  have B_8 := Lib.hid (Below.after B_7.out hb)
  clear P_7 Q_7 T_7 B_7
  clear hb
  go_wp2_with fail
  refine (cU.out w8 _ T_8.out).mono ?_
  rintro e w9 ⟨rfl, hb⟩
  have P_9 := Lib.hid (P_8.out.after hN'.out hb)
  have Q_9 := Lib.hid (Q_8.out.after hN'.out hb)
  have T_9 := Lib.hid (T_8.out.after hN'.out hb)
  have B_9 := Lib.hid (Below.after B_8.out hb)
  clear P_8 Q_8 T_8 B_8
  clear hb
  go_wp2_with fail
  refine (cP.out w9 _ P_9.out).mono ?_
  rintro e w10 ⟨rfl, hb⟩
  have P_10 := Lib.hid (P_9.out.after hN'.out hb)
  have Q_10 := Lib.hid (Q_9.out.after hN'.out hb)
  have T_10 := Lib.hid (T_9.out.after hN'.out hb)
  have B_10 := Lib.hid (Below.after B_9.out hb)
  clear P_9 Q_9 T_9 B_9
  clear hb
  go_wp2_with fail
  refine (cY.out w10 _ P_10.out).mono ?_
  rintro e w11 ⟨y, rfl, hY, hb⟩
  have P_11 := Lib.hid (P_10.out.after hN'.out hb)
  have Q_11 := Lib.hid (Q_10.out.after hN'.out hb)
  have T_11 := Lib.hid (T_10.out.after hN'.out hb)
  have B_11 := Lib.hid (Below.after B_10.out hb)
  clear P_10 Q_10 T_10 B_10
  have Y_11 := Lib.hid hY
  clear hY
  clear hb
  go_wp2_with fail
  refine (cZ.out w11 _ Y_11.out).mono ?_
  rintro e w12 ⟨rfl, hb⟩
  have P_12 := Lib.hid (P_11.out.after hN'.out hb)
  have Q_12 := Lib.hid (Q_11.out.after hN'.out hb)
  have T_12 := Lib.hid (T_11.out.after hN'.out hb)
  have Y_12 := Lib.hid (Y_11.out.after hN'.out hb)
  have B_12 := Lib.hid (Below.after B_11.out hb)
  clear P_11 Q_11 T_11 Y_11 B_11
  clear hb
  go_wp2_with fail
  refine (cA.out w12).mono ?_
  rintro e w13 ⟨rfl, hb⟩
  have P_13 := Lib.hid (P_12.out.after hN'.out hb)
  have Q_13 := Lib.hid (Q_12.out.after hN'.out hb)
  have T_13 := Lib.hid (T_12.out.after hN'.out hb)
  have Y_13 := Lib.hid (Y_12.out.after hN'.out hb)
  have B_13 := Lib.hid (Below.after B_12.out hb)
  clear P_12 Q_12 T_12 Y_12 B_12
  clear hb
  go_wp2
  go_ret
  exact ⟨rfl, B_13.out⟩
set_option maxHeartbeats 4000000 in
theorem rbParts_D (hN : NodeSays Nd) (hS : RbSays Nd) (A A2 : Option Addr) (n c n2 c2 : Nat) (key val : BitVec 64) (l m : List Bd) (t u : Tr) (w : World) (h : LongAt w A n c false) (h2 : LongAt w A2 n2 c2 false) (ht : TreeIn w A n c l t) (hu : TreeIn w A2 n2 c2 m u) (g1 : partR t = true) (g2 : partR u = true) (g3 : (highR t == highR u) = true) : Calls Try.prog 4 #[.slice A n c, .slice A2 n2 c2, K key, K val, .bool false] w fun e w' => e = .returned (.bool true) ∧ Below w.heap.size w w' := by
  have c0 := Lib.hid (h w (Below.refl _ _))
  have c1 := Lib.hid (h2 w (Below.refl _ _))
  have cM := Lib.hid (ht.make hN)
  have cM2 := Lib.hid (hu.make hN)
  have hts : t.size ≤ 400 := by rw [ht.size]; exact ht.few
  have hus : u.size ≤ 400 := by rw [hu.size]; exact hu.few
  have hsz : (makeR t key val false u).size ≤ 5000 := by rw [makeR, Tr.size]; omega
  have hT : partR (makeR t key val false u) = true := by rw [make_part _ _ _ _ _ (by omega), g1, g2, g3]; rfl
  have hM : mayR (makeR t key val false u) = true := by rw [may_R, hT, make_red]; rfl
  have cA : Hid (∀ W, Calls Try.prog 10 #[] W fun e w' => e = .returned (.bool true) ∧ Below W.heap.size W w') := fun W => alive16_any hN hS W
  have cK := Lib.hid (fun W p q h1 h2 => RbSays.makeT hN hS W t u p q key val false h1 h2)
  have cK' : Hid (∀ W p q, TreeAt Nd W W.heap.size t p → TreeAt Nd W W.heap.size u q → Calls Try.prog 12 #[.pointer p, K key, K val, .bool false, .pointer q] W fun e w' => ∃ a, e = .returned (.pointer (some a)) ∧ TreeAt Nd w' w'.heap.size (makeR t key val false u) (some a) ∧ Below W.heap.size W w') := fun W p q k1 k2 => (cK.out W p q k1 k2).mono fun e w' ⟨a, k3, _, _, k5, k6⟩ => ⟨a, k3, k5, k6⟩
  have cP : Hid (∀ W p, TreeAt Nd W W.heap.size t p → Calls Try.prog 19 #[.pointer p] W fun e w' => e = .returned (.bool true) ∧ Below W.heap.size W w') := fun W p hp => g1 ▸ hS.part W t p hp (by omega)
  have cQ : Hid (∀ W p, TreeAt Nd W W.heap.size u p → Calls Try.prog 19 #[.pointer p] W fun e w' => e = .returned (.bool true) ∧ Below W.heap.size W w') := fun W p hp => g2 ▸ hS.part W u p hp (by omega)
  have cH : Hid (∀ W p, TreeAt Nd W W.heap.size t p → Calls Try.prog 20 #[.pointer p] W fun e w' => e = .returned (nI (highR t)) ∧ Below W.heap.size W w') := fun W p hp => hS.high W t p hp
  have cJ : Hid (∀ W p, TreeAt Nd W W.heap.size u p → Calls Try.prog 20 #[.pointer p] W fun e w' => e = .returned (nI (highR u)) ∧ Below W.heap.size W w') := fun W p hp => hS.high W u p hp
  have cT : Hid (∀ W p, TreeAt Nd W W.heap.size (makeR t key val false u) p → Calls Try.prog 19 #[.pointer p] W fun e w' => e = .returned (.bool true) ∧ Below W.heap.size W w') := fun W p hp => hT ▸ hS.part W _ p hp hsz
  have cU : Hid (∀ W p, TreeAt Nd W W.heap.size (makeR t key val false u) p → Calls Try.prog 22 #[.pointer p] W fun e w' => e = .returned (.bool true) ∧ Below W.heap.size W w') := fun W p hp => hM ▸ hS.may W _ p hp hsz
  have hX : mayR (blackR (makeR t key val false u)) = true := black_may hT hsz
  have cV : Hid (∀ W p, TreeAt Nd W W.heap.size (makeR t key val false u) p → Calls Try.prog 14 #[.pointer p] W fun e w' => ∃ q, e = .returned (.pointer q) ∧ TreeAt Nd w' w'.heap.size (blackR (makeR t key val false u)) q ∧ Below W.heap.size W w') := fun W p hp => hS.blackT hN W _ p hp
  have cX : Hid (∀ W p, TreeAt Nd W W.heap.size (blackR (makeR t key val false u)) p → Calls Try.prog 22 #[.pointer p] W fun e w' => e = .returned (.bool true) ∧ Below W.heap.size W w') := fun W p hp => hX ▸ hS.may W _ p hp (by rw [black_size]; exact hsz)
  have hY : mayR (blackR t) = true := black_may g1 (by omega)
  have cY : Hid (∀ W p, TreeAt Nd W W.heap.size t p → Calls Try.prog 14 #[.pointer p] W fun e w' => ∃ q, e = .returned (.pointer q) ∧ TreeAt Nd w' w'.heap.size (blackR t) q ∧ Below W.heap.size W w') := fun W p hp => hS.blackT hN W _ p hp
  have cZ : Hid (∀ W p, TreeAt Nd W W.heap.size (blackR t) p → Calls Try.prog 22 #[.pointer p] W fun e w' => e = .returned (.bool true) ∧ Below W.heap.size W w') := fun W p hp => hY ▸ hS.may W _ p hp (by rw [black_size]; omega)
  obtain ⟨H, hH⟩ : ∃ m, highR t = m := ⟨_, rfl⟩
  obtain ⟨J, hJ⟩ : ∃ m, highR u = m := ⟨_, rfl⟩
  rw [hH] at cH g3
  rw [hJ] at cJ g3
  have d1 : ((H : Int) == (J : Int)) = true := by
    rw [beq_iff_eq] at g3 ⊢; omega
  obtain ⟨tu, htu⟩ : ∃ tu, (makeR t key val false u) = tu := ⟨_, rfl⟩
  rw [htu] at cK' cT cU cV cX
  obtain ⟨tb, htb⟩ : ∃ x, blackR tu = x := ⟨_, rfl⟩
  rw [htb] at cV cX
  obtain ⟨ta, hta⟩ : ∃ x, blackR t = x := ⟨_, rfl⟩
  rw [hta] at cY cZ
  have hN' := Lib.hid hN
  clear htu cK hT hM hsz hts hus hN hS h h2 ht hu g1 g2 g3 hX htb hta hY hH hJ
  go_enter Try.func4, Try.ntmps4
  have B_0 := Lib.hid (Below.refl w.heap.size w)
  go_wp2_with fail
  refine (c0.out).mono ?_
  rintro e w' ⟨rfl, rfl⟩
  go_wp2_with fail
  refine (c1.out).mono ?_
  rintro e w' ⟨rfl, rfl⟩
  go_wp2_with fail
  refine (cM.out w B_0.out).mono ?_
  rintro e w1 ⟨p, rfl, hP, hb⟩
  have B_1 := Lib.hid (Below.after B_0.out hb)
  clear B_0
  have P_1 := Lib.hid hP
  clear hP
  clear hb
  go_wp2_with fail
  refine (cM2.out w1 B_1.out).mono ?_
  rintro e w2 ⟨q, rfl, hQ, hb⟩
  have P_2 := Lib.hid (P_1.out.after hN'.out hb)
  have B_2 := Lib.hid (Below.after B_1.out hb)
  clear P_1 B_1
  have Q_2 := Lib.hid hQ
  clear hQ
  clear hb
  go_wp2_with fail
  refine (cK'.out w2 _ _ P_2.out Q_2.out).mono ?_
  rintro e w3 ⟨a, rfl, hT, hb⟩
  have P_3 := Lib.hid (P_2.out.after hN'.out hb)
  have Q_3 := Lib.hid (Q_2.out.after hN'.out hb)
  have B_3 := Lib.hid (Below.after B_2.out hb)
  clear P_2 Q_2 B_2
  have T_3 := Lib.hid hT
  clear hT
  clear hb
  go_wp2_with fail
  refine (cP.out w3 _ P_3.out).mono ?_
  rintro e w4 ⟨rfl, hb⟩
  have P_4 := Lib.hid (P_3.out.after hN'.out hb)
  have Q_4 := Lib.hid (Q_3.out.after hN'.out hb)
  have T_4 := Lib.hid (T_3.out.after hN'.out hb)
  have B_4 := Lib.hid (Below.after B_3.out hb)
  clear P_3 Q_3 T_3 B_3
  clear hb
  go_wp2_with fail
  refine (cQ.out w4 _ Q_4.out).mono ?_
  rintro e w5 ⟨rfl, hb⟩
  have P_5 := Lib.hid (P_4.out.after hN'.out hb)
  have Q_5 := Lib.hid (Q_4.out.after hN'.out hb)
  have T_5 := Lib.hid (T_4.out.after hN'.out hb)
  have B_5 := Lib.hid (Below.after B_4.out hb)
  clear P_4 Q_4 T_4 B_4
  clear hb
  go_wp2_with fail
  refine (cH.out w5 _ P_5.out).mono ?_
  rintro e w6 ⟨rfl, hb⟩
  have P_6 := Lib.hid (P_5.out.after hN'.out hb)
  have Q_6 := Lib.hid (Q_5.out.after hN'.out hb)
  have T_6 := Lib.hid (T_5.out.after hN'.out hb)
  have B_6 := Lib.hid (Below.after B_5.out hb)
  clear P_5 Q_5 T_5 B_5
  clear hb
  go_wp2_with fail
  refine (cJ.out w6 _ Q_6.out).mono ?_
  rintro e w7 ⟨rfl, hb⟩
  have P_7 := Lib.hid (P_6.out.after hN'.out hb)
  have Q_7 := Lib.hid (Q_6.out.after hN'.out hb)
  have T_7 := Lib.hid (T_6.out.after hN'.out hb)
  have B_7 := Lib.hid (Below.after B_6.out hb)
  clear P_6 Q_6 T_6 B_6
  clear hb
  go_wp2_with fail
  refine (cT.out w7 _ T_7.out).mono ?_
  rintro e w8 ⟨rfl, hb⟩
  have P_8 := Lib.hid (P_7.out.after hN'.out hb)
  have Q_8 := Lib.hid (Q_7.out.after hN'.out hb)
  have T_8 := Lib.hid (T_7.out.after hN'.out hb)
  have B_8 := Lib.hid (Below.after B_7.out hb)
  clear P_7 Q_7 T_7 B_7
  clear hb
  go_wp2_with fail
  refine (cU.out w8 _ T_8.out).mono ?_
  rintro e w9 ⟨rfl, hb⟩
  have P_9 := Lib.hid (P_8.out.after hN'.out hb)
  have Q_9 := Lib.hid (Q_8.out.after hN'.out hb)
  have T_9 := Lib.hid (T_8.out.after hN'.out hb)
  have B_9 := Lib.hid (Below.after B_8.out hb)
  clear P_8 Q_8 T_8 B_8
  clear hb
  go_wp2_with fail
  refine (cV.out w9 _ T_9.out).mono ?_
  rintro e w10 ⟨v, rfl, hV, hb⟩
  have P_10 := Lib.hid (P_9.out.after hN'.out hb)
  have Q_10 := Lib.hid (Q_9.out.after hN'.out hb)
  have T_10 := Lib.hid (T_9.out.after hN'.out hb)
  have B_10 := Lib.hid (Below.after B_9.out hb)
  clear P_9 Q_9 T_9 B_9
  have V_10 := Lib.hid hV
  clear hV
  clear hb
  go_wp2_with fail
  refine (cX.out w10 _ V_10.out).mono ?_
  rintro e w11 ⟨rfl, hb⟩
  have P_11 := Lib.hid (P_10.out.after hN'.out hb)
  have Q_11 := Lib.hid (Q_10.out.after hN'.out hb)
  have T_11 := Lib.hid (T_10.out.after hN'.out hb)
  have V_11 := Lib.hid (V_10.out.after hN'.out hb)
  have B_11 := Lib.hid (Below.after B_10.out hb)
  clear P_10 Q_10 T_10 V_10 B_10
  clear hb
  go_wp2_with fail
  refine (cP.out w11 _ P_11.out).mono ?_
  rintro e w12 ⟨rfl, hb⟩
  have P_12 := Lib.hid (P_11.out.after hN'.out hb)
  have Q_12 := Lib.hid (Q_11.out.after hN'.out hb)
  have T_12 := Lib.hid (T_11.out.after hN'.out hb)
  have V_12 := Lib.hid (V_11.out.after hN'.out hb)
  have B_12 := Lib.hid (Below.after B_11.out hb)
  clear P_11 Q_11 T_11 V_11 B_11
  clear hb
  go_wp2_with fail
  refine (cY.out w12 _ P_12.out).mono ?_
  rintro e w13 ⟨y, rfl, hY, hb⟩
  have P_13 := Lib.hid (P_12.out.after hN'.out hb)
  have Q_13 := Lib.hid (Q_12.out.after hN'.out hb)
  have T_13 := Lib.hid (T_12.out.after hN'.out hb)
  have V_13 := Lib.hid (V_12.out.after hN'.out hb)
  have B_13 := Lib.hid (Below.after B_12.out hb)
  clear P_12 Q_12 T_12 V_12 B_12
  have Y_13 := Lib.hid hY
  clear hY
  clear hb
  go_wp2_with fail
  refine (cZ.out w13 _ Y_13.out).mono ?_
  rintro e w14 ⟨rfl, hb⟩
  have P_14 := Lib.hid (P_13.out.after hN'.out hb)
  have Q_14 := Lib.hid (Q_13.out.after hN'.out hb)
  have T_14 := Lib.hid (T_13.out.after hN'.out hb)
  have V_14 := Lib.hid (V_13.out.after hN'.out hb)
  have Y_14 := Lib.hid (Y_13.out.after hN'.out hb)
  have B_14 := Lib.hid (Below.after B_13.out hb)
  clear P_13 Q_13 T_13 V_13 Y_13 B_13
  clear hb
  go_wp2_with fail
  refine (cA.out w14).mono ?_
  rintro e w15 ⟨rfl, hb⟩
  have P_15 := Lib.hid (P_14.out.after hN'.out hb)
  have Q_15 := Lib.hid (Q_14.out.after hN'.out hb)
  have T_15 := Lib.hid (T_14.out.after hN'.out hb)
  have V_15 := Lib.hid (V_14.out.after hN'.out hb)
  have Y_15 := Lib.hid (Y_14.out.after hN'.out hb)
  have B_15 := Lib.hid (Below.after B_14.out hb)
  clear P_14 Q_14 T_14 V_14 Y_14 B_14
  clear hb
  go_wp2
  go_ret
  exact ⟨rfl, B_15.out⟩
set_option maxHeartbeats 4000000 in
theorem rbParts_E (hN : NodeSays Nd) (hS : RbSays Nd) (A A2 : Option Addr) (n c n2 c2 : Nat) (key val : BitVec 64) (l m : List Bd) (t u : Tr) (w : World) (h : LongAt w A n c false) (h2 : LongAt w A2 n2 c2 false) (ht : TreeIn w A n c l t) (hu : TreeIn w A2 n2 c2 m u) (g1 : partR t = true) (g2 : partR u = true) (g3 : (highR t == highR u) = true) (g4 : redR t = true) : Calls Try.prog 4 #[.slice A n c, .slice A2 n2 c2, K key, K val, .bool true] w fun e w' => e = .returned (.bool true) ∧ Below w.heap.size w w' := by
  have c0 := Lib.hid (h w (Below.refl _ _))
  have c1 := Lib.hid (h2 w (Below.refl _ _))
  have cM := Lib.hid (ht.make hN)
  have cM2 := Lib.hid (hu.make hN)
  have hts : t.size ≤ 400 := by rw [ht.size]; exact ht.few
  have hus : u.size ≤ 400 := by rw [hu.size]; exact hu.few
  have hsz : (makeR t key val true u).size ≤ 5000 := by rw [makeR, Tr.size]; omega
  have hT : partR (makeR t key val true u) = false := by rw [make_part _ _ _ _ _ (by omega), g1, g2, g3, g4]; rfl
  have hM : mayR (makeR t key val true u) = false := by rw [may_R, hT]; rfl
  have cA : Hid (∀ W, Calls Try.prog 10 #[] W fun e w' => e = .returned (.bool true) ∧ Below W.heap.size W w') := fun W => alive16_any hN hS W
  have cK := Lib.hid (fun W p q h1 h2 => RbSays.makeT hN hS W t u p q key val true h1 h2)
  have cK' : Hid (∀ W p q, TreeAt Nd W W.heap.size t p → TreeAt Nd W W.heap.size u q → Calls Try.prog 12 #[.pointer p, K key, K val, .bool true, .pointer q] W fun e w' => ∃ a, e = .returned (.pointer (some a)) ∧ TreeAt Nd w' w'.heap.size (makeR t key val true u) (some a) ∧ Below W.heap.size W w') := fun W p q k1 k2 => (cK.out W p q k1 k2).mono fun e w' ⟨a, k3, _, _, k5, k6⟩ => ⟨a, k3, k5, k6⟩
  have cP : Hid (∀ W p, TreeAt Nd W W.heap.size t p → Calls Try.prog 19 #[.pointer p] W fun e w' => e = .returned (.bool true) ∧ Below W.heap.size W w') := fun W p hp => g1 ▸ hS.part W t p hp (by omega)
  have cQ : Hid (∀ W p, TreeAt Nd W W.heap.size u p → Calls Try.prog 19 #[.pointer p] W fun e w' => e = .returned (.bool true) ∧ Below W.heap.size W w') := fun W p hp => g2 ▸ hS.part W u p hp (by omega)
  have cH : Hid (∀ W p, TreeAt Nd W W.heap.size t p → Calls Try.prog 20 #[.pointer p] W fun e w' => e = .returned (nI (highR t)) ∧ Below W.heap.size W w') := fun W p hp => hS.high W t p hp
  have cJ : Hid (∀ W p, TreeAt Nd W W.heap.size u p → Calls Try.prog 20 #[.pointer p] W fun e w' => e = .returned (nI (highR u)) ∧ Below W.heap.size W w') := fun W p hp => hS.high W u p hp
  have cR : Hid (∀ W p, TreeAt Nd W W.heap.size t p → Calls Try.prog 21 #[.pointer p] W fun e w' => e = .returned (.bool true) ∧ Below W.heap.size W w') := fun W p hp => g4 ▸ hS.red W t p hp
  have cT : Hid (∀ W p, TreeAt Nd W W.heap.size (makeR t key val true u) p → Calls Try.prog 19 #[.pointer p] W fun e w' => e = .returned (.bool false) ∧ Below W.heap.size W w') := fun W p hp => hT ▸ hS.part W _ p hp hsz
  have cU : Hid (∀ W p, TreeAt Nd W W.heap.size (makeR t key val true u) p → Calls Try.prog 22 #[.pointer p] W fun e w' => e = .returned (.bool false) ∧ Below W.heap.size W w') := fun W p hp => hM ▸ hS.may W _ p hp hsz
  have hY : mayR (blackR t) = true := black_may g1 (by omega)
  have cY : Hid (∀ W p, TreeAt Nd W W.heap.size t p → Calls Try.prog 14 #[.pointer p] W fun e w' => ∃ q, e = .returned (.pointer q) ∧ TreeAt Nd w' w'.heap.size (blackR t) q ∧ Below W.heap.size W w') := fun W p hp => hS.blackT hN W _ p hp
  have cZ : Hid (∀ W p, TreeAt Nd W W.heap.size (blackR t) p → Calls Try.prog 22 #[.pointer p] W fun e w' => e = .returned (.bool true) ∧ Below W.heap.size W w') := fun W p hp => hY ▸ hS.may W _ p hp (by rw [black_size]; omega)
  obtain ⟨H, hH⟩ : ∃ m, highR t = m := ⟨_, rfl⟩
  obtain ⟨J, hJ⟩ : ∃ m, highR u = m := ⟨_, rfl⟩
  rw [hH] at cH g3
  rw [hJ] at cJ g3
  have d1 : ((H : Int) == (J : Int)) = true := by
    rw [beq_iff_eq] at g3 ⊢; omega
  obtain ⟨tu, htu⟩ : ∃ tu, (makeR t key val true u) = tu := ⟨_, rfl⟩
  rw [htu] at cK' cT cU
  obtain ⟨ta, hta⟩ : ∃ x, blackR t = x := ⟨_, rfl⟩
  rw [hta] at cY cZ
  have hN' := Lib.hid hN
  clear htu cK hT hM hsz hts hus hN hS h h2 ht hu g1 g2 g3 g4 hta hY hH hJ
  go_enter Try.func4, Try.ntmps4
  have B_0 := Lib.hid (Below.refl w.heap.size w)
  go_wp2_with fail
  refine (c0.out).mono ?_
  rintro e w' ⟨rfl, rfl⟩
  go_wp2_with fail
  refine (c1.out).mono ?_
  rintro e w' ⟨rfl, rfl⟩
  go_wp2_with fail
  refine (cM.out w B_0.out).mono ?_
  rintro e w1 ⟨p, rfl, hP, hb⟩
  have B_1 := Lib.hid (Below.after B_0.out hb)
  clear B_0
  have P_1 := Lib.hid hP
  clear hP
  clear hb
  go_wp2_with fail
  refine (cM2.out w1 B_1.out).mono ?_
  rintro e w2 ⟨q, rfl, hQ, hb⟩
  have P_2 := Lib.hid (P_1.out.after hN'.out hb)
  have B_2 := Lib.hid (Below.after B_1.out hb)
  clear P_1 B_1
  have Q_2 := Lib.hid hQ
  clear hQ
  clear hb
  go_wp2_with fail
  refine (cK'.out w2 _ _ P_2.out Q_2.out).mono ?_
  rintro e w3 ⟨a, rfl, hT, hb⟩
  have P_3 := Lib.hid (P_2.out.after hN'.out hb)
  have Q_3 := Lib.hid (Q_2.out.after hN'.out hb)
  have B_3 := Lib.hid (Below.after B_2.out hb)
  clear P_2 Q_2 B_2
  have T_3 := Lib.hid hT
  clear hT
  clear hb
  go_wp2_with fail
  refine (cP.out w3 _ P_3.out).mono ?_
  rintro e w4 ⟨rfl, hb⟩
  have P_4 := Lib.hid (P_3.out.after hN'.out hb)
  have Q_4 := Lib.hid (Q_3.out.after hN'.out hb)
  have T_4 := Lib.hid (T_3.out.after hN'.out hb)
  have B_4 := Lib.hid (Below.after B_3.out hb)
  clear P_3 Q_3 T_3 B_3
  clear hb
  go_wp2_with fail
  refine (cQ.out w4 _ Q_4.out).mono ?_
  rintro e w5 ⟨rfl, hb⟩
  have P_5 := Lib.hid (P_4.out.after hN'.out hb)
  have Q_5 := Lib.hid (Q_4.out.after hN'.out hb)
  have T_5 := Lib.hid (T_4.out.after hN'.out hb)
  have B_5 := Lib.hid (Below.after B_4.out hb)
  clear P_4 Q_4 T_4 B_4
  clear hb
  go_wp2_with fail
  refine (cH.out w5 _ P_5.out).mono ?_
  rintro e w6 ⟨rfl, hb⟩
  have P_6 := Lib.hid (P_5.out.after hN'.out hb)
  have Q_6 := Lib.hid (Q_5.out.after hN'.out hb)
  have T_6 := Lib.hid (T_5.out.after hN'.out hb)
  have B_6 := Lib.hid (Below.after B_5.out hb)
  clear P_5 Q_5 T_5 B_5
  clear hb
  go_wp2_with fail
  refine (cJ.out w6 _ Q_6.out).mono ?_
  rintro e w7 ⟨rfl, hb⟩
  have P_7 := Lib.hid (P_6.out.after hN'.out hb)
  have Q_7 := Lib.hid (Q_6.out.after hN'.out hb)
  have T_7 := Lib.hid (T_6.out.after hN'.out hb)
  have B_7 := Lib.hid (Below.after B_6.out hb)
  clear P_6 Q_6 T_6 B_6
  clear hb
  go_wp2_with fail
  refine (cR.out w7 _ P_7.out).mono ?_
  rintro e w8 ⟨rfl, hb⟩
  have P_8 := Lib.hid (P_7.out.after hN'.out hb)
  have Q_8 := Lib.hid (Q_7.out.after hN'.out hb)
  have T_8 := Lib.hid (T_7.out.after hN'.out hb)
  have B_8 := Lib.hid (Below.after B_7.out hb)
  clear P_7 Q_7 T_7 B_7
  clear hb
  go_wp2_with fail
  refine (cT.out w8 _ T_8.out).mono ?_
  rintro e w9 ⟨rfl, hb⟩
  have P_9 := Lib.hid (P_8.out.after hN'.out hb)
  have Q_9 := Lib.hid (Q_8.out.after hN'.out hb)
  have T_9 := Lib.hid (T_8.out.after hN'.out hb)
  have B_9 := Lib.hid (Below.after B_8.out hb)
  clear P_8 Q_8 T_8 B_8
  clear hb
  go_wp2_with fail
  refine (cU.out w9 _ T_9.out).mono ?_
  rintro e w10 ⟨rfl, hb⟩
  have P_10 := Lib.hid (P_9.out.after hN'.out hb)
  have Q_10 := Lib.hid (Q_9.out.after hN'.out hb)
  have T_10 := Lib.hid (T_9.out.after hN'.out hb)
  have B_10 := Lib.hid (Below.after B_9.out hb)
  clear P_9 Q_9 T_9 B_9
  clear hb
  go_wp2_with fail
  refine (cP.out w10 _ P_10.out).mono ?_
  rintro e w11 ⟨rfl, hb⟩
  have P_11 := Lib.hid (P_10.out.after hN'.out hb)
  have Q_11 := Lib.hid (Q_10.out.after hN'.out hb)
  have T_11 := Lib.hid (T_10.out.after hN'.out hb)
  have B_11 := Lib.hid (Below.after B_10.out hb)
  clear P_10 Q_10 T_10 B_10
  clear hb
  go_wp2_with fail
  refine (cY.out w11 _ P_11.out).mono ?_
  rintro e w12 ⟨y, rfl, hY, hb⟩
  have P_12 := Lib.hid (P_11.out.after hN'.out hb)
  have Q_12 := Lib.hid (Q_11.out.after hN'.out hb)
  have T_12 := Lib.hid (T_11.out.after hN'.out hb)
  have B_12 := Lib.hid (Below.after B_11.out hb)
  clear P_11 Q_11 T_11 B_11
  have Y_12 := Lib.hid hY
  clear hY
  clear hb
  go_wp2_with fail
  refine (cZ.out w12 _ Y_12.out).mono ?_
  rintro e w13 ⟨rfl, hb⟩
  have P_13 := Lib.hid (P_12.out.after hN'.out hb)
  have Q_13 := Lib.hid (Q_12.out.after hN'.out hb)
  have T_13 := Lib.hid (T_12.out.after hN'.out hb)
  have Y_13 := Lib.hid (Y_12.out.after hN'.out hb)
  have B_13 := Lib.hid (Below.after B_12.out hb)
  clear P_12 Q_12 T_12 Y_12 B_12
  clear hb
  go_wp2_with fail
  refine (cA.out w13).mono ?_
  rintro e w14 ⟨rfl, hb⟩
  have P_14 := Lib.hid (P_13.out.after hN'.out hb)
  have Q_14 := Lib.hid (Q_13.out.after hN'.out hb)
  have T_14 := Lib.hid (T_13.out.after hN'.out hb)
  have Y_14 := Lib.hid (Y_13.out.after hN'.out hb)
  have B_14 := Lib.hid (Below.after B_13.out hb)
  clear P_13 Q_13 T_13 Y_13 B_13
  clear hb
  go_wp2
  go_ret
  exact ⟨rfl, B_14.out⟩
set_option maxHeartbeats 4000000 in
theorem rbParts_F (hN : NodeSays Nd) (hS : RbSays Nd) (A A2 : Option Addr) (n c n2 c2 : Nat) (key val : BitVec 64) (l m : List Bd) (t u : Tr) (w : World) (h : LongAt w A n c false) (h2 : LongAt w A2 n2 c2 false) (ht : TreeIn w A n c l t) (hu : TreeIn w A2 n2 c2 m u) (g1 : partR t = true) (g2 : partR u = true) (g3 : (highR t == highR u) = true) (g4 : redR t = false) (g5 : redR u = true) : Calls Try.prog 4 #[.slice A n c, .slice A2 n2 c2, K key, K val, .bool true] w fun e w' => e = .returned (.bool true) ∧ Below w.heap.size w w' := by
  have c0 := Lib.hid (h w (Below.refl _ _))
  have c1 := Lib.hid (h2 w (Below.refl _ _))
  have cM := Lib.hid (ht.make hN)
  have cM2 := Lib.hid (hu.make hN)
  have hts : t.size ≤ 400 := by rw [ht.size]; exact ht.few
  have hus : u.size ≤ 400 := by rw [hu.size]; exact hu.few
  have hsz : (makeR t key val true u).size ≤ 5000 := by rw [makeR, Tr.size]; omega
  have hT : partR (makeR t key val true u) = false := by rw [make_part _ _ _ _ _ (by omega), g1, g2, g3, g4, g5]; rfl
  have hM : mayR (makeR t key val true u) = false := by rw [may_R, hT]; rfl
  have cA : Hid (∀ W, Calls Try.prog 10 #[] W fun e w' => e = .returned (.bool true) ∧ Below W.heap.size W w') := fun W => alive16_any hN hS W
  have cK := Lib.hid (fun W p q h1 h2 => RbSays.makeT hN hS W t u p q key val true h1 h2)
  have cK' : Hid (∀ W p q, TreeAt Nd W W.heap.size t p → TreeAt Nd W W.heap.size u q → Calls Try.prog 12 #[.pointer p, K key, K val, .bool true, .pointer q] W fun e w' => ∃ a, e = .returned (.pointer (some a)) ∧ TreeAt Nd w' w'.heap.size (makeR t key val true u) (some a) ∧ Below W.heap.size W w') := fun W p q k1 k2 => (cK.out W p q k1 k2).mono fun e w' ⟨a, k3, _, _, k5, k6⟩ => ⟨a, k3, k5, k6⟩
  have cP : Hid (∀ W p, TreeAt Nd W W.heap.size t p → Calls Try.prog 19 #[.pointer p] W fun e w' => e = .returned (.bool true) ∧ Below W.heap.size W w') := fun W p hp => g1 ▸ hS.part W t p hp (by omega)
  have cQ : Hid (∀ W p, TreeAt Nd W W.heap.size u p → Calls Try.prog 19 #[.pointer p] W fun e w' => e = .returned (.bool true) ∧ Below W.heap.size W w') := fun W p hp => g2 ▸ hS.part W u p hp (by omega)
  have cH : Hid (∀ W p, TreeAt Nd W W.heap.size t p → Calls Try.prog 20 #[.pointer p] W fun e w' => e = .returned (nI (highR t)) ∧ Below W.heap.size W w') := fun W p hp => hS.high W t p hp
  have cJ : Hid (∀ W p, TreeAt Nd W W.heap.size u p → Calls Try.prog 20 #[.pointer p] W fun e w' => e = .returned (nI (highR u)) ∧ Below W.heap.size W w') := fun W p hp => hS.high W u p hp
  have cR : Hid (∀ W p, TreeAt Nd W W.heap.size t p → Calls Try.prog 21 #[.pointer p] W fun e w' => e = .returned (.bool false) ∧ Below W.heap.size W w') := fun W p hp => g4 ▸ hS.red W t p hp
  have cS : Hid (∀ W p, TreeAt Nd W W.heap.size u p → Calls Try.prog 21 #[.pointer p] W fun e w' => e = .returned (.bool true) ∧ Below W.heap.size W w') := fun W p hp => g5 ▸ hS.red W u p hp
  have cT : Hid (∀ W p, TreeAt Nd W W.heap.size (makeR t key val true u) p → Calls Try.prog 19 #[.pointer p] W fun e w' => e = .returned (.bool false) ∧ Below W.heap.size W w') := fun W p hp => hT ▸ hS.part W _ p hp hsz
  have cU : Hid (∀ W p, TreeAt Nd W W.heap.size (makeR t key val true u) p → Calls Try.prog 22 #[.pointer p] W fun e w' => e = .returned (.bool false) ∧ Below W.heap.size W w') := fun W p hp => hM ▸ hS.may W _ p hp hsz
  have hY : mayR (blackR t) = true := black_may g1 (by omega)
  have cY : Hid (∀ W p, TreeAt Nd W W.heap.size t p → Calls Try.prog 14 #[.pointer p] W fun e w' => ∃ q, e = .returned (.pointer q) ∧ TreeAt Nd w' w'.heap.size (blackR t) q ∧ Below W.heap.size W w') := fun W p hp => hS.blackT hN W _ p hp
  have cZ : Hid (∀ W p, TreeAt Nd W W.heap.size (blackR t) p → Calls Try.prog 22 #[.pointer p] W fun e w' => e = .returned (.bool true) ∧ Below W.heap.size W w') := fun W p hp => hY ▸ hS.may W _ p hp (by rw [black_size]; omega)
  obtain ⟨H, hH⟩ : ∃ m, highR t = m := ⟨_, rfl⟩
  obtain ⟨J, hJ⟩ : ∃ m, highR u = m := ⟨_, rfl⟩
  rw [hH] at cH g3
  rw [hJ] at cJ g3
  have d1 : ((H : Int) == (J : Int)) = true := by
    rw [beq_iff_eq] at g3 ⊢; omega
  obtain ⟨tu, htu⟩ : ∃ tu, (makeR t key val true u) = tu := ⟨_, rfl⟩
  rw [htu] at cK' cT cU
  obtain ⟨ta, hta⟩ : ∃ x, blackR t = x := ⟨_, rfl⟩
  rw [hta] at cY cZ
  have hN' := Lib.hid hN
  clear htu cK hT hM hsz hts hus hN hS h h2 ht hu g1 g2 g3 g4 g5 hta hY hH hJ
  go_enter Try.func4, Try.ntmps4
  have B_0 := Lib.hid (Below.refl w.heap.size w)
  go_wp2_with fail
  refine (c0.out).mono ?_
  rintro e w' ⟨rfl, rfl⟩
  go_wp2_with fail
  refine (c1.out).mono ?_
  rintro e w' ⟨rfl, rfl⟩
  go_wp2_with fail
  refine (cM.out w B_0.out).mono ?_
  rintro e w1 ⟨p, rfl, hP, hb⟩
  have B_1 := Lib.hid (Below.after B_0.out hb)
  clear B_0
  have P_1 := Lib.hid hP
  clear hP
  clear hb
  go_wp2_with fail
  refine (cM2.out w1 B_1.out).mono ?_
  rintro e w2 ⟨q, rfl, hQ, hb⟩
  have P_2 := Lib.hid (P_1.out.after hN'.out hb)
  have B_2 := Lib.hid (Below.after B_1.out hb)
  clear P_1 B_1
  have Q_2 := Lib.hid hQ
  clear hQ
  clear hb
  go_wp2_with fail
  refine (cK'.out w2 _ _ P_2.out Q_2.out).mono ?_
  rintro e w3 ⟨a, rfl, hT, hb⟩
  have P_3 := Lib.hid (P_2.out.after hN'.out hb)
  have Q_3 := Lib.hid (Q_2.out.after hN'.out hb)
  have B_3 := Lib.hid (Below.after B_2.out hb)
  clear P_2 Q_2 B_2
  have T_3 := Lib.hid hT
  clear hT
  clear hb
  go_wp2_with fail
  refine (cP.out w3 _ P_3.out).mono ?_
  rintro e w4 ⟨rfl, hb⟩
  have P_4 := Lib.hid (P_3.out.after hN'.out hb)
  have Q_4 := Lib.hid (Q_3.out.after hN'.out hb)
  have T_4 := Lib.hid (T_3.out.after hN'.out hb)
  have B_4 := Lib.hid (Below.after B_3.out hb)
  clear P_3 Q_3 T_3 B_3
  clear hb
  go_wp2_with fail
  refine (cQ.out w4 _ Q_4.out).mono ?_
  rintro e w5 ⟨rfl, hb⟩
  have P_5 := Lib.hid (P_4.out.after hN'.out hb)
  have Q_5 := Lib.hid (Q_4.out.after hN'.out hb)
  have T_5 := Lib.hid (T_4.out.after hN'.out hb)
  have B_5 := Lib.hid (Below.after B_4.out hb)
  clear P_4 Q_4 T_4 B_4
  clear hb
  go_wp2_with fail
  refine (cH.out w5 _ P_5.out).mono ?_
  rintro e w6 ⟨rfl, hb⟩
  have P_6 := Lib.hid (P_5.out.after hN'.out hb)
  have Q_6 := Lib.hid (Q_5.out.after hN'.out hb)
  have T_6 := Lib.hid (T_5.out.after hN'.out hb)
  have B_6 := Lib.hid (Below.after B_5.out hb)
  clear P_5 Q_5 T_5 B_5
  clear hb
  go_wp2_with fail
  refine (cJ.out w6 _ Q_6.out).mono ?_
  rintro e w7 ⟨rfl, hb⟩
  have P_7 := Lib.hid (P_6.out.after hN'.out hb)
  have Q_7 := Lib.hid (Q_6.out.after hN'.out hb)
  have T_7 := Lib.hid (T_6.out.after hN'.out hb)
  have B_7 := Lib.hid (Below.after B_6.out hb)
  clear P_6 Q_6 T_6 B_6
  clear hb
  go_wp2_with fail
  refine (cR.out w7 _ P_7.out).mono ?_
  rintro e w8 ⟨rfl, hb⟩
  have P_8 := Lib.hid (P_7.out.after hN'.out hb)
  have Q_8 := Lib.hid (Q_7.out.after hN'.out hb)
  have T_8 := Lib.hid (T_7.out.after hN'.out hb)
  have B_8 := Lib.hid (Below.after B_7.out hb)
  clear P_7 Q_7 T_7 B_7
  clear hb
  go_wp2_with fail
  refine (cS.out w8 _ Q_8.out).mono ?_
  rintro e w9 ⟨rfl, hb⟩
  have P_9 := Lib.hid (P_8.out.after hN'.out hb)
  have Q_9 := Lib.hid (Q_8.out.after hN'.out hb)
  have T_9 := Lib.hid (T_8.out.after hN'.out hb)
  have B_9 := Lib.hid (Below.after B_8.out hb)
  clear P_8 Q_8 T_8 B_8
  clear hb
  go_wp2_with fail
  refine (cT.out w9 _ T_9.out).mono ?_
  rintro e w10 ⟨rfl, hb⟩
  have P_10 := Lib.hid (P_9.out.after hN'.out hb)
  have Q_10 := Lib.hid (Q_9.out.after hN'.out hb)
  have T_10 := Lib.hid (T_9.out.after hN'.out hb)
  have B_10 := Lib.hid (Below.after B_9.out hb)
  clear P_9 Q_9 T_9 B_9
  clear hb
  go_wp2_with fail
  refine (cU.out w10 _ T_10.out).mono ?_
  rintro e w11 ⟨rfl, hb⟩
  have P_11 := Lib.hid (P_10.out.after hN'.out hb)
  have Q_11 := Lib.hid (Q_10.out.after hN'.out hb)
  have T_11 := Lib.hid (T_10.out.after hN'.out hb)
  have B_11 := Lib.hid (Below.after B_10.out hb)
  clear P_10 Q_10 T_10 B_10
  clear hb
  go_wp2_with fail
  refine (cP.out w11 _ P_11.out).mono ?_
  rintro e w12 ⟨rfl, hb⟩
  have P_12 := Lib.hid (P_11.out.after hN'.out hb)
  have Q_12 := Lib.hid (Q_11.out.after hN'.out hb)
  have T_12 := Lib.hid (T_11.out.after hN'.out hb)
  have B_12 := Lib.hid (Below.after B_11.out hb)
  clear P_11 Q_11 T_11 B_11
  clear hb
  go_wp2_with fail
  refine (cY.out w12 _ P_12.out).mono ?_
  rintro e w13 ⟨y, rfl, hY, hb⟩
  have P_13 := Lib.hid (P_12.out.after hN'.out hb)
  have Q_13 := Lib.hid (Q_12.out.after hN'.out hb)
  have T_13 := Lib.hid (T_12.out.after hN'.out hb)
  have B_13 := Lib.hid (Below.after B_12.out hb)
  clear P_12 Q_12 T_12 B_12
  have Y_13 := Lib.hid hY
  clear hY
  clear hb
  go_wp2_with fail
  refine (cZ.out w13 _ Y_13.out).mono ?_
  rintro e w14 ⟨rfl, hb⟩
  have P_14 := Lib.hid (P_13.out.after hN'.out hb)
  have Q_14 := Lib.hid (Q_13.out.after hN'.out hb)
  have T_14 := Lib.hid (T_13.out.after hN'.out hb)
  have Y_14 := Lib.hid (Y_13.out.after hN'.out hb)
  have B_14 := Lib.hid (Below.after B_13.out hb)
  clear P_13 Q_13 T_13 Y_13 B_13
  clear hb
  go_wp2_with fail
  refine (cA.out w14).mono ?_
  rintro e w15 ⟨rfl, hb⟩
  have P_15 := Lib.hid (P_14.out.after hN'.out hb)
  have Q_15 := Lib.hid (Q_14.out.after hN'.out hb)
  have T_15 := Lib.hid (T_14.out.after hN'.out hb)
  have Y_15 := Lib.hid (Y_14.out.after hN'.out hb)
  have B_15 := Lib.hid (Below.after B_14.out hb)
  clear P_14 Q_14 T_14 Y_14 B_14
  clear hb
  go_wp2
  go_ret
  exact ⟨rfl, B_15.out⟩
set_option maxHeartbeats 4000000 in
theorem rbParts_G (hN : NodeSays Nd) (hS : RbSays Nd) (A A2 : Option Addr) (n c n2 c2 : Nat) (key val : BitVec 64) (l m : List Bd) (t u : Tr) (w : World) (h : LongAt w A n c false) (h2 : LongAt w A2 n2 c2 false) (ht : TreeIn w A n c l t) (hu : TreeIn w A2 n2 c2 m u) (g1 : partR t = true) (g2 : partR u = true) (g3 : (highR t == highR u) = true) (g4 : redR t = false) (g5 : redR u = false) : Calls Try.prog 4 #[.slice A n c, .slice A2 n2 c2, K key, K val, .bool true] w fun e w' => e = .returned (.bool true) ∧ Below w.heap.size w w' := by
  have c0 := Lib.hid (h w (Below.refl _ _))
  have c1 := Lib.hid (h2 w (Below.refl _ _))
  have cM := Lib.hid (ht.make hN)
  have cM2 := Lib.hid (hu.make hN)
  have hts : t.size ≤ 400 := by rw [ht.size]; exact ht.few
  have hus : u.size ≤ 400 := by rw [hu.size]; exact hu.few
  have hsz : (makeR t key val true u).size ≤ 5000 := by rw [makeR, Tr.size]; omega
  have hT : partR (makeR t key val true u) = true := by rw [make_part _ _ _ _ _ (by omega), g1, g2, g3, g4, g5]; rfl
  have hM : mayR (makeR t key val true u) = false := by rw [may_R, hT, make_red]; rfl
  have cA : Hid (∀ W, Calls Try.prog 10 #[] W fun e w' => e = .returned (.bool true) ∧ Below W.heap.size W w') := fun W => alive16_any hN hS W
  have cK := Lib.hid (fun W p q h1 h2 => RbSays.makeT hN hS W t u p q key val true h1 h2)
  have cK' : Hid (∀ W p q, TreeAt Nd W W.heap.size t p → TreeAt Nd W W.heap.size u q → Calls Try.prog 12 #[.pointer p, K key, K val, .bool true, .pointer q] W fun e w' => ∃ a, e = .returned (.pointer (some a)) ∧ TreeAt Nd w' w'.heap.size (makeR t key val true u) (some a) ∧ Below W.heap.size W w') := fun W p q k1 k2 => (cK.out W p q k1 k2).mono fun e w' ⟨a, k3, _, _, k5, k6⟩ => ⟨a, k3, k5, k6⟩
  have cP : Hid (∀ W p, TreeAt Nd W W.heap.size t p → Calls Try.prog 19 #[.pointer p] W fun e w' => e = .returned (.bool true) ∧ Below W.heap.size W w') := fun W p hp => g1 ▸ hS.part W t p hp (by omega)
  have cQ : Hid (∀ W p, TreeAt Nd W W.heap.size u p → Calls Try.prog 19 #[.pointer p] W fun e w' => e = .returned (.bool true) ∧ Below W.heap.size W w') := fun W p hp => g2 ▸ hS.part W u p hp (by omega)
  have cH : Hid (∀ W p, TreeAt Nd W W.heap.size t p → Calls Try.prog 20 #[.pointer p] W fun e w' => e = .returned (nI (highR t)) ∧ Below W.heap.size W w') := fun W p hp => hS.high W t p hp
  have cJ : Hid (∀ W p, TreeAt Nd W W.heap.size u p → Calls Try.prog 20 #[.pointer p] W fun e w' => e = .returned (nI (highR u)) ∧ Below W.heap.size W w') := fun W p hp => hS.high W u p hp
  have cR : Hid (∀ W p, TreeAt Nd W W.heap.size t p → Calls Try.prog 21 #[.pointer p] W fun e w' => e = .returned (.bool false) ∧ Below W.heap.size W w') := fun W p hp => g4 ▸ hS.red W t p hp
  have cS : Hid (∀ W p, TreeAt Nd W W.heap.size u p → Calls Try.prog 21 #[.pointer p] W fun e w' => e = .returned (.bool false) ∧ Below W.heap.size W w') := fun W p hp => g5 ▸ hS.red W u p hp
  have cT : Hid (∀ W p, TreeAt Nd W W.heap.size (makeR t key val true u) p → Calls Try.prog 19 #[.pointer p] W fun e w' => e = .returned (.bool true) ∧ Below W.heap.size W w') := fun W p hp => hT ▸ hS.part W _ p hp hsz
  have cU : Hid (∀ W p, TreeAt Nd W W.heap.size (makeR t key val true u) p → Calls Try.prog 22 #[.pointer p] W fun e w' => e = .returned (.bool false) ∧ Below W.heap.size W w') := fun W p hp => hM ▸ hS.may W _ p hp hsz
  have hX : mayR (blackR (makeR t key val true u)) = true := black_may hT hsz
  have cV : Hid (∀ W p, TreeAt Nd W W.heap.size (makeR t key val true u) p → Calls Try.prog 14 #[.pointer p] W fun e w' => ∃ q, e = .returned (.pointer q) ∧ TreeAt Nd w' w'.heap.size (blackR (makeR t key val true u)) q ∧ Below W.heap.size W w') := fun W p hp => hS.blackT hN W _ p hp
  have cX : Hid (∀ W p, TreeAt Nd W W.heap.size (blackR (makeR t key val true u)) p → Calls Try.prog 22 #[.pointer p] W fun e w' => e = .returned (.bool true) ∧ Below W.heap.size W w') := fun W p hp => hX ▸ hS.may W _ p hp (by rw [black_size]; exact hsz)
  have hY : mayR (blackR t) = true := black_may g1 (by omega)
  have cY : Hid (∀ W p, TreeAt Nd W W.heap.size t p → Calls Try.prog 14 #[.pointer p] W fun e w' => ∃ q, e = .returned (.pointer q) ∧ TreeAt Nd w' w'.heap.size (blackR t) q ∧ Below W.heap.size W w') := fun W p hp => hS.blackT hN W _ p hp
  have cZ : Hid (∀ W p, TreeAt Nd W W.heap.size (blackR t) p → Calls Try.prog 22 #[.pointer p] W fun e w' => e = .returned (.bool true) ∧ Below W.heap.size W w') := fun W p hp => hY ▸ hS.may W _ p hp (by rw [black_size]; omega)
  obtain ⟨H, hH⟩ : ∃ m, highR t = m := ⟨_, rfl⟩
  obtain ⟨J, hJ⟩ : ∃ m, highR u = m := ⟨_, rfl⟩
  rw [hH] at cH g3
  rw [hJ] at cJ g3
  have d1 : ((H : Int) == (J : Int)) = true := by
    rw [beq_iff_eq] at g3 ⊢; omega
  obtain ⟨tu, htu⟩ : ∃ tu, (makeR t key val true u) = tu := ⟨_, rfl⟩
  rw [htu] at cK' cT cU cV cX
  obtain ⟨tb, htb⟩ : ∃ x, blackR tu = x := ⟨_, rfl⟩
  rw [htb] at cV cX
  obtain ⟨ta, hta⟩ : ∃ x, blackR t = x := ⟨_, rfl⟩
  rw [hta] at cY cZ
  have hN' := Lib.hid hN
  clear htu cK hT hM hsz hts hus hN hS h h2 ht hu g1 g2 g3 g4 g5 hX htb hta hY hH hJ
  go_enter Try.func4, Try.ntmps4
  have B_0 := Lib.hid (Below.refl w.heap.size w)
  go_wp2_with fail
  refine (c0.out).mono ?_
  rintro e w' ⟨rfl, rfl⟩
  go_wp2_with fail
  refine (c1.out).mono ?_
  rintro e w' ⟨rfl, rfl⟩
  go_wp2_with fail
  refine (cM.out w B_0.out).mono ?_
  rintro e w1 ⟨p, rfl, hP, hb⟩
  have B_1 := Lib.hid (Below.after B_0.out hb)
  clear B_0
  have P_1 := Lib.hid hP
  clear hP
  clear hb
  go_wp2_with fail
  refine (cM2.out w1 B_1.out).mono ?_
  rintro e w2 ⟨q, rfl, hQ, hb⟩
  have P_2 := Lib.hid (P_1.out.after hN'.out hb)
  have B_2 := Lib.hid (Below.after B_1.out hb)
  clear P_1 B_1
  have Q_2 := Lib.hid hQ
  clear hQ
  clear hb
  go_wp2_with fail
  refine (cK'.out w2 _ _ P_2.out Q_2.out).mono ?_
  rintro e w3 ⟨a, rfl, hT, hb⟩
  have P_3 := Lib.hid (P_2.out.after hN'.out hb)
  have Q_3 := Lib.hid (Q_2.out.after hN'.out hb)
  have B_3 := Lib.hid (Below.after B_2.out hb)
  clear P_2 Q_2 B_2
  have T_3 := Lib.hid hT
  clear hT
  clear hb
  go_wp2_with fail
  refine (cP.out w3 _ P_3.out).mono ?_
  rintro e w4 ⟨rfl, hb⟩
  have P_4 := Lib.hid (P_3.out.after hN'.out hb)
  have Q_4 := Lib.hid (Q_3.out.after hN'.out hb)
  have T_4 := Lib.hid (T_3.out.after hN'.out hb)
  have B_4 := Lib.hid (Below.after B_3.out hb)
  clear P_3 Q_3 T_3 B_3
  clear hb
  go_wp2_with fail
  refine (cQ.out w4 _ Q_4.out).mono ?_
  rintro e w5 ⟨rfl, hb⟩
  have P_5 := Lib.hid (P_4.out.after hN'.out hb)
  have Q_5 := Lib.hid (Q_4.out.after hN'.out hb)
  have T_5 := Lib.hid (T_4.out.after hN'.out hb)
  have B_5 := Lib.hid (Below.after B_4.out hb)
  clear P_4 Q_4 T_4 B_4
  clear hb
  go_wp2_with fail
  refine (cH.out w5 _ P_5.out).mono ?_
  rintro e w6 ⟨rfl, hb⟩
  have P_6 := Lib.hid (P_5.out.after hN'.out hb)
  have Q_6 := Lib.hid (Q_5.out.after hN'.out hb)
  have T_6 := Lib.hid (T_5.out.after hN'.out hb)
  have B_6 := Lib.hid (Below.after B_5.out hb)
  clear P_5 Q_5 T_5 B_5
  clear hb
  go_wp2_with fail
  refine (cJ.out w6 _ Q_6.out).mono ?_
  rintro e w7 ⟨rfl, hb⟩
  have P_7 := Lib.hid (P_6.out.after hN'.out hb)
  have Q_7 := Lib.hid (Q_6.out.after hN'.out hb)
  have T_7 := Lib.hid (T_6.out.after hN'.out hb)
  have B_7 := Lib.hid (Below.after B_6.out hb)
  clear P_6 Q_6 T_6 B_6
  clear hb
  go_wp2_with fail
  refine (cR.out w7 _ P_7.out).mono ?_
  rintro e w8 ⟨rfl, hb⟩
  have P_8 := Lib.hid (P_7.out.after hN'.out hb)
  have Q_8 := Lib.hid (Q_7.out.after hN'.out hb)
  have T_8 := Lib.hid (T_7.out.after hN'.out hb)
  have B_8 := Lib.hid (Below.after B_7.out hb)
  clear P_7 Q_7 T_7 B_7
  clear hb
  go_wp2_with fail
  refine (cS.out w8 _ Q_8.out).mono ?_
  rintro e w9 ⟨rfl, hb⟩
  have P_9 := Lib.hid (P_8.out.after hN'.out hb)
  have Q_9 := Lib.hid (Q_8.out.after hN'.out hb)
  have T_9 := Lib.hid (T_8.out.after hN'.out hb)
  have B_9 := Lib.hid (Below.after B_8.out hb)
  clear P_8 Q_8 T_8 B_8
  clear hb
  go_wp2_with fail
  refine (cT.out w9 _ T_9.out).mono ?_
  rintro e w10 ⟨rfl, hb⟩
  have P_10 := Lib.hid (P_9.out.after hN'.out hb)
  have Q_10 := Lib.hid (Q_9.out.after hN'.out hb)
  have T_10 := Lib.hid (T_9.out.after hN'.out hb)
  have B_10 := Lib.hid (Below.after B_9.out hb)
  clear P_9 Q_9 T_9 B_9
  clear hb
  go_wp2_with fail
  refine (cU.out w10 _ T_10.out).mono ?_
  rintro e w11 ⟨rfl, hb⟩
  have P_11 := Lib.hid (P_10.out.after hN'.out hb)
  have Q_11 := Lib.hid (Q_10.out.after hN'.out hb)
  have T_11 := Lib.hid (T_10.out.after hN'.out hb)
  have B_11 := Lib.hid (Below.after B_10.out hb)
  clear P_10 Q_10 T_10 B_10
  clear hb
  go_wp2_with fail
  refine (cV.out w11 _ T_11.out).mono ?_
  rintro e w12 ⟨v, rfl, hV, hb⟩
  have P_12 := Lib.hid (P_11.out.after hN'.out hb)
  have Q_12 := Lib.hid (Q_11.out.after hN'.out hb)
  have T_12 := Lib.hid (T_11.out.after hN'.out hb)
  have B_12 := Lib.hid (Below.after B_11.out hb)
  clear P_11 Q_11 T_11 B_11
  have V_12 := Lib.hid hV
  clear hV
  clear hb
  go_wp2_with fail
  refine (cX.out w12 _ V_12.out).mono ?_
  rintro e w13 ⟨rfl, hb⟩
  have P_13 := Lib.hid (P_12.out.after hN'.out hb)
  have Q_13 := Lib.hid (Q_12.out.after hN'.out hb)
  have T_13 := Lib.hid (T_12.out.after hN'.out hb)
  have V_13 := Lib.hid (V_12.out.after hN'.out hb)
  have B_13 := Lib.hid (Below.after B_12.out hb)
  clear P_12 Q_12 T_12 V_12 B_12
  clear hb
  go_wp2_with fail
  refine (cP.out w13 _ P_13.out).mono ?_
  rintro e w14 ⟨rfl, hb⟩
  have P_14 := Lib.hid (P_13.out.after hN'.out hb)
  have Q_14 := Lib.hid (Q_13.out.after hN'.out hb)
  have T_14 := Lib.hid (T_13.out.after hN'.out hb)
  have V_14 := Lib.hid (V_13.out.after hN'.out hb)
  have B_14 := Lib.hid (Below.after B_13.out hb)
  clear P_13 Q_13 T_13 V_13 B_13
  clear hb
  go_wp2_with fail
  refine (cY.out w14 _ P_14.out).mono ?_
  rintro e w15 ⟨y, rfl, hY, hb⟩
  have P_15 := Lib.hid (P_14.out.after hN'.out hb)
  have Q_15 := Lib.hid (Q_14.out.after hN'.out hb)
  have T_15 := Lib.hid (T_14.out.after hN'.out hb)
  have V_15 := Lib.hid (V_14.out.after hN'.out hb)
  have B_15 := Lib.hid (Below.after B_14.out hb)
  clear P_14 Q_14 T_14 V_14 B_14
  have Y_15 := Lib.hid hY
  clear hY
  clear hb
  go_wp2_with fail
  refine (cZ.out w15 _ Y_15.out).mono ?_
  rintro e w16 ⟨rfl, hb⟩
  have P_16 := Lib.hid (P_15.out.after hN'.out hb)
  have Q_16 := Lib.hid (Q_15.out.after hN'.out hb)
  have T_16 := Lib.hid (T_15.out.after hN'.out hb)
  have V_16 := Lib.hid (V_15.out.after hN'.out hb)
  have Y_16 := Lib.hid (Y_15.out.after hN'.out hb)
  have B_16 := Lib.hid (Below.after B_15.out hb)
  clear P_15 Q_15 T_15 V_15 Y_15 B_15
  clear hb
  go_wp2_with fail
  refine (cA.out w16).mono ?_
  rintro e w17 ⟨rfl, hb⟩
  have P_17 := Lib.hid (P_16.out.after hN'.out hb)
  have Q_17 := Lib.hid (Q_16.out.after hN'.out hb)
  have T_17 := Lib.hid (T_16.out.after hN'.out hb)
  have V_17 := Lib.hid (V_16.out.after hN'.out hb)
  have Y_17 := Lib.hid (Y_16.out.after hN'.out hb)
  have B_17 := Lib.hid (Below.after B_16.out hb)
  clear P_16 Q_16 T_16 V_16 Y_16 B_16
  clear hb
  go_wp2
  go_ret
  exact ⟨rfl, B_17.out⟩
theorem rbParts_any (hN : NodeSays Nd) (hS : RbSays Nd) (A : Option Addr) (n c : Nat) (l : List Bd) (hl : l.length = n) (hn : n ≤ c) (hc : c ≤ maxLen) (hz : A = none → c = 0) (A2 : Option Addr) (n2 c2 : Nat) (m : List Bd) (kl : m.length = n2) (kn : n2 ≤ c2) (kc : c2 ≤ maxLen) (kz : A2 = none → c2 = 0) (key val : BitVec 64) (red : Bool) (w : World) (hr : Row w w.heap.size A (flat7 l)) (kr : Row w w.heap.size A2 (flat7 m)) : Calls Try.prog 4 #[.slice A n c, .slice A2 n2 c2, K key, K val, .bool red] w fun e w' => e = .returned (.bool true) ∧ Below w.heap.size w w' := by
  rcases long_or hl hn hc hz hr with h | ⟨h, t, ht⟩
  · exact rbParts_long1 hN hS A A2 n c n2 c2 key val red w h
  · rcases long_or kl kn kc kz kr with j | ⟨j, u, hu⟩
    · exact rbParts_long2 hN hS A A2 n c n2 c2 key val red w h j
    · cases g1 : partR t with
      | false => exact rbParts_A hN hS A A2 n c n2 c2 key val red l m t u w h j ht hu g1
      | true =>
        cases g2 : partR u with
        | false => exact rbParts_B hN hS A A2 n c n2 c2 key val red l m t u w h j ht hu g1 g2
        | true =>
          cases g3 : (highR t == highR u) with
          | false => exact rbParts_C hN hS A A2 n c n2 c2 key val red l m t u w h j ht hu g1 g2 g3
          | true =>
            cases red with
            | false => exact rbParts_D hN hS A A2 n c n2 c2 key val l m t u w h j ht hu g1 g2 g3
            | true =>
              cases g4 : redR t with
              | true => exact rbParts_E hN hS A A2 n c n2 c2 key val l m t u w h j ht hu g1 g2 g3 g4
              | false =>
                cases g5 : redR u with
                | true => exact rbParts_F hN hS A A2 n c n2 c2 key val l m t u w h j ht hu g1 g2 g3 g4 g5
                | false => exact rbParts_G hN hS A A2 n c n2 c2 key val l m t u w h j ht hu g1 g2 g3 g4 g5
end Go.Proofs.Ytifhnaelkjfmdab
