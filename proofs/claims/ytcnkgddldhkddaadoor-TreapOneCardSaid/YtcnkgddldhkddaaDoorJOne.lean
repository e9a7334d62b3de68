/- Proved here: for every two rows of beads the law TreapOne of layer 20 returns true (two treaps that have the same items, in order, no two of which have the same tag and key, are the same, bead by bead); it changes nothing that lay. Condition: package mix's table of steps holds what its initialiser lays (tied to the program's text by the card). -/
import Derived.Test.YtcnkgddldhkddaaDoorJE
import Derived.Test.YtcnkgddldhkddaaDoorJD
import Derived.Test.YtcnkgddldhkddaaDoorL9Says
import Derived.Test.YtcnkgddldhkddaaDoorRows
import Derived.Below
import Derived.ChangeOld
import Derived.Test.YtcnkgddldhkddaaDoorTie
import Derived.Test.YtcnkgddldhkddaaDoorCards
/- Layer 20: the statement TreapOne, walked. Made by wip/gen/layer20laws.py. -/
namespace Go.Proofs.YtcnkgddldhkddaaDoor
open Go.RowKit Go.Proofs.Treem
set_option maxRecDepth 100000
variable {Nd : NdP} {T : World → Prop}

set_option maxHeartbeats 2000000 in
theorem treapOne_long1 (hN : NodeSays Nd) (hS : TreapSays Nd T) (A A2 : Option Addr) (n c n2 c2 : Nat) (w : World) (hT : T w) (h : LongAt w A n c true) : Calls Tryd.prog 6 #[.slice A n c, .slice A2 n2 c2] w fun e w' => e = .returned (.bool true) ∧ Below w.heap.size w w' := by
  have c0 := Lib.hid (h w (Below.refl _ _))
  have c9 := Lib.hid (alive20_any hN hS w hT)
  clear h hN hS
  go_enter Tryd.func6, Tryd.ntmps6
  go_wp2_with fail
  refine c0.out.mono ?_
  rintro e w' ⟨rfl, rfl⟩
  go_wp2_with fail
  refine c9.out.mono ?_
  rintro e w1 ⟨rfl, hb⟩
  have b1 := Lib.hid hb
  clear hb
  go_wp2
  go_ret
  exact ⟨rfl, b1.out⟩
set_option maxHeartbeats 2000000 in
theorem treapOne_long2 (hN : NodeSays Nd) (hS : TreapSays Nd T) (A A2 : Option Addr) (n c n2 c2 : Nat) (w : World) (hT : T w) (h : LongAt w A n c false) (h2 : LongAt w A2 n2 c2 true) : Calls Tryd.prog 6 #[.slice A n c, .slice A2 n2 c2] w fun e w' => e = .returned (.bool true) ∧ Below w.heap.size w w' := by
  have c0 := Lib.hid (h w (Below.refl _ _))
  have c1 := Lib.hid (h2 w (Below.refl _ _))
  have c9 := Lib.hid (alive20_any hN hS w hT)
  clear h hN hS h2
  go_enter Tryd.func6, Tryd.ntmps6
  go_wp2_with fail
  refine c0.out.mono ?_
  rintro e w' ⟨rfl, rfl⟩
  go_wp2_with fail
  refine c1.out.mono ?_
  rintro e w' ⟨rfl, rfl⟩
  go_wp2_with fail
  refine c9.out.mono ?_
  rintro e w1 ⟨rfl, hb⟩
  have b1 := Lib.hid hb
  clear hb
  go_wp2
  go_ret
  exact ⟨rfl, b1.out⟩
set_option maxHeartbeats 4000000 in
theorem treapOne_A (hN : NodeSays Nd) (hS : TreapSays Nd T) (A A2 : Option Addr) (n c n2 c2 : Nat) (l m : List Bd) (t u : Tr) (w : World) (hT : T w) (h : LongAt w A n c false) (h2 : LongAt w A2 n2 c2 false) (ht : TreeIn w A n c l t) (hu : TreeIn w A2 n2 c2 m u) (g1 : unlB t.items = false) : Calls Tryd.prog 6 #[.slice A n c, .slice A2 n2 c2] w fun e w' => e = .returned (.bool true) ∧ Below w.heap.size w w' := by
  have c0 := Lib.hid (h w (Below.refl _ _))
  have c1 := Lib.hid (h2 w (Below.refl _ _))
  have cM := Lib.hid (ht.make hN)
  have cM2 := Lib.hid (hu.make hN)
  have hts : t.size ≤ 400 := by rw [ht.size]; exact ht.few
  have hus : u.size ≤ 400 := by rw [hu.size]; exact hu.few
  have hn := ht.size
  have hn2 := hu.size
  have cA : Hid (∀ W, Below w.heap.size w W → Calls Tryd.prog 8 #[] W fun e w' => e = .returned (.bool true) ∧ Below W.heap.size W w') := fun W hb => alive20_any hN hS W (hS.now w W hT hb)
  have cI : Hid (∀ W p, TreeAt Nd W W.heap.size t p → Calls Tryd.prog 15 #[.pointer p] W fun e w' => ∃ A c, e = .returned (.slice A n c) ∧ LieI w' w'.heap.size A n c t.items ∧ Below W.heap.size W w') := fun W p hp => by have := hS.items W t p hp (by omega); rw [hn] at this; exact this
  have cU : Hid (∀ W A c, LieI W W.heap.size A n c t.items → Calls Tryd.prog 25 #[.slice A n c] W fun e w' => e = .returned (.bool false) ∧ Below W.heap.size W w') := fun W A c h => g1 ▸ refUnlike20 A n c t.items W h
  have hN' := Lib.hid hN
  clear hN hS hT h h2 ht hu hts hus hn hn2 g1
  go_enter Tryd.func6, Tryd.ntmps6
  have B_0 := Lib.hid (Below.refl w.heap.size w)
  go_wp2_with fail
  refine (c0.out).mono ?_
  rintro e w' ⟨rfl, rfl⟩
  go_wp2_with fail
  refine (c1.out).mono ?_
  rintro e w' ⟨rfl, rfl⟩
  go_wp2_with fail
  refine (cM.out w B_0.out).mono ?_
  rintro e w1 ⟨p, rfl, hP, hb⟩
  have B_1 := Lib.hid (Below.after B_0.out hb)
  clear B_0
  have P_1 := Lib.hid hP
  clear hP
  clear hb
  go_wp2_with fail
  refine (cM2.out w1 B_1.out).mono ?_
  rintro e w2 ⟨q, rfl, hQ, hb⟩
  have P_2 := Lib.hid (P_1.out.after hN'.out hb)
  have B_2 := Lib.hid (Below.after B_1.out hb)
  clear P_1 B_1
  have Q_2 := Lib.hid hQ
  clear hQ
  clear hb
  go_wp2_with fail
  refine (cI.out w2 _ P_2.out).mono ?_
  rintro e w3 ⟨A3, c3, rfl, hI, hb⟩
  have P_3 := Lib.hid (P_2.out.after hN'.out hb)
  have Q_3 := Lib.hid (Q_2.out.after hN'.out hb)
  have B_3 := Lib.hid (Below.after B_2.out hb)
  clear P_2 Q_2 B_2
  have I_3 := Lib.hid hI
  clear hI
  clear hb
  go_wp2_with fail
  refine (cU.out w3 _ _ I_3.out).mono ?_
  rintro e w4 ⟨rfl, hb⟩
  have P_4 := Lib.hid (P_3.out.after hN'.out hb)
  have Q_4 := Lib.hid (Q_3.out.after hN'.out hb)
  have I_4 := Lib.hid (I_3.out.after hb)
  have B_4 := Lib.hid (Below.after B_3.out hb)
  clear P_3 Q_3 I_3 B_3
  clear hb
  go_wp2_with fail
  refine (cA.out w4 B_4.out).mono ?_
  rintro e w5 ⟨rfl, hb⟩
  have P_5 := Lib.hid (P_4.out.after hN'.out hb)
  have Q_5 := Lib.hid (Q_4.out.after hN'.out hb)
  have I_5 := Lib.hid (I_4.out.after hb)
  have B_5 := Lib.hid (Below.after B_4.out hb)
  clear P_4 Q_4 I_4 B_4
  clear hb
  go_wp2
  go_ret
  exact ⟨rfl, B_5.out⟩
set_option maxHeartbeats 4000000 in
theorem treapOne_B (hN : NodeSays Nd) (hS : TreapSays Nd T) (A A2 : Option Addr) (n c n2 c2 : Nat) (l m : List Bd) (t u : Tr) (w : World) (hT : T w) (h : LongAt w A n c false) (h2 : LongAt w A2 n2 c2 false) (ht : TreeIn w A n c l t) (hu : TreeIn w A2 n2 c2 m u) (g1 : unlB t.items = true) (g2 : mayP t = false) : Calls Tryd.prog 6 #[.slice A n c, .slice A2 n2 c2] w fun e w' => e = .returned (.bool true) ∧ Below w.heap.size w w' := by
  have c0 := Lib.hid (h w (Below.refl _ _))
  have c1 := Lib.hid (h2 w (Below.refl _ _))
  have cM := Lib.hid (ht.make hN)
  have cM2 := Lib.hid (hu.make hN)
  have hts : t.size ≤ 400 := by rw [ht.size]; exact ht.few
  have hus : u.size ≤ 400 := by rw [hu.size]; exact hu.few
  have hn := ht.size
  have hn2 := hu.size
  have cA : Hid (∀ W, Below w.heap.size w W → Calls Tryd.prog 8 #[] W fun e w' => e = .returned (.bool true) ∧ Below W.heap.size W w') := fun W hb => alive20_any hN hS W (hS.now w W hT hb)
  have cI : Hid (∀ W p, TreeAt Nd W W.heap.size t p → Calls Tryd.prog 15 #[.pointer p] W fun e w' => ∃ A c, e = .returned (.slice A n c) ∧ LieI w' w'.heap.size A n c t.items ∧ Below W.heap.size W w') := fun W p hp => by have := hS.items W t p hp (by omega); rw [hn] at this; exact this
  have cU : Hid (∀ W A c, LieI W W.heap.size A n c t.items → Calls Tryd.prog 25 #[.slice A n c] W fun e w' => e = .returned (.bool true) ∧ Below W.heap.size W w') := fun W A c h => g1 ▸ refUnlike20 A n c t.items W h
  have hun : Unl t.items := unlB_iff.1 g1
  have hone : (false : Bool) = true ↔ (ofT t.items).told = t.told := by
    have h1 := may_items t hun
    rw [g2] at h1
    exact h1.trans ⟨fun e => by rw [e], told_same⟩
  have hos : (ofT t.items).size ≤ 2000 := by rw [size_of, items_len]; omega
  have cX := Lib.hid (fun p A m c W hT hl => Is9_any hN (ofT t.items) p hos A m c t.told false hone W hT hl)
  have cF := Lib.hid (fun W A c (h : LieI W W.heap.size A n c t.items) => hS.of W A n c t.items (by omega) h)
  have cO := Lib.hid ht.of
  have cY : Hid (∀ W p, TreeAt Nd W W.heap.size t p → Calls Tryd.prog 12 #[.pointer p] W fun e w' => e = .returned (.bool false) ∧ Below W.heap.size W w') := fun W p hp => g2 ▸ hS.may W t p hp (by omega)
  obtain ⟨ot, hot⟩ : ∃ x, ofT t.items = x := ⟨_, rfl⟩
  rw [hot] at cX cF
  have hN' := Lib.hid hN
  clear hN hS hT h h2 ht hu hts hus hn hn2 g1 g2 hun hone hos hot
  go_enter Tryd.func6, Tryd.ntmps6
  have B_0 := Lib.hid (Below.refl w.heap.size w)
  go_wp2_with fail
  refine (c0.out).mono ?_
  rintro e w' ⟨rfl, rfl⟩
  go_wp2_with fail
  refine (c1.out).mono ?_
  rintro e w' ⟨rfl, rfl⟩
  go_wp2_with fail
  refine (cM.out w B_0.out).mono ?_
  rintro e w1 ⟨p, rfl, hP, hb⟩
  have B_1 := Lib.hid (Below.after B_0.out hb)
  clear B_0
  have P_1 := Lib.hid hP
  clear hP
  clear hb
  go_wp2_with fail
  refine (cM2.out w1 B_1.out).mono ?_
  rintro e w2 ⟨q, rfl, hQ, hb⟩
  have P_2 := Lib.hid (P_1.out.after hN'.out hb)
  have B_2 := Lib.hid (Below.after B_1.out hb)
  clear P_1 B_1
  have Q_2 := Lib.hid hQ
  clear hQ
  clear hb
  go_wp2_with fail
  refine (cI.out w2 _ P_2.out).mono ?_
  rintro e w3 ⟨A3, c3, rfl, hI, hb⟩
  have P_3 := Lib.hid (P_2.out.after hN'.out hb)
  have Q_3 := Lib.hid (Q_2.out.after hN'.out hb)
  have B_3 := Lib.hid (Below.after B_2.out hb)
  clear P_2 Q_2 B_2
  have I_3 := Lib.hid hI
  clear hI
  clear hb
  go_wp2_with fail
  refine (cU.out w3 _ _ I_3.out).mono ?_
  rintro e w4 ⟨rfl, hb⟩
  have P_4 := Lib.hid (P_3.out.after hN'.out hb)
  have Q_4 := Lib.hid (Q_3.out.after hN'.out hb)
  have I_4 := Lib.hid (I_3.out.after hb)
  have B_4 := Lib.hid (Below.after B_3.out hb)
  clear P_3 Q_3 I_3 B_3
  clear hb
  go_wp2_with fail
  refine (cY.out w4 _ P_4.out).mono ?_
  rintro e w5 ⟨rfl, hb⟩
  have P_5 := Lib.hid (P_4.out.after hN'.out hb)
  have Q_5 := Lib.hid (Q_4.out.after hN'.out hb)
  have I_5 := Lib.hid (I_4.out.after hb)
  have B_5 := Lib.hid (Below.after B_4.out hb)
  clear P_4 Q_4 I_4 B_4
  clear hb
  go_wp2_with fail
  refine (cF.out w5 _ _ I_5.out).mono ?_
  rintro e w6 ⟨z, rfl, hZ, hb⟩
  have P_6 := Lib.hid (P_5.out.after hN'.out hb)
  have Q_6 := Lib.hid (Q_5.out.after hN'.out hb)
  have I_6 := Lib.hid (I_5.out.after hb)
  have B_6 := Lib.hid (Below.after B_5.out hb)
  clear P_5 Q_5 I_5 B_5
  have Z_6 := Lib.hid hZ
  clear hZ
  clear hb
  go_wp2_with fail
  refine (cO.out w6 B_6.out).mono ?_
  rintro e w7 ⟨A4, c4, rfl, hR, hb⟩
  have P_7 := Lib.hid (P_6.out.after hN'.out hb)
  have Q_7 := Lib.hid (Q_6.out.after hN'.out hb)
  have I_7 := Lib.hid (I_6.out.after hb)
  have Z_7 := Lib.hid (Z_6.out.after hN'.out hb)
  have B_7 := Lib.hid (Below.after B_6.out hb)
  clear P_6 Q_6 I_6 Z_6 B_6
  have R_7 := Lib.hid hR
  clear hR
  clear hb
  go_wp2_with fail
  refine (cX.out _ _ _ _ w7 Z_7.out R_7.out).mono ?_
  rintro e w8 ⟨rfl, hb⟩
  have P_8 := Lib.hid (P_7.out.after hN'.out hb)
  have Q_8 := Lib.hid (Q_7.out.after hN'.out hb)
  have I_8 := Lib.hid (I_7.out.after hb)
  have Z_8 := Lib.hid (Z_7.out.after hN'.out hb)
  have R_8 := Lib.hid (R_7.out.after hb)
  have B_8 := Lib.hid (Below.after B_7.out hb)
  clear P_7 Q_7 I_7 Z_7 R_7 B_7
  clear hb
  go_wp2_with fail
  refine (cY.out w8 _ P_8.out).mono ?_
  rintro e w9 ⟨rfl, hb⟩
  have P_9 := Lib.hid (P_8.out.after hN'.out hb)
  have Q_9 := Lib.hid (Q_8.out.after hN'.out hb)
  have I_9 := Lib.hid (I_8.out.after hb)
  have Z_9 := Lib.hid (Z_8.out.after hN'.out hb)
  have R_9 := Lib.hid (R_8.out.after hb)
  have B_9 := Lib.hid (Below.after B_8.out hb)
  clear P_8 Q_8 I_8 Z_8 R_8 B_8
  clear hb
  go_wp2_with fail
  refine (cA.out w9 B_9.out).mono ?_
  rintro e w10 ⟨rfl, hb⟩
  have P_10 := Lib.hid (P_9.out.after hN'.out hb)
  have Q_10 := Lib.hid (Q_9.out.after hN'.out hb)
  have I_10 := Lib.hid (I_9.out.after hb)
  have Z_10 := Lib.hid (Z_9.out.after hN'.out hb)
  have R_10 := Lib.hid (R_9.out.after hb)
  have B_10 := Lib.hid (Below.after B_9.out hb)
  clear P_9 Q_9 I_9 Z_9 R_9 B_9
  clear hb
  go_wp2
  go_ret
  exact ⟨rfl, B_10.out⟩
set_option maxHeartbeats 4000000 in
theorem treapOne_C (hN : NodeSays Nd) (hS : TreapSays Nd T) (A A2 : Option Addr) (n c n2 c2 : Nat) (l m : List Bd) (t u : Tr) (w : World) (hT : T w) (h : LongAt w A n c false) (h2 : LongAt w A2 n2 c2 false) (ht : TreeIn w A n c l t) (hu : TreeIn w A2 n2 c2 m u) (g1 : unlB t.items = true) (g2 : mayP t = true) (g3 : mayP u = false) : Calls Tryd.prog 6 #[.slice A n c, .slice A2 n2 c2] w fun e w' => e = .returned (.bool true) ∧ Below w.heap.size w w' := by
  have c0 := Lib.hid (h w (Below.refl _ _))
  have c1 := Lib.hid (h2 w (Below.refl _ _))
  have cM := Lib.hid (ht.make hN)
  have cM2 := Lib.hid (hu.make hN)
  have hts : t.size ≤ 400 := by rw [ht.size]; exact ht.few
  have hus : u.size ≤ 400 := by rw [hu.size]; exact hu.few
  have hn := ht.size
  have hn2 := hu.size
  have cA : Hid (∀ W, Below w.heap.size w W → Calls Tryd.prog 8 #[] W fun e w' => e = .returned (.bool true) ∧ Below W.heap.size W w') := fun W hb => alive20_any hN hS W (hS.now w W hT hb)
  have cI : Hid (∀ W p, TreeAt Nd W W.heap.size t p → Calls Tryd.prog 15 #[.pointer p] W fun e w' => ∃ A c, e = .returned (.slice A n c) ∧ LieI w' w'.heap.size A n c t.items ∧ Below W.heap.size W w') := fun W p hp => by have := hS.items W t p hp (by omega); rw [hn] at this; exact this
  have cU : Hid (∀ W A c, LieI W W.heap.size A n c t.items → Calls Tryd.prog 25 #[.slice A n c] W fun e w' => e = .returned (.bool true) ∧ Below W.heap.size W w') := fun W A c h => g1 ▸ refUnlike20 A n c t.items W h
  have hun : Unl t.items := unlB_iff.1 g1
  have hone : (true : Bool) = true ↔ (ofT t.items).told = t.told := by
    have h1 := may_items t hun
    rw [g2] at h1
    exact h1.trans ⟨fun e => by rw [e], told_same⟩
  have hos : (ofT t.items).size ≤ 2000 := by rw [size_of, items_len]; omega
  have cX := Lib.hid (fun p A m c W hT hl => Is9_any hN (ofT t.items) p hos A m c t.told true hone W hT hl)
  have cF := Lib.hid (fun W A c (h : LieI W W.heap.size A n c t.items) => hS.of W A n c t.items (by omega) h)
  have cO := Lib.hid ht.of
  have cY : Hid (∀ W p, TreeAt Nd W W.heap.size t p → Calls Tryd.prog 12 #[.pointer p] W fun e w' => e = .returned (.bool true) ∧ Below W.heap.size W w') := fun W p hp => g2 ▸ hS.may W t p hp (by omega)
  have cZ : Hid (∀ W p, TreeAt Nd W W.heap.size u p → Calls Tryd.prog 12 #[.pointer p] W fun e w' => e = .returned (.bool false) ∧ Below W.heap.size W w') := fun W p hp => g3 ▸ hS.may W u p hp (by omega)
  obtain ⟨ot, hot⟩ : ∃ x, ofT t.items = x := ⟨_, rfl⟩
  rw [hot] at cX cF
  have hN' := Lib.hid hN
  clear hN hS hT h h2 ht hu hts hus hn hn2 g1 g2 g3 hun hone hos hot
  go_enter Tryd.func6, Tryd.ntmps6
  have B_0 := Lib.hid (Below.refl w.heap.size w)
  go_wp2_with fail
  refine (c0.out).mono ?_
  rintro e w' ⟨rfl, rfl⟩
  go_wp2_with fail
  refine (c1.out).mono ?_
  rintro e w' ⟨rfl, rfl⟩
  go_wp2_with fail
  refine (cM.out w B_0.out).mono ?_
  rintro e w1 ⟨p, rfl, hP, hb⟩
  have B_1 := Lib.hid (Below.after B_0.out hb)
  clear B_0
  have P_1 := Lib.hid hP
  clear hP
  clear hb
  go_wp2_with fail
  refine (cM2.out w1 B_1.out).mono ?_
  rintro e w2 ⟨q, rfl, hQ, hb⟩
  have P_2 := Lib.hid (P_1.out.after hN'.out hb)
  have B_2 := Lib.hid (Below.after B_1.out hb)
  clear P_1 B_1
  have Q_2 := Lib.hid hQ
  clear hQ
  clear hb
  go_wp2_with fail
  refine (cI.out w2 _ P_2.out).mono ?_
  rintro e w3 ⟨A3, c3, rfl, hI, hb⟩
  have P_3 := Lib.hid (P_2.out.after hN'.out hb)
  have Q_3 := Lib.hid (Q_2.out.after hN'.out hb)
  have B_3 := Lib.hid (Below.after B_2.out hb)
  clear P_2 Q_2 B_2
  have I_3 := Lib.hid hI
  clear hI
  clear hb
  go_wp2_with fail
  refine (cU.out w3 _ _ I_3.out).mono ?_
  rintro e w4 ⟨rfl, hb⟩
  have P_4 := Lib.hid (P_3.out.after hN'.out hb)
  have Q_4 := Lib.hid (Q_3.out.after hN'.out hb)
  have I_4 := Lib.hid (I_3.out.after hb)
  have B_4 := Lib.hid (Below.after B_3.out hb)
  clear P_3 Q_3 I_3 B_3
  clear hb
  go_wp2_with fail
  refine (cY.out w4 _ P_4.out).mono ?_
  rintro e w5 ⟨rfl, hb⟩
  have P_5 := Lib.hid (P_4.out.after hN'.out hb)
  have Q_5 := Lib.hid (Q_4.out.after hN'.out hb)
  have I_5 := Lib.hid (I_4.out.after hb)
  have B_5 := Lib.hid (Below.after B_4.out hb)
  clear P_4 Q_4 I_4 B_4
  clear hb
  go_wp2_with fail
  refine (cF.out w5 _ _ I_5.out).mono ?_
  rintro e w6 ⟨z, rfl, hZ, hb⟩
  have P_6 := Lib.hid (P_5.out.after hN'.out hb)
  have Q_6 := Lib.hid (Q_5.out.after hN'.out hb)
  have I_6 := Lib.hid (I_5.out.after hb)
  have B_6 := Lib.hid (Below.after B_5.out hb)
  clear P_5 Q_5 I_5 B_5
  have Z_6 := Lib.hid hZ
  clear hZ
  clear hb
  go_wp2_with fail
  refine (cO.out w6 B_6.out).mono ?_
  rintro e w7 ⟨A4, c4, rfl, hR, hb⟩
  have P_7 := Lib.hid (P_6.out.after hN'.out hb)
  have Q_7 := Lib.hid (Q_6.out.after hN'.out hb)
  have I_7 := Lib.hid (I_6.out.after hb)
  have Z_7 := Lib.hid (Z_6.out.after hN'.out hb)
  have B_7 := Lib.hid (Below.after B_6.out hb)
  clear P_6 Q_6 I_6 Z_6 B_6
  have R_7 := Lib.hid hR
  clear hR
  clear hb
  go_wp2_with fail
  refine (cX.out _ _ _ _ w7 Z_7.out R_7.out).mono ?_
  rintro e w8 ⟨rfl, hb⟩
  have P_8 := Lib.hid (P_7.out.after hN'.out hb)
  have Q_8 := Lib.hid (Q_7.out.after hN'.out hb)
  have I_8 := Lib.hid (I_7.out.after hb)
  have Z_8 := Lib.hid (Z_7.out.after hN'.out hb)
  have R_8 := Lib.hid (R_7.out.after hb)
  have B_8 := Lib.hid (Below.after B_7.out hb)
  clear P_7 Q_7 I_7 Z_7 R_7 B_7
  clear hb
  go_wp2_with fail
  refine (cY.out w8 _ P_8.out).mono ?_
  rintro e w9 ⟨rfl, hb⟩
  have P_9 := Lib.hid (P_8.out.after hN'.out hb)
  have Q_9 := Lib.hid (Q_8.out.after hN'.out hb)
  have I_9 := Lib.hid (I_8.out.after hb)
  have Z_9 := Lib.hid (Z_8.out.after hN'.out hb)
  have R_9 := Lib.hid (R_8.out.after hb)
  have B_9 := Lib.hid (Below.after B_8.out hb)
  clear P_8 Q_8 I_8 Z_8 R_8 B_8
  clear hb
  go_wp2_with fail
  refine (cZ.out w9 _ Q_9.out).mono ?_
  rintro e w10 ⟨rfl, hb⟩
  have P_10 := Lib.hid (P_9.out.after hN'.out hb)
  have Q_10 := Lib.hid (Q_9.out.after hN'.out hb)
  have I_10 := Lib.hid (I_9.out.after hb)
  have Z_10 := Lib.hid (Z_9.out.after hN'.out hb)
  have R_10 := Lib.hid (R_9.out.after hb)
  have B_10 := Lib.hid (Below.after B_9.out hb)
  clear P_9 Q_9 I_9 Z_9 R_9 B_9
  clear hb
  go_wp2_with fail
  refine (cA.out w10 B_10.out).mono ?_
  rintro e w11 ⟨rfl, hb⟩
  have P_11 := Lib.hid (P_10.out.after hN'.out hb)
  have Q_11 := Lib.hid (Q_10.out.after hN'.out hb)
  have I_11 := Lib.hid (I_10.out.after hb)
  have Z_11 := Lib.hid (Z_10.out.after hN'.out hb)
  have R_11 := Lib.hid (R_10.out.after hb)
  have B_11 := Lib.hid (Below.after B_10.out hb)
  clear P_10 Q_10 I_10 Z_10 R_10 B_10
  clear hb
  go_wp2
  go_ret
  exact ⟨rfl, B_11.out⟩
set_option maxHeartbeats 4000000 in
theorem treapOne_D (hN : NodeSays Nd) (hS : TreapSays Nd T) (A A2 : Option Addr) (n c n2 c2 : Nat) (l m : List Bd) (t u : Tr) (w : World) (hT : T w) (h : LongAt w A n c false) (h2 : LongAt w A2 n2 c2 false) (ht : TreeIn w A n c l t) (hu : TreeIn w A2 n2 c2 m u) (g1 : unlB t.items = true) (g2 : mayP t = true) (g3 : mayP u = true) (g4 : t.items ≠ u.items) : Calls Tryd.prog 6 #[.slice A n c, .slice A2 n2 c2] w fun e w' => e = .returned (.bool true) ∧ Below w.heap.size w w' := by
  have c0 := Lib.hid (h w (Below.refl _ _))
  have c1 := Lib.hid (h2 w (Below.refl _ _))
  have cM := Lib.hid (ht.make hN)
  have cM2 := Lib.hid (hu.make hN)
  have hts : t.size ≤ 400 := by rw [ht.size]; exact ht.few
  have hus : u.size ≤ 400 := by rw [hu.size]; exact hu.few
  have hn := ht.size
  have hn2 := hu.size
  have cA : Hid (∀ W, Below w.heap.size w W → Calls Tryd.prog 8 #[] W fun e w' => e = .returned (.bool true) ∧ Below W.heap.size W w') := fun W hb => alive20_any hN hS W (hS.now w W hT hb)
  have cI : Hid (∀ W p, TreeAt Nd W W.heap.size t p → Calls Tryd.prog 15 #[.pointer p] W fun e w' => ∃ A c, e = .returned (.slice A n c) ∧ LieI w' w'.heap.size A n c t.items ∧ Below W.heap.size W w') := fun W p hp => by have := hS.items W t p hp (by omega); rw [hn] at this; exact this
  have cU : Hid (∀ W A c, LieI W W.heap.size A n c t.items → Calls Tryd.prog 25 #[.slice A n c] W fun e w' => e = .returned (.bool true) ∧ Below W.heap.size W w') := fun W A c h => g1 ▸ refUnlike20 A n c t.items W h
  have hun : Unl t.items := unlB_iff.1 g1
  have hone : (true : Bool) = true ↔ (ofT t.items).told = t.told := by
    have h1 := may_items t hun
    rw [g2] at h1
    exact h1.trans ⟨fun e => by rw [e], told_same⟩
  have hos : (ofT t.items).size ≤ 2000 := by rw [size_of, items_len]; omega
  have cX := Lib.hid (fun p A m c W hT hl => Is9_any hN (ofT t.items) p hos A m c t.told true hone W hT hl)
  have cF := Lib.hid (fun W A c (h : LieI W W.heap.size A n c t.items) => hS.of W A n c t.items (by omega) h)
  have cO := Lib.hid ht.of
  have cY : Hid (∀ W p, TreeAt Nd W W.heap.size t p → Calls Tryd.prog 12 #[.pointer p] W fun e w' => e = .returned (.bool true) ∧ Below W.heap.size W w') := fun W p hp => g2 ▸ hS.may W t p hp (by omega)
  have cZ : Hid (∀ W p, TreeAt Nd W W.heap.size u p → Calls Tryd.prog 12 #[.pointer p] W fun e w' => e = .returned (.bool true) ∧ Below W.heap.size W w') := fun W p hp => g3 ▸ hS.may W u p hp (by omega)
  have cJ : Hid (∀ W p, TreeAt Nd W W.heap.size u p → Calls Tryd.prog 15 #[.pointer p] W fun e w' => ∃ A c, e = .returned (.slice A n2 c) ∧ LieI w' w'.heap.size A n2 c u.items ∧ Below W.heap.size W w') := fun W p hp => by have := hS.items W u p hp (by omega); rw [hn2] at this; exact this
  have hsame : (false : Bool) = true ↔ t.items = u.items := ⟨fun e => (by cases e), fun e => absurd e g4⟩
  have cQ := Lib.hid (fun A A' c c' W h1 h2 => sameI20_any A A' n n2 c c' t.items u.items false hsame W h1 h2)
  obtain ⟨ot, hot⟩ : ∃ x, ofT t.items = x := ⟨_, rfl⟩
  rw [hot] at cX cF
  have hN' := Lib.hid hN
  clear hN hS hT h h2 ht hu hts hus hn hn2 g1 g2 g3 g4 hun hone hos hsame hot
  go_enter Tryd.func6, Tryd.ntmps6
  have B_0 := Lib.hid (Below.refl w.heap.size w)
  go_wp2_with fail
  refine (c0.out).mono ?_
  rintro e w' ⟨rfl, rfl⟩
  go_wp2_with fail
  refine (c1.out).mono ?_
  rintro e w' ⟨rfl, rfl⟩
  go_wp2_with fail
  refine (cM.out w B_0.out).mono ?_
  rintro e w1 ⟨p, rfl, hP, hb⟩
  have B_1 := Lib.hid (Below.after B_0.out hb)
  clear B_0
  have P_1 := Lib.hid hP
  clear hP
  clear hb
  go_wp2_with fail
  refine (cM2.out w1 B_1.out).mono ?_
  rintro e w2 ⟨q, rfl, hQ, hb⟩
  have P_2 := Lib.hid (P_1.out.after hN'.out hb)
  have B_2 := Lib.hid (Below.after B_1.out hb)
  clear P_1 B_1
  have Q_2 := Lib.hid hQ
  clear hQ
  clear hb
  go_wp2_with fail
  refine (cI.out w2 _ P_2.out).mono ?_
  rintro e w3 ⟨A3, c3, rfl, hI, hb⟩
  have P_3 := Lib.hid (P_2.out.after hN'.out hb)
  have Q_3 := Lib.hid (Q_2.out.after hN'.out hb)
  have B_3 := Lib.hid (Below.after B_2.out hb)
  clear P_2 Q_2 B_2
  have I_3 := Lib.hid hI
  clear hI
  clear hb
  go_wp2_with fail
  refine (cU.out w3 _ _ I_3.out).mono ?_
  rintro e w4 ⟨rfl, hb⟩
  have P_4 := Lib.hid (P_3.out.after hN'.out hb)
  have Q_4 := Lib.hid (Q_3.out.after hN'.out hb)
  have I_4 := Lib.hid (I_3.out.after hb)
  have B_4 := Lib.hid (Below.after B_3.out hb)
  clear P_3 Q_3 I_3 B_3
  clear hb
  go_wp2_with fail
  refine (cY.out w4 _ P_4.out).mono ?_
  rintro e w5 ⟨rfl, hb⟩
  have P_5 := Lib.hid (P_4.out.after hN'.out hb)
  have Q_5 := Lib.hid (Q_4.out.after hN'.out hb)
  have I_5 := Lib.hid (I_4.out.after hb)
  have B_5 := Lib.hid (Below.after B_4.out hb)
  clear P_4 Q_4 I_4 B_4
  clear hb
  go_wp2_with fail
  refine (cF.out w5 _ _ I_5.out).mono ?_
  rintro e w6 ⟨z, rfl, hZ, hb⟩
  have P_6 := Lib.hid (P_5.out.after hN'.out hb)
  have Q_6 := Lib.hid (Q_5.out.after hN'.out hb)
  have I_6 := Lib.hid (I_5.out.after hb)
  have B_6 := Lib.hid (Below.after B_5.out hb)
  clear P_5 Q_5 I_5 B_5
  have Z_6 := Lib.hid hZ
  clear hZ
  clear hb
  go_wp2_with fail
  refine (cO.out w6 B_6.out).mono ?_
  rintro e w7 ⟨A4, c4, rfl, hR, hb⟩
  have P_7 := Lib.hid (P_6.out.after hN'.out hb)
  have Q_7 := Lib.hid (Q_6.out.after hN'.out hb)
  have I_7 := Lib.hid (I_6.out.after hb)
  have Z_7 := Lib.hid (Z_6.out.after hN'.out hb)
  have B_7 := Lib.hid (Below.after B_6.out hb)
  clear P_6 Q_6 I_6 Z_6 B_6
  have R_7 := Lib.hid hR
  clear hR
  clear hb
  go_wp2_with fail
  refine (cX.out _ _ _ _ w7 Z_7.out R_7.out).mono ?_
  rintro e w8 ⟨rfl, hb⟩
  have P_8 := Lib.hid (P_7.out.after hN'.out hb)
  have Q_8 := Lib.hid (Q_7.out.after hN'.out hb)
  have I_8 := Lib.hid (I_7.out.after hb)
  have Z_8 := Lib.hid (Z_7.out.after hN'.out hb)
  have R_8 := Lib.hid (R_7.out.after hb)
  have B_8 := Lib.hid (Below.after B_7.out hb)
  clear P_7 Q_7 I_7 Z_7 R_7 B_7
  clear hb
  go_wp2_with fail
  refine (cY.out w8 _ P_8.out).mono ?_
  rintro e w9 ⟨rfl, hb⟩
  have P_9 := Lib.hid (P_8.out.after hN'.out hb)
  have Q_9 := Lib.hid (Q_8.out.after hN'.out hb)
  have I_9 := Lib.hid (I_8.out.after hb)
  have Z_9 := Lib.hid (Z_8.out.after hN'.out hb)
  have R_9 := Lib.hid (R_8.out.after hb)
  have B_9 := Lib.hid (Below.after B_8.out hb)
  clear P_8 Q_8 I_8 Z_8 R_8 B_8
  clear hb
  go_wp2_with fail
  refine (cZ.out w9 _ Q_9.out).mono ?_
  rintro e w10 ⟨rfl, hb⟩
  have P_10 := Lib.hid (P_9.out.after hN'.out hb)
  have Q_10 := Lib.hid (Q_9.out.after hN'.out hb)
  have I_10 := Lib.hid (I_9.out.after hb)
  have Z_10 := Lib.hid (Z_9.out.after hN'.out hb)
  have R_10 := Lib.hid (R_9.out.after hb)
  have B_10 := Lib.hid (Below.after B_9.out hb)
  clear P_9 Q_9 I_9 Z_9 R_9 B_9
  clear hb
  go_wp2_with fail
  refine (cJ.out w10 _ Q_10.out).mono ?_
  rintro e w11 ⟨A5, c5, rfl, hJ, hb⟩
  have P_11 := Lib.hid (P_10.out.after hN'.out hb)
  have Q_11 := Lib.hid (Q_10.out.after hN'.out hb)
  have I_11 := Lib.hid (I_10.out.after hb)
  have Z_11 := Lib.hid (Z_10.out.after hN'.out hb)
  have R_11 := Lib.hid (R_10.out.after hb)
  have B_11 := Lib.hid (Below.after B_10.out hb)
  clear P_10 Q_10 I_10 Z_10 R_10 B_10
  have J_11 := Lib.hid hJ
  clear hJ
  clear hb
  go_wp2_with fail
  refine (cQ.out _ _ _ _ w11 I_11.out J_11.out).mono ?_
  rintro e w12 ⟨rfl, hb⟩
  have P_12 := Lib.hid (P_11.out.after hN'.out hb)
  have Q_12 := Lib.hid (Q_11.out.after hN'.out hb)
  have I_12 := Lib.hid (I_11.out.after hb)
  have Z_12 := Lib.hid (Z_11.out.after hN'.out hb)
  have R_12 := Lib.hid (R_11.out.after hb)
  have J_12 := Lib.hid (J_11.out.after hb)
  have B_12 := Lib.hid (Below.after B_11.out hb)
  clear P_11 Q_11 I_11 Z_11 R_11 J_11 B_11
  clear hb
  go_wp2_with fail
  refine (cA.out w12 B_12.out).mono ?_
  rintro e w13 ⟨rfl, hb⟩
  have P_13 := Lib.hid (P_12.out.after hN'.out hb)
  have Q_13 := Lib.hid (Q_12.out.after hN'.out hb)
  have I_13 := Lib.hid (I_12.out.after hb)
  have Z_13 := Lib.hid (Z_12.out.after hN'.out hb)
  have R_13 := Lib.hid (R_12.out.after hb)
  have J_13 := Lib.hid (J_12.out.after hb)
  have B_13 := Lib.hid (Below.after B_12.out hb)
  clear P_12 Q_12 I_12 Z_12 R_12 J_12 B_12
  clear hb
  go_wp2
  go_ret
  exact ⟨rfl, B_13.out⟩
set_option maxHeartbeats 4000000 in
theorem treapOne_E (hN : NodeSays Nd) (hS : TreapSays Nd T) (A A2 : Option Addr) (n c n2 c2 : Nat) (l m : List Bd) (t u : Tr) (w : World) (hT : T w) (h : LongAt w A n c false) (h2 : LongAt w A2 n2 c2 false) (ht : TreeIn w A n c l t) (hu : TreeIn w A2 n2 c2 m u) (g1 : unlB t.items = true) (g2 : mayP t = true) (g3 : mayP u = true) (g4 : t.items = u.items) : Calls Tryd.prog 6 #[.slice A n c, .slice A2 n2 c2] w fun e w' => e = .returned (.bool true) ∧ Below w.heap.size w w' := by
  have c0 := Lib.hid (h w (Below.refl _ _))
  have c1 := Lib.hid (h2 w (Below.refl _ _))
  have cM := Lib.hid (ht.make hN)
  have cM2 := Lib.hid (hu.make hN)
  have hts : t.size ≤ 400 := by rw [ht.size]; exact ht.few
  have hus : u.size ≤ 400 := by rw [hu.size]; exact hu.few
  have hn := ht.size
  have hn2 := hu.size
  have cA : Hid (∀ W, Below w.heap.size w W → Calls Tryd.prog 8 #[] W fun e w' => e = .returned (.bool true) ∧ Below W.heap.size W w') := fun W hb => alive20_any hN hS W (hS.now w W hT hb)
  have cI : Hid (∀ W p, TreeAt Nd W W.heap.size t p → Calls Tryd.prog 15 #[.pointer p] W fun e w' => ∃ A c, e = .returned (.slice A n c) ∧ LieI w' w'.heap.size A n c t.items ∧ Below W.heap.size W w') := fun W p hp => by have := hS.items W t p hp (by omega); rw [hn] at this; exact this
  have cU : Hid (∀ W A c, LieI W W.heap.size A n c t.items → Calls Tryd.prog 25 #[.slice A n c] W fun e w' => e = .returned (.bool true) ∧ Below W.heap.size W w') := fun W A c h => g1 ▸ refUnlike20 A n c t.items W h
  have hun : Unl t.items := unlB_iff.1 g1
  have hone : (true : Bool) = true ↔ (ofT t.items).told = t.told := by
    have h1 := may_items t hun
    rw [g2] at h1
    exact h1.trans ⟨fun e => by rw [e], told_same⟩
  have hos : (ofT t.items).size ≤ 2000 := by rw [size_of, items_len]; omega
  have cX := Lib.hid (fun p A m c W hT hl => Is9_any hN (ofT t.items) p hos A m c t.told true hone W hT hl)
  have cF := Lib.hid (fun W A c (h : LieI W W.heap.size A n c t.items) => hS.of W A n c t.items (by omega) h)
  have cO := Lib.hid ht.of
  have cY : Hid (∀ W p, TreeAt Nd W W.heap.size t p → Calls Tryd.prog 12 #[.pointer p] W fun e w' => e = .returned (.bool true) ∧ Below W.heap.size W w') := fun W p hp => g2 ▸ hS.may W t p hp (by omega)
  have cZ : Hid (∀ W p, TreeAt Nd W W.heap.size u p → Calls Tryd.prog 12 #[.pointer p] W fun e w' => e = .returned (.bool true) ∧ Below W.heap.size W w') := fun W p hp => g3 ▸ hS.may W u p hp (by omega)
  have cJ : Hid (∀ W p, TreeAt Nd W W.heap.size u p → Calls Tryd.prog 15 #[.pointer p] W fun e w' => ∃ A c, e = .returned (.slice A n2 c) ∧ LieI w' w'.heap.size A n2 c u.items ∧ Below W.heap.size W w') := fun W p hp => by have := hS.items W u p hp (by omega); rw [hn2] at this; exact this
  have hsame : (true : Bool) = true ↔ t.items = u.items := ⟨fun _ => g4, fun _ => rfl⟩
  have cQ := Lib.hid (fun A A' c c' W h1 h2 => sameI20_any A A' n n2 c c' t.items u.items true hsame W h1 h2)
  have htu : t = u := by rw [← of_items t g2 hun, ← of_items u g3 (g4 ▸ hun), g4]
  have cO2 := Lib.hid hu.of
  have cV := Lib.hid (fun p A m c W hT hl => Is9_any hN t p (by omega) A m c u.told true ⟨fun _ => by rw [htu], fun _ => rfl⟩ W hT hl)
  obtain ⟨ot, hot⟩ : ∃ x, ofT t.items = x := ⟨_, rfl⟩
  rw [hot] at cX cF
  have hN' := Lib.hid hN
  clear hN hS hT h h2 ht hu hts hus hn hn2 g1 g2 g3 g4 hun hone hos hsame htu hot
  go_enter Tryd.func6, Tryd.ntmps6
  have B_0 := Lib.hid (Below.refl w.heap.size w)
  go_wp2_with fail
  refine (c0.out).mono ?_
  rintro e w' ⟨rfl, rfl⟩
  go_wp2_with fail
  refine (c1.out).mono ?_
  rintro e w' ⟨rfl, rfl⟩
  go_wp2_with fail
  refine (cM.out w B_0.out).mono ?_
  rintro e w1 ⟨p, rfl, hP, hb⟩
  have B_1 := Lib.hid (Below.after B_0.out hb)
  clear B_0
  have P_1 := Lib.hid hP
  clear hP
  clear hb
  go_wp2_with fail
  refine (cM2.out w1 B_1.out).mono ?_
  rintro e w2 ⟨q, rfl, hQ, hb⟩
  have P_2 := Lib.hid (P_1.out.after hN'.out hb)
  have B_2 := Lib.hid (Below.after B_1.out hb)
  clear P_1 B_1
  have Q_2 := Lib.hid hQ
  clear hQ
  clear hb
  go_wp2_with fail
  refine (cI.out w2 _ P_2.out).mono ?_
  rintro e w3 ⟨A3, c3, rfl, hI, hb⟩
  have P_3 := Lib.hid (P_2.out.after hN'.out hb)
  have Q_3 := Lib.hid (Q_2.out.after hN'.out hb)
  have B_3 := Lib.hid (Below.after B_2.out hb)
  clear P_2 Q_2 B_2
  have I_3 := Lib.hid hI
  clear hI
  clear hb
  go_wp2_with fail
  refine (cU.out w3 _ _ I_3.out).mono ?_
  rintro e w4 ⟨rfl, hb⟩
  have P_4 := Lib.hid (P_3.out.after hN'.out hb)
  have Q_4 := Lib.hid (Q_3.out.after hN'.out hb)
  have I_4 := Lib.hid (I_3.out.after hb)
  have B_4 := Lib.hid (Below.after B_3.out hb)
  clear P_3 Q_3 I_3 B_3
  clear hb
  go_wp2_with fail
  refine (cY.out w4 _ P_4.out).mono ?_
  rintro e w5 ⟨rfl, hb⟩
  have P_5 := Lib.hid (P_4.out.after hN'.out hb)
  have Q_5 := Lib.hid (Q_4.out.after hN'.out hb)
  have I_5 := Lib.hid (I_4.out.after hb)
  have B_5 := Lib.hid (Below.after B_4.out hb)
  clear P_4 Q_4 I_4 B_4
  clear hb
  go_wp2_with fail
  refine (cF.out w5 _ _ I_5.out).mono ?_
  rintro e w6 ⟨z, rfl, hZ, hb⟩
  have P_6 := Lib.hid (P_5.out.after hN'.out hb)
  have Q_6 := Lib.hid (Q_5.out.after hN'.out hb)
  have I_6 := Lib.hid (I_5.out.after hb)
  have B_6 := Lib.hid (Below.after B_5.out hb)
  clear P_5 Q_5 I_5 B_5
  have Z_6 := Lib.hid hZ
  clear hZ
  clear hb
  go_wp2_with fail
  refine (cO.out w6 B_6.out).mono ?_
  rintro e w7 ⟨A4, c4, rfl, hR, hb⟩
  have P_7 := Lib.hid (P_6.out.after hN'.out hb)
  have Q_7 := Lib.hid (Q_6.out.after hN'.out hb)
  have I_7 := Lib.hid (I_6.out.after hb)
  have Z_7 := Lib.hid (Z_6.out.after hN'.out hb)
  have B_7 := Lib.hid (Below.after B_6.out hb)
  clear P_6 Q_6 I_6 Z_6 B_6
  have R_7 := Lib.hid hR
  clear hR
  clear hb
  go_wp2_with fail
  refine (cX.out _ _ _ _ w7 Z_7.out R_7.out).mono ?_
  rintro e w8 ⟨rfl, hb⟩
  have P_8 := Lib.hid (P_7.out.after hN'.out hb)
  have Q_8 := Lib.hid (Q_7.out.after hN'.out hb)
  have I_8 := Lib.hid (I_7.out.after hb)
  have Z_8 := Lib.hid (Z_7.out.after hN'.out hb)
  have R_8 := Lib.hid (R_7.out.after hb)
  have B_8 := Lib.hid (Below.after B_7.out hb)
  clear P_7 Q_7 I_7 Z_7 R_7 B_7
  clear hb
  go_wp2_with fail
  refine (cY.out w8 _ P_8.out).mono ?_
  rintro e w9 ⟨rfl, hb⟩
  have P_9 := Lib.hid (P_8.out.after hN'.out hb)
  have Q_9 := Lib.hid (Q_8.out.after hN'.out hb)
  have I_9 := Lib.hid (I_8.out.after hb)
  have Z_9 := Lib.hid (Z_8.out.after hN'.out hb)
  have R_9 := Lib.hid (R_8.out.after hb)
  have B_9 := Lib.hid (Below.after B_8.out hb)
  clear P_8 Q_8 I_8 Z_8 R_8 B_8
  clear hb
  go_wp2_with fail
  refine (cZ.out w9 _ Q_9.out).mono ?_
  rintro e w10 ⟨rfl, hb⟩
  have P_10 := Lib.hid (P_9.out.after hN'.out hb)
  have Q_10 := Lib.hid (Q_9.out.after hN'.out hb)
  have I_10 := Lib.hid (I_9.out.after hb)
  have Z_10 := Lib.hid (Z_9.out.after hN'.out hb)
  have R_10 := Lib.hid (R_9.out.after hb)
  have B_10 := Lib.hid (Below.after B_9.out hb)
  clear P_9 Q_9 I_9 Z_9 R_9 B_9
  clear hb
  go_wp2_with fail
  refine (cJ.out w10 _ Q_10.out).mono ?_
  rintro e w11 ⟨A5, c5, rfl, hJ, hb⟩
  have P_11 := Lib.hid (P_10.out.after hN'.out hb)
  have Q_11 := Lib.hid (Q_10.out.after hN'.out hb)
  have I_11 := Lib.hid (I_10.out.after hb)
  have Z_11 := Lib.hid (Z_10.out.after hN'.out hb)
  have R_11 := Lib.hid (R_10.out.after hb)
  have B_11 := Lib.hid (Below.after B_10.out hb)
  clear P_10 Q_10 I_10 Z_10 R_10 B_10
  have J_11 := Lib.hid hJ
  clear hJ
  clear hb
  go_wp2_with fail
  refine (cQ.out _ _ _ _ w11 I_11.out J_11.out).mono ?_
  rintro e w12 ⟨rfl, hb⟩
  have P_12 := Lib.hid (P_11.out.after hN'.out hb)
  have Q_12 := Lib.hid (Q_11.out.after hN'.out hb)
  have I_12 := Lib.hid (I_11.out.after hb)
  have Z_12 := Lib.hid (Z_11.out.after hN'.out hb)
  have R_12 := Lib.hid (R_11.out.after hb)
  have J_12 := Lib.hid (J_11.out.after hb)
  have B_12 := Lib.hid (Below.after B_11.out hb)
  clear P_11 Q_11 I_11 Z_11 R_11 J_11 B_11
  clear hb
  go_wp2_with fail
  refine (cO2.out w12 B_12.out).mono ?_
  rintro e w13 ⟨A6, c6, rfl, hM, hb⟩
  have P_13 := Lib.hid (P_12.out.after hN'.out hb)
  have Q_13 := Lib.hid (Q_12.out.after hN'.out hb)
  have I_13 := Lib.hid (I_12.out.after hb)
  have Z_13 := Lib.hid (Z_12.out.after hN'.out hb)
  have R_13 := Lib.hid (R_12.out.after hb)
  have J_13 := Lib.hid (J_12.out.after hb)
  have B_13 := Lib.hid (Below.after B_12.out hb)
  clear P_12 Q_12 I_12 Z_12 R_12 J_12 B_12
  have M_13 := Lib.hid hM
  clear hM
  clear hb
  go_wp2_with fail
  refine (cV.out _ _ _ _ w13 P_13.out M_13.out).mono ?_
  rintro e w14 ⟨rfl, hb⟩
  have P_14 := Lib.hid (P_13.out.after hN'.out hb)
  have Q_14 := Lib.hid (Q_13.out.after hN'.out hb)
  have I_14 := Lib.hid (I_13.out.after hb)
  have Z_14 := Lib.hid (Z_13.out.after hN'.out hb)
  have R_14 := Lib.hid (R_13.out.after hb)
  have J_14 := Lib.hid (J_13.out.after hb)
  have M_14 := Lib.hid (M_13.out.after hb)
  have B_14 := Lib.hid (Below.after B_13.out hb)
  clear P_13 Q_13 I_13 Z_13 R_13 J_13 M_13 B_13
  clear hb
  go_wp2_with fail
  refine (cA.out w14 B_14.out).mono ?_
  rintro e w15 ⟨rfl, hb⟩
  have P_15 := Lib.hid (P_14.out.after hN'.out hb)
  have Q_15 := Lib.hid (Q_14.out.after hN'.out hb)
  have I_15 := Lib.hid (I_14.out.after hb)
  have Z_15 := Lib.hid (Z_14.out.after hN'.out hb)
  have R_15 := Lib.hid (R_14.out.after hb)
  have J_15 := Lib.hid (J_14.out.after hb)
  have M_15 := Lib.hid (M_14.out.after hb)
  have B_15 := Lib.hid (Below.after B_14.out hb)
  clear P_14 Q_14 I_14 Z_14 R_14 J_14 M_14 B_14
  clear hb
  go_wp2
  go_ret
  exact ⟨rfl, B_15.out⟩
theorem treapOne_any (hN : NodeSays Nd) (hS : TreapSays Nd T) (A : Option Addr) (n c : Nat) (l : List Bd) (hl : l.length = n) (hn : n ≤ c) (hc : c ≤ maxLen) (hz : A = none → c = 0) (A2 : Option Addr) (n2 c2 : Nat) (m : List Bd) (kl : m.length = n2) (kn : n2 ≤ c2) (kc : c2 ≤ maxLen) (kz : A2 = none → c2 = 0) (w : World) (hT : T w) (hr : Row w w.heap.size A (flat7 l)) (kr : Row w w.heap.size A2 (flat7 m)) : Calls Tryd.prog 6 #[.slice A n c, .slice A2 n2 c2] w fun e w' => e = .returned (.bool true) ∧ Below w.heap.size w w' := by
  rcases long_or hl hn hc hz hr with h | ⟨h, t, ht⟩
  · exact treapOne_long1 hN hS A A2 n c n2 c2 w hT h
  · rcases long_or kl kn kc kz kr with j | ⟨j, u, hu⟩
    · exact treapOne_long2 hN hS A A2 n c n2 c2 w hT h j
    · cases g1 : unlB t.items with
      | false => exact treapOne_A hN hS A A2 n c n2 c2 l m t u w hT h j ht hu g1
      | true =>
        cases g2 : mayP t with
        | false => exact treapOne_B hN hS A A2 n c n2 c2 l m t u w hT h j ht hu g1 g2
        | true =>
          cases g3 : mayP u with
          | false => exact treapOne_C hN hS A A2 n c n2 c2 l m t u w hT h j ht hu g1 g2 g3
          | true =>
            by_cases g4 : t.items = u.items
            · exact treapOne_E hN hS A A2 n c n2 c2 l m t u w hT h j ht hu g1 g2 g3 g4
            · exact treapOne_D hN hS A A2 n c n2 c2 l m t u w hT h j ht hu g1 g2 g3 g4
end Go.Proofs.YtcnkgddldhkddaaDoor
namespace Go.Proofs.YtcnkgddldhkddaaDoor
open Go.ChangeShapes Go.WideShapes Go.ChangeAt Go.RowKit

set_option maxRecDepth 100000 in
theorem treapOne_lifted (os : Os) (started : os.Started) (H : Type) (enc : TypeId × Value → H) :
    ReturnsInHanded {} Tryd.checked os 6 .any (fun w args => (Rows.treapOneSpec.pre enc Tryd.prog Tryd.f6 [] false w args ∧ laidMetH Tryd.prog laid20 w) ∧ sizedMet enc Tryd.prog Tryd.f6 (OpenSpec.ofChange Rows.treapOneSpec) false w args)
      (Rows.treapOneSpec.post enc Tryd.prog Tryd.f6 false true false false) := by
  refine returnsInHanded_of_change_and (C := Tryd.checked) (X := fun w _ => laidMetH Tryd.prog laid20 w) (fun _ _ _ hh h => h.of_heap hh) own started (by kernel_rfl) Tryd.func6
    (ChangeSpec.witness_shaped (enc := enc) (C := Tryd.checked) (os := os) (X := fun w _ => laidMetH Tryd.prog laid20 w) false (World.doorLaid Tryd.prog 400 os) #[.slice none 0 0, .slice none 0 0] 8 rfl (World.shaped_of_RefB (by kernel_rfl) (by kernel_rfl)) (by kernel_rfl) (by kernel_rfl) (by kernel_rfl) (door_met os _)) ?_
  intro W base args ds gs before hval0 hW _ _ hL _
  have hval : ∀ (j : Nat) t v, Tryd.f6.params[j]? = some t → args[j]? = some v → Value.okWide Tryd.prog W .any base t v := hval0
  have hW' := hW
  obtain ⟨p, q, hA0, hV, rfl, hfz, hnd⟩ := hW
  have hA : DataW.TrodAll enc Tryd.prog W 0 (fun _ => true) true Tryd.f6.params.toList args.toList ds p := hA0
  rw [Tryd.params6] at hA hval
  obtain ⟨v0, vs0, d0, ds0, p0, q0, hargs, rfl, rfl, h0, r0⟩ := trodAll_cons hA
  obtain ⟨v1, vs1, d1, ds1, p1, q1, rfl, rfl, rfl, h1, r1⟩ := trodAll_cons r0
  obtain ⟨rfl, rfl, rfl⟩ := trodAll_nil r1
  obtain rfl : args = #[v0, v1] := by cases args; simp_all
  obtain ⟨rfl, rfl⟩ := trodVars_none hV
  have k0 := h0
  have lt0 : ∀ x ∈ p0, x.block < W.heap.size := by obtain ⟨m, hm⟩ := k0; exact DataW.trod_lt m _ _ _ hm
  obtain ⟨A0, n0, c0, l0, rfl, hl0, hn0, hc0, hz0, hr0⟩ := open_beads (hval 0 22 v0 rfl rfl) h0
  have k1 := h1
  have lt1 : ∀ x ∈ p1, x.block < W.heap.size := by obtain ⟨m, hm⟩ := k1; exact DataW.trod_lt m _ _ _ hm
  obtain ⟨A1, n1, c1, l1, rfl, hl1, hn1, hc1, hz1, hr1⟩ := open_beads (hval 1 22 v1 rfl rfl) h1
  obtain ⟨hz, hst⟩ := steps_of hL
  clear hA0 hval0
  refine (treapOne_any node_says (treap_says node_says) A0 n0 c0 l0 hl0 hn0 hc0 hz0 A1 n1 c1 l1 hl1 hn1 hc1 hz1 W ⟨hz, hst⟩ hr0 hr1).mono fun e W' ⟨he, bel⟩ => ?_
  subst he
  exact ⟨_, rfl, _, _, _, [], _, [], hW', trodAll_mk1 (shut_bool Tryd.underlying4 _), trodAll_cons_mk (Below.trod laidOut (by kernel_rfl) (of_decide_eq_true (by kernel_rfl)) k0 bel lt0) (trodAll_cons_mk (Below.trod laidOut (by kernel_rfl) (of_decide_eq_true (by kernel_rfl)) k1 bel lt1) trodAll_mk0), rfl, bel.frame _, fun h => by cases h⟩

theorem treapOne_row : Rows.TreapOneSaid :=
  OpenClaim.holds_of_wide 6 Tryd.f6 rfl rfl rfl rfl rfl rfl rfl ⟨rfl, rfl, rfl, rfl, rfl⟩ rfl rfl rfl rfl rfl (by kernel_rfl) Tryd.func6 (by kernel_rfl)
    (of_decide_eq_true (by kernel_rfl)) (by unfold Func.isWrapper; first | (rw [if_pos (by decide +kernel)]; kernel_rfl) | (rw [if_neg (by decide +kernel)]; exact ⟨rfl, rfl⟩))
    (fun os started H enc _ => treapOne_lifted os started H enc)

theorem treapOne_holds : Rows.TreapOneCardSaid :=
  Claim7.holds_tied_plain_at .later [] [.data] true Rows.treapOneCard.stood.harness false
    treapOne_row (fun _ h => by cases h) (by kernel_rfl) (fun _ h => by cases h) treapOne_row_tie rfl ⟨rfl, rfl⟩ (by kernel_rfl) rfl
    (fun f fn hf hfn => by
      obtain rfl : f = 6 := Option.some.inj ((show Tryd.prog.funcNamed Rows.treapOneRow.func = some 6 by kernel_rfl).symm.trans hf) |>.symm
      obtain rfl : fn = Tryd.f6 := (Option.some.inj (Tryd.func6.symm.trans hfn)).symm
      exact ⟨by kernel_rfl, fun j t ht => by
        rw [Tryd.params6] at ht
        have hm : t ∈ [22, 22] := by simpa using Array.mem_of_getElem? ht
        have hall : ([22, 22].all fun u => !Tryd.prog.wantsStandIn u) = true := by kernel_rfl
        exact (show Tryd.prog.wantsStandIn t = false by simpa using List.all_eq_true.1 hall t hm)⟩)
    (by kernel_rfl)
#print axioms treapOne_holds
end Go.Proofs.YtcnkgddldhkddaaDoor
