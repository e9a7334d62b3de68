/- Layer 11: the statement ShapeLists, walked. Made by wip/gen/layer11laws.py. -/
import Derived.Test.YtlhnjgmjkoafpaaDoorL11Makes
import Derived.Test.YtlhnjgmjkoafpaaDoorL9Same
namespace Go.Proofs.YtlhnjgmjkoafpaaDoor
open Go.RowKit Go.Proofs.Treem
set_option maxRecDepth 100000
variable {Nd : NdP} {T : World → Prop}

set_option maxHeartbeats 2000000 in
theorem shapeLists_long1 (hN : NodeSays Nd) (hS : ShapeSays Nd T) (hX : TextSays T) (A A2 : Option Addr) (n c n2 c2 : Nat) (w : World) (h : LongAt w A n c true) (hT : T w) : Calls Tryd.prog 3 #[.slice A n c, .slice A2 n2 c2] w fun e w' => e = .returned (.bool true) ∧ Below w.heap.size w w' := by
  have c0 := Lib.hid (h w (Below.refl _ _))
  clear h
  have c9 := Lib.hid (alive11_any hN hS hX w hT)
  clear hN hS hX hT
  go_enter Tryd.func3, Tryd.ntmps3
  go_wp2_with fail
  refine c0.out.mono ?_
  rintro e w' ⟨rfl, rfl⟩
  go_wp2_with fail
  refine c9.out.mono ?_
  rintro e w1 ⟨rfl, hb⟩
  have b1 := Lib.hid hb
  clear hb
  go_wp2
  go_ret
  exact ⟨rfl, b1.out⟩
set_option maxHeartbeats 2000000 in
theorem shapeLists_long2 (hN : NodeSays Nd) (hS : ShapeSays Nd T) (hX : TextSays T) (A A2 : Option Addr) (n c n2 c2 : Nat) (w : World) (h : LongAt w A n c false) (h2 : LongAt w A2 n2 c2 true) (hT : T w) : Calls Tryd.prog 3 #[.slice A n c, .slice A2 n2 c2] w fun e w' => e = .returned (.bool true) ∧ Below w.heap.size w w' := by
  have c0 := Lib.hid (h w (Below.refl _ _))
  have c1 := Lib.hid (h2 w (Below.refl _ _))
  clear h h2
  have c9 := Lib.hid (alive11_any hN hS hX w hT)
  clear hN hS hX hT
  go_enter Tryd.func3, Tryd.ntmps3
  go_wp2_with fail
  refine c0.out.mono ?_
  rintro e w' ⟨rfl, rfl⟩
  go_wp2_with fail
  refine c1.out.mono ?_
  rintro e w' ⟨rfl, rfl⟩
  go_wp2_with fail
  refine c9.out.mono ?_
  rintro e w1 ⟨rfl, hb⟩
  have b1 := Lib.hid hb
  clear hb
  go_wp2
  go_ret
  exact ⟨rfl, b1.out⟩
set_option maxHeartbeats 4000000 in
theorem shapeLists_yes (hN : NodeSays Nd) (hS : ShapeSays Nd T) (hX : TextSays T) (A A2 : Option Addr) (n c n2 c2 : Nat) (l m : List Bd) (t u : Tr) (w : World) (h : LongAt w A n c false) (h2 : LongAt w A2 n2 c2 false) (ht : TreeIn w A n c l t) (hu : TreeIn w A2 n2 c2 m u) (hT : T w) : Calls Tryd.prog 3 #[.slice A n c, .slice A2 n2 c2] w fun e w' => e = .returned (.bool true) ∧ Below w.heap.size w w' := by
  have c0 := Lib.hid (h w (Below.refl _ _))
  have c1 := Lib.hid (h2 w (Below.refl _ _))
  have cM := Lib.hid (ht.make hN)
  have cM2 := Lib.hid (hu.make hN)
  have cO := Lib.hid ht.of
  have cO2 := Lib.hid hu.of
  have hts : t.size ≤ 400 := by rw [ht.size]; exact ht.few
  have hus : u.size ≤ 400 := by rw [hu.size]; exact hu.few
  have cL : Hid (∀ W p, TreeAt Nd W W.heap.size t p → Calls Tryd.prog 13 #[.pointer p] W fun e w' => ∃ A c, e = .returned (.slice A n c) ∧ LieB w' w'.heap.size A n c t.told ∧ Below W.heap.size W w') := fun W p hp => by
    have := hS.list W t p hp (by omega)
    rw [ht.size] at this; exact this
  have cI : Hid (∀ W p, Below w.heap.size w W → TreeAt Nd W W.heap.size t p → Calls Tryd.prog 14 #[.pointer p] W fun e w' => e = .returned (sV t.line) ∧ Below W.heap.size W w') := fun W p hb hp => hS.line W t p (hX.next hT hb) hp (by omega)
  have cJ : Hid (∀ W, Below w.heap.size w W → Calls Tryd.prog 15 #[.slice A n c] W fun e w' => e = .returned (sV t.line) ∧ Below W.heap.size W w') := fun W hb => refLine11 hX t A n c w.heap.size l ht.pre ht.size (by rw [← ht.size]; omega) W hb.size (hX.next hT hb) (ht.lie.next hb)
  obtain ⟨b, hb⟩ : ∃ b : Bool, b = true ↔ t = u := by
    classical
    exact ⟨decide (t = u), by simp⟩
  have cS : Hid (∀ W p q, TreeAt Nd W W.heap.size t p → TreeAt Nd W W.heap.size u q → Calls Tryd.prog 16 #[.pointer p, .pointer q] W fun e w' => e = .returned (.bool b) ∧ Below W.heap.size W w') := fun W p q h1 h2 => hS.same W t u p q b hb h1 h2 (by omega) (by omega)
  have cS1 : Hid (∀ W p q, TreeAt Nd W W.heap.size t p → TreeAt Nd W W.heap.size t q → Calls Tryd.prog 16 #[.pointer p, .pointer q] W fun e w' => e = .returned (.bool true) ∧ Below W.heap.size W w') := fun W p q h1 h2 => hS.same W t t p q true (by simp) h1 h2 (by omega) (by omega)
  have hbt : b = true ↔ t.told = u.told := hb.trans ⟨fun e => by rw [e], told_inj⟩
  have hbt' := Lib.hid hbt
  have cA : Hid (∀ W, Below w.heap.size w W → Calls Tryd.prog 9 #[] W fun e w' => e = .returned (.bool true) ∧ Below W.heap.size W w') := fun W hb => alive11_any hN hS hX W (hX.next hT hb)
  have hN' := Lib.hid hN
  have b_0 := Lib.hid (Below.refl w.heap.size w)
  obtain ⟨z, hz⟩ : ∃ z, t.line = z := ⟨_, rfl⟩
  rw [hz] at cI cJ
  clear hN hS hX hT h h2 ht hu hb hbt hts hus hz
  go_enter Tryd.func3, Tryd.ntmps3
  go_wp2_with fail
  refine c0.out.mono ?_
  rintro e w' ⟨rfl, rfl⟩
  go_wp2_with fail
  refine c1.out.mono ?_
  rintro e w' ⟨rfl, rfl⟩
  go_wp2_with fail
  refine (cM.out w b_0.out).mono ?_
  rintro e w_1 ⟨p, rfl, hP, hb⟩
  have P_1 := Lib.hid hP
  have b_1 := Lib.hid (Below.after b_0.out hb)
  clear hb b_0 hP
  go_wp2_with fail
  refine (cM2.out w_1 b_1.out).mono ?_
  rintro e w_2 ⟨q, rfl, hQ, hb⟩
  have P_2 := Lib.hid (P_1.out.after hN'.out hb)
  have Q_2 := Lib.hid hQ
  have b_2 := Lib.hid (Below.after b_1.out hb)
  clear hb b_1 P_1 hQ
  go_wp2_with fail
  refine (cO.out w_2 b_2.out).mono ?_
  rintro e w_3 ⟨A3, c3, rfl, hx, hb⟩
  have P_3 := Lib.hid (P_2.out.after hN'.out hb)
  have Q_3 := Lib.hid (Q_2.out.after hN'.out hb)
  have X_3 := Lib.hid hx
  have b_3 := Lib.hid (Below.after b_2.out hb)
  clear hb b_2 P_2 Q_2 hx
  go_wp2_with fail
  refine (cO2.out w_3 b_3.out).mono ?_
  rintro e w_4 ⟨A4, c4, rfl, hy, hb⟩
  have P_4 := Lib.hid (P_3.out.after hN'.out hb)
  have Q_4 := Lib.hid (Q_3.out.after hN'.out hb)
  have X_4 := Lib.hid (X_3.out.after hb)
  have Y_4 := Lib.hid hy
  have b_4 := Lib.hid (Below.after b_3.out hb)
  clear hb b_3 P_3 Q_3 X_3 hy
  go_wp2_with fail
  refine (cL.out w_4 _ P_4.out).mono ?_
  rintro e w_5 ⟨A5, c5, rfl, hz, hb⟩
  have P_5 := Lib.hid (P_4.out.after hN'.out hb)
  have Q_5 := Lib.hid (Q_4.out.after hN'.out hb)
  have X_5 := Lib.hid (X_4.out.after hb)
  have Y_5 := Lib.hid (Y_4.out.after hb)
  have Z_5 := Lib.hid hz
  have b_5 := Lib.hid (Below.after b_4.out hb)
  clear hb b_4 P_4 Q_4 X_4 Y_4 hz
  go_wp2_with fail
  refine (same9_any A5 A3 n n c5 c3 t.told t.told true (by simp) w_5 Z_5.out X_5.out).mono ?_
  rintro e w_6 ⟨rfl, hb⟩
  have P_6 := Lib.hid (P_5.out.after hN'.out hb)
  have Q_6 := Lib.hid (Q_5.out.after hN'.out hb)
  have X_6 := Lib.hid (X_5.out.after hb)
  have Y_6 := Lib.hid (Y_5.out.after hb)
  have b_6 := Lib.hid (Below.after b_5.out hb)
  clear hb b_5 P_5 Q_5 X_5 Y_5
  go_wp2_with fail
  refine (cI.out w_6 _ b_6.out P_6.out).mono ?_
  rintro e w_7 ⟨rfl, hb⟩
  have P_7 := Lib.hid (P_6.out.after hN'.out hb)
  have Q_7 := Lib.hid (Q_6.out.after hN'.out hb)
  have X_7 := Lib.hid (X_6.out.after hb)
  have Y_7 := Lib.hid (Y_6.out.after hb)
  have b_7 := Lib.hid (Below.after b_6.out hb)
  clear hb b_6 P_6 Q_6 X_6 Y_6
  go_wp2_with fail
  refine (cJ.out w_7 b_7.out).mono ?_
  rintro e w_8 ⟨rfl, hb⟩
  have P_8 := Lib.hid (P_7.out.after hN'.out hb)
  have Q_8 := Lib.hid (Q_7.out.after hN'.out hb)
  have X_8 := Lib.hid (X_7.out.after hb)
  have Y_8 := Lib.hid (Y_7.out.after hb)
  have b_8 := Lib.hid (Below.after b_7.out hb)
  clear hb b_7 P_7 Q_7 X_7 Y_7
  go_wp2_with fail
  refine (cS.out w_8 _ _ P_8.out Q_8.out).mono ?_
  rintro e w_9 ⟨rfl, hb⟩
  have P_9 := Lib.hid (P_8.out.after hN'.out hb)
  have Q_9 := Lib.hid (Q_8.out.after hN'.out hb)
  have X_9 := Lib.hid (X_8.out.after hb)
  have Y_9 := Lib.hid (Y_8.out.after hb)
  have b_9 := Lib.hid (Below.after b_8.out hb)
  clear hb b_8 P_8 Q_8 X_8 Y_8
  go_wp2_with fail
  refine (same9_any A3 A4 n n2 c3 c4 t.told u.told b hbt'.out w_9 X_9.out Y_9.out).mono ?_
  rintro e w_10 ⟨rfl, hb⟩
  have P_10 := Lib.hid (P_9.out.after hN'.out hb)
  have b_10 := Lib.hid (Below.after b_9.out hb)
  clear hb b_9 P_9
  go_wp2_with fail
  refine (cM.out w_10 b_10.out).mono ?_
  rintro e w_11 ⟨p2, rfl, hP, hb⟩
  have P_11 := Lib.hid (P_10.out.after hN'.out hb)
  have R_11 := Lib.hid hP
  have b_11 := Lib.hid (Below.after b_10.out hb)
  clear hb b_10 P_10 hP
  go_wp2_with fail
  refine (cS1.out w_11 _ _ P_11.out R_11.out).mono ?_
  rintro e w_12 ⟨rfl, hb⟩
  have b_12 := Lib.hid (Below.after b_11.out hb)
  clear hb b_11
  go_wp2_with fail
  refine (cA.out w_12 b_12.out).mono ?_
  rintro e w_13 ⟨rfl, hb⟩
  have b_13 := Lib.hid (Below.after b_12.out hb)
  clear hb b_12
  go_wp2
  go_ret
  exact ⟨rfl, b_13.out⟩
end Go.Proofs.YtlhnjgmjkoafpaaDoor
