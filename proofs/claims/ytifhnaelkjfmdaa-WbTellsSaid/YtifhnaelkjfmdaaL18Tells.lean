/- Layer 18: the statement WbTells, walked. Made by wip/gen/layer18laws.py. -/
import Derived.Test.YtifhnaelkjfmdaaL18Alive
namespace Go.Proofs.Ytifhnaelkjfmdaa
open Go.RowKit Go.Proofs.Treem
set_option maxRecDepth 100000
variable {Nd : NdP}

set_option maxHeartbeats 2000000 in
theorem wbTells_long (hN : NodeSays Nd) (hS : WbSays Nd) (A : Option Addr) (n c : Nat) (w : World) (h : LongAt w A n c true) : Calls Try.prog 3 #[.slice A n c] w fun e w' => e = .returned (.bool true) ∧ Below w.heap.size w w' := by
  have c0 := Lib.hid (h w (Below.refl _ _))
  have c9 := Lib.hid (alive18_any hN hS w)
  clear h hN hS
  go_enter Try.func3, Try.ntmps3
  go_wp2_with fail
  refine c0.out.mono ?_
  rintro e w' ⟨rfl, rfl⟩
  go_wp2_with fail
  refine c9.out.mono ?_
  rintro e w1 ⟨rfl, hb⟩
  have b1 := Lib.hid hb
  clear hb
  go_wp2
  go_ret
  exact ⟨rfl, b1.out⟩
set_option maxHeartbeats 4000000 in
theorem wbTells_yes (hN : NodeSays Nd) (hS : WbSays Nd) (A : Option Addr) (n c : Nat) (l : List Bd) (t : Tr) (w : World) (h : LongAt w A n c false) (ht : TreeIn w A n c l t) : Calls Try.prog 3 #[.slice A n c] w fun e w' => e = .returned (.bool true) ∧ Below w.heap.size w w' := by
  have c0 := Lib.hid (h w (Below.refl _ _))
  have cM := Lib.hid (ht.make hN)
  have h4 : t.size ≤ 400 := by rw [ht.size]; exact ht.few
  have h5 : n ≤ 5000 := by rw [← ht.size]; omega
  have hn := ht.size
  have cA : Hid (∀ W, Calls Try.prog 16 #[] W fun e w' => e = .returned (.bool true) ∧ Below W.heap.size W w') := fun W => alive18_any hN hS W
  have cC : Hid (∀ W p, TreeAt Nd W W.heap.size t p → Calls Try.prog 18 #[.pointer p] W fun e w' => e = .returned (.tuple #[nI (placeF rootW t), nI (errF rootW t)]) ∧ Below W.heap.size W w') := fun W p hp => hS.check W t p hp (by omega)
  have cD : Hid (∀ W, Below w.heap.size w W → Calls Try.prog 19 #[.slice A n c] W fun e w' => e = .returned (.tuple #[nI (placeF rootW t), nI (errF rootW t)]) ∧ Below W.heap.size W w') := fun W hb => refCheck18 t A n c w.heap.size l ht.pre ht.size h5 W hb.size (ht.lie.next hb)
  have cE : Hid (∀ W p, TreeAt Nd W W.heap.size t p → Calls Try.prog 20 #[.pointer p] W fun e w' => e = .returned (.bool (mayW t)) ∧ Below W.heap.size W w') := fun W p hp => hS.may W t p hp (by omega)
  have cF : Hid (∀ W, Below w.heap.size w W → Calls Try.prog 21 #[.slice A n c] W fun e w' => e = .returned (.bool (mayW t)) ∧ Below W.heap.size W w') := fun W hb => refMay18 t A n c w.heap.size l ht.pre ht.size h5 W hb.size (ht.lie.next hb)
  have cW : Hid (∀ W p, TreeAt Nd W W.heap.size t p → Calls Try.prog 22 #[.pointer p] W fun e w' => e = .returned (nI (n + 1)) ∧ Below W.heap.size W w') := fun W p hp => hn ▸ hS.weight W t p hp (by omega)
  have cR : Hid (∀ W p, TreeAt Nd W W.heap.size t p → Calls Try.prog 23 #[.pointer p] W fun e w' => e = .returned (nI (rankN n)) ∧ Below W.heap.size W w') := fun W p hp => hn ▸ hS.rank W t p hp (by omega)
  have cS : Hid (∀ W, Calls Try.prog 24 #[nI n] W fun e w' => e = .returned (nI (rankN n)) ∧ W = w') := fun W => refRank18 n (by omega) W
  obtain ⟨x, hx⟩ : ∃ x, placeF rootW t = x := ⟨_, rfl⟩
  obtain ⟨f, hf⟩ : ∃ f, errF rootW t = f := ⟨_, rfl⟩
  obtain ⟨m, hm⟩ : ∃ m, mayW t = m := ⟨_, rfl⟩
  obtain ⟨r, hr⟩ : ∃ m, rankN n = m := ⟨_, rfl⟩
  rw [hx, hf] at cC cD
  rw [hm] at cE cF
  rw [hr] at cR cS
  have wr : IntKind.i64.wrap ((n : Int) + 1) = (n : Int) + 1 := IntWalk.i64_in _ (by omega)
  have hN' := Lib.hid hN
  clear hx hf hm hr hN hS h ht h4 hn
  go_enter Try.func3, Try.ntmps3
  have B_0 := Lib.hid (Below.refl w.heap.size w)
  go_wp2_with fail
  refine (c0.out).mono ?_
  rintro e w' ⟨rfl, rfl⟩
  go_wp2_with fail
  refine (cM.out w B_0.out).mono ?_
  rintro e w1 ⟨p, rfl, hP, hb⟩
  have B_1 := Lib.hid (Below.after B_0.out hb)
  clear B_0
  have P_1 := Lib.hid hP
  clear hP
  clear hb
  go_wp2_with fail
  refine (cC.out w1 _ P_1.out).mono ?_
  rintro e w2 ⟨rfl, hb⟩
  have P_2 := Lib.hid (P_1.out.after hN'.out hb)
  have B_2 := Lib.hid (Below.after B_1.out hb)
  clear P_1 B_1
  clear hb
  go_wp2_with fail
  refine (cD.out w2 B_2.out).mono ?_
  rintro e w3 ⟨rfl, hb⟩
  have P_3 := Lib.hid (P_2.out.after hN'.out hb)
  have B_3 := Lib.hid (Below.after B_2.out hb)
  clear P_2 B_2
  clear hb
  go_wp2_with fail
  refine (cE.out w3 _ P_3.out).mono ?_
  rintro e w4 ⟨rfl, hb⟩
  have P_4 := Lib.hid (P_3.out.after hN'.out hb)
  have B_4 := Lib.hid (Below.after B_3.out hb)
  clear P_3 B_3
  clear hb
  go_wp2_with fail
  refine (cF.out w4 B_4.out).mono ?_
  rintro e w5 ⟨rfl, hb⟩
  have P_5 := Lib.hid (P_4.out.after hN'.out hb)
  have B_5 := Lib.hid (Below.after B_4.out hb)
  clear P_4 B_4
  clear hb
  go_wp2_with fail
  refine (cW.out w5 _ P_5.out).mono ?_
  rintro e w6 ⟨rfl, hb⟩
  have P_6 := Lib.hid (P_5.out.after hN'.out hb)
  have B_6 := Lib.hid (Below.after B_5.out hb)
  clear P_5 B_5
  clear hb
  go_wp2_with fail
  refine (cR.out w6 _ P_6.out).mono ?_
  rintro e w7 ⟨rfl, hb⟩
  have P_7 := Lib.hid (P_6.out.after hN'.out hb)
  have B_7 := Lib.hid (Below.after B_6.out hb)
  clear P_6 B_6
  clear hb
  go_wp2_with fail
  refine (cS.out w7).mono ?_
  rintro e w' ⟨rfl, rfl⟩
  go_wp2_with fail
  refine (cA.out w7).mono ?_
  rintro e w8 ⟨rfl, hb⟩
  have P_8 := Lib.hid (P_7.out.after hN'.out hb)
  have B_8 := Lib.hid (Below.after B_7.out hb)
  clear P_7 B_7
  clear hb
  go_wp2
  go_ret
  exact ⟨rfl, B_8.out⟩
theorem wbTells_any (hN : NodeSays Nd) (hS : WbSays Nd) (A : Option Addr) (n c : Nat) (l : List Bd) (hl : l.length = n) (hn : n ≤ c) (hc : c ≤ maxLen) (hz : A = none → c = 0) (w : World) (hr : Row w w.heap.size A (flat7 l)) : Calls Try.prog 3 #[.slice A n c] w fun e w' => e = .returned (.bool true) ∧ Below w.heap.size w w' := by
  rcases long_or hl hn hc hz hr with h | ⟨h, t, ht⟩
  · exact wbTells_long hN hS A n c w h
  · exact wbTells_yes hN hS A n c l t w h ht
end Go.Proofs.Ytifhnaelkjfmdaa
