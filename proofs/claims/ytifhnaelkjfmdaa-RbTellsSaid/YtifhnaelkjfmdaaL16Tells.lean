/- Layer 16: the statement RbTells, walked. Made by wip/gen/layer16laws.py. -/
import Derived.Test.YtifhnaelkjfmdaaL16Alive
namespace Go.Proofs.Ytifhnaelkjfmdaa
open Go.RowKit Go.Proofs.Treem
set_option maxRecDepth 100000
variable {Nd : NdP}

set_option maxHeartbeats 2000000 in
theorem rbTells_long (hN : NodeSays Nd) (hS : RbSays Nd) (A : Option Addr) (n c : Nat) (w : World) (h : LongAt w A n c true) : Calls Try.prog 14 #[.slice A n c] w fun e w' => e = .returned (.bool true) ∧ Below w.heap.size w w' := by
  have c0 := Lib.hid (h w (Below.refl _ _))
  have c9 := Lib.hid (alive16_any hN hS w)
  clear h hN hS
  go_enter Try.func14, Try.ntmps14
  go_wp2_with fail
  refine c0.out.mono ?_
  rintro e w' ⟨rfl, rfl⟩
  go_wp2_with fail
  refine c9.out.mono ?_
  rintro e w1 ⟨rfl, hb⟩
  have b1 := Lib.hid hb
  clear hb
  go_wp2
  go_ret
  exact ⟨rfl, b1.out⟩
set_option maxHeartbeats 4000000 in
theorem rbTells_yes (hN : NodeSays Nd) (hS : RbSays Nd) (A : Option Addr) (n c : Nat) (l : List Bd) (t : Tr) (w : World) (h : LongAt w A n c false) (ht : TreeIn w A n c l t) : Calls Try.prog 14 #[.slice A n c] w fun e w' => e = .returned (.bool true) ∧ Below w.heap.size w w' := by
  have c0 := Lib.hid (h w (Below.refl _ _))
  have cM := Lib.hid (ht.make hN)
  have h4 : t.size ≤ 400 := by rw [ht.size]; exact ht.few
  have h5 : n ≤ 5000 := by rw [← ht.size]; omega
  have cA : Hid (∀ W, Calls Try.prog 60 #[] W fun e w' => e = .returned (.bool true) ∧ Below W.heap.size W w') := fun W => alive16_any hN hS W
  have cC : Hid (∀ W p, TreeAt Nd W W.heap.size t p → Calls Try.prog 61 #[.pointer p] W fun e w' => e = .returned (.tuple #[nI (placeR t), nI (errR t)]) ∧ Below W.heap.size W w') := fun W p hp => hS.check W t p hp (by omega)
  have cD : Hid (∀ W, Below w.heap.size w W → Calls Try.prog 62 #[.slice A n c] W fun e w' => e = .returned (.tuple #[nI (placeR t), nI (errR t)]) ∧ Below W.heap.size W w') := fun W hb => refCheck16 t A n c w.heap.size l ht.pre ht.size h5 W hb.size (ht.lie.next hb)
  have cP : Hid (∀ W p, TreeAt Nd W W.heap.size t p → Calls Try.prog 63 #[.pointer p] W fun e w' => e = .returned (.bool (partR t)) ∧ Below W.heap.size W w') := fun W p hp => hS.part W t p hp (by omega)
  have cQ : Hid (∀ W, Below w.heap.size w W → Calls Try.prog 64 #[.slice A n c] W fun e w' => e = .returned (.bool (partR t)) ∧ Below W.heap.size W w') := fun W hb => refPart16 t A n c w.heap.size l ht.pre ht.size h5 W hb.size (ht.lie.next hb)
  have cE : Hid (∀ W p, TreeAt Nd W W.heap.size t p → Calls Try.prog 65 #[.pointer p] W fun e w' => e = .returned (.bool (mayR t)) ∧ Below W.heap.size W w') := fun W p hp => hS.may W t p hp (by omega)
  have cF : Hid (∀ W, Below w.heap.size w W → Calls Try.prog 66 #[.slice A n c] W fun e w' => e = .returned (.bool (mayR t)) ∧ Below W.heap.size W w') := fun W hb => refMay16 t A n c w.heap.size l ht.pre ht.size h5 W hb.size (ht.lie.next hb)
  have cR : Hid (∀ W p, TreeAt Nd W W.heap.size t p → Calls Try.prog 67 #[.pointer p] W fun e w' => e = .returned (.bool (redR t)) ∧ Below W.heap.size W w') := fun W p hp => hS.red W t p hp
  have cS : Hid (∀ W, Below w.heap.size w W → Calls Try.prog 68 #[.slice A n c] W fun e w' => e = .returned (.bool (redR t)) ∧ W = w') := fun W hb => refRed16 t A n c w.heap.size l ht.pre W (ht.lie.next hb)
  have cH : Hid (∀ W p, TreeAt Nd W W.heap.size t p → Calls Try.prog 69 #[.pointer p] W fun e w' => e = .returned (nI (highR t)) ∧ Below W.heap.size W w') := fun W p hp => hS.high W t p hp
  have cI : Hid (∀ W, Below w.heap.size w W → Calls Try.prog 70 #[.slice A n c] W fun e w' => e = .returned (.int .u64 (highR t : Int)) ∧ W = w') := fun W hb => refHigh16 t A n c w.heap.size l ht.pre W (ht.lie.next hb)
  have cK : Hid (∀ W p, TreeAt Nd W W.heap.size t p → Calls Try.prog 71 #[.pointer p] W fun e w' => e = .returned (.int .i64 (rankR t).toInt) ∧ Below W.heap.size W w') := fun W p hp => hS.rank W t p hp
  have cL : Hid (∀ W, Below w.heap.size w W → Calls Try.prog 72 #[.slice A n c] W fun e w' => e = .returned (.int .i64 (rankR t).toInt) ∧ Below W.heap.size W w') := fun W hb => refRank16 t A n c l ht.pre h5 W (LieB.more (ht.lie.next hb) hb.size)
  have hh := high_lt t
  obtain ⟨x, hx⟩ : ∃ x, placeR t = x := ⟨_, rfl⟩
  obtain ⟨f, hf⟩ : ∃ f, errR t = f := ⟨_, rfl⟩
  obtain ⟨m, hm⟩ : ∃ m, mayR t = m := ⟨_, rfl⟩
  obtain ⟨q, hq⟩ : ∃ m, partR t = m := ⟨_, rfl⟩
  obtain ⟨r, hr⟩ : ∃ m, redR t = m := ⟨_, rfl⟩
  obtain ⟨H, hH⟩ : ∃ m, highR t = m := ⟨_, rfl⟩
  obtain ⟨R, hR⟩ : ∃ R, (rankR t).toInt = R := ⟨_, rfl⟩
  rw [hx, hf] at cC cD
  rw [hm] at cE cF
  rw [hq] at cP cQ
  rw [hr] at cR cS
  rw [hH] at cH cI hh
  rw [hR] at cK cL
  have wr : IntKind.i64.wrap (H : Int) = (H : Int) := IntWalk.i64_in _ (by omega)
  have hN' := Lib.hid hN
  clear hx hf hm hq hr hH hR hN hS h ht h4 h5 hh
  go_enter Try.func14, Try.ntmps14
  have B_0 := Lib.hid (Below.refl w.heap.size w)
  go_wp2_with fail
  refine (c0.out).mono ?_
  rintro e w' ⟨rfl, rfl⟩
  go_wp2_with fail
  refine (cM.out w B_0.out).mono ?_
  rintro e w1 ⟨p, rfl, hP, hb⟩
  have B_1 := Lib.hid (Below.after B_0.out hb)
  clear B_0
  have P_1 := Lib.hid hP
  clear hP
  clear hb
  go_wp2_with fail
  refine (cC.out w1 _ P_1.out).mono ?_
  rintro e w2 ⟨rfl, hb⟩
  have P_2 := Lib.hid (P_1.out.after hN'.out hb)
  have B_2 := Lib.hid (Below.after B_1.out hb)
  clear P_1 B_1
  clear hb
  go_wp2_with fail
  refine (cD.out w2 B_2.out).mono ?_
  rintro e w3 ⟨rfl, hb⟩
  have P_3 := Lib.hid (P_2.out.after hN'.out hb)
  have B_3 := Lib.hid (Below.after B_2.out hb)
  clear P_2 B_2
  clear hb
  go_wp2_with fail
  refine (cP.out w3 _ P_3.out).mono ?_
  rintro e w4 ⟨rfl, hb⟩
  have P_4 := Lib.hid (P_3.out.after hN'.out hb)
  have B_4 := Lib.hid (Below.after B_3.out hb)
  clear P_3 B_3
  clear hb
  go_wp2_with fail
  refine (cQ.out w4 B_4.out).mono ?_
  rintro e w5 ⟨rfl, hb⟩
  have P_5 := Lib.hid (P_4.out.after hN'.out hb)
  have B_5 := Lib.hid (Below.after B_4.out hb)
  clear P_4 B_4
  clear hb
  go_wp2_with fail
  refine (cE.out w5 _ P_5.out).mono ?_
  rintro e w6 ⟨rfl, hb⟩
  have P_6 := Lib.hid (P_5.out.after hN'.out hb)
  have B_6 := Lib.hid (Below.after B_5.out hb)
  clear P_5 B_5
  clear hb
  go_wp2_with fail
  refine (cF.out w6 B_6.out).mono ?_
  rintro e w7 ⟨rfl, hb⟩
  have P_7 := Lib.hid (P_6.out.after hN'.out hb)
  have B_7 := Lib.hid (Below.after B_6.out hb)
  clear P_6 B_6
  clear hb
  go_wp2_with fail
  refine (cR.out w7 _ P_7.out).mono ?_
  rintro e w8 ⟨rfl, hb⟩
  have P_8 := Lib.hid (P_7.out.after hN'.out hb)
  have B_8 := Lib.hid (Below.after B_7.out hb)
  clear P_7 B_7
  clear hb
  go_wp2_with fail
  refine (cS.out w8 B_8.out).mono ?_
  rintro e w' ⟨rfl, rfl⟩
  go_wp2_with fail
  refine (cH.out w8 _ P_8.out).mono ?_
  rintro e w9 ⟨rfl, hb⟩
  have P_9 := Lib.hid (P_8.out.after hN'.out hb)
  have B_9 := Lib.hid (Below.after B_8.out hb)
  clear P_8 B_8
  clear hb
  go_wp2_with fail
  refine (cI.out w9 B_9.out).mono ?_
  rintro e w' ⟨rfl, rfl⟩
  go_wp2_with fail
  refine (cK.out w9 _ P_9.out).mono ?_
  rintro e w10 ⟨rfl, hb⟩
  have P_10 := Lib.hid (P_9.out.after hN'.out hb)
  have B_10 := Lib.hid (Below.after B_9.out hb)
  clear P_9 B_9
  clear hb
  go_wp2_with fail
  refine (cL.out w10 B_10.out).mono ?_
  rintro e w11 ⟨rfl, hb⟩
  have P_11 := Lib.hid (P_10.out.after hN'.out hb)
  have B_11 := Lib.hid (Below.after B_10.out hb)
  clear P_10 B_10
  clear hb
  go_wp2_with fail
  refine (cA.out w11).mono ?_
  rintro e w12 ⟨rfl, hb⟩
  have P_12 := Lib.hid (P_11.out.after hN'.out hb)
  have B_12 := Lib.hid (Below.after B_11.out hb)
  clear P_11 B_11
  clear hb
  go_wp2
  go_ret
  exact ⟨rfl, B_12.out⟩
theorem rbTells_any (hN : NodeSays Nd) (hS : RbSays Nd) (A : Option Addr) (n c : Nat) (l : List Bd) (hl : l.length = n) (hn : n ≤ c) (hc : c ≤ maxLen) (hz : A = none → c = 0) (w : World) (hr : Row w w.heap.size A (flat7 l)) : Calls Try.prog 14 #[.slice A n c] w fun e w' => e = .returned (.bool true) ∧ Below w.heap.size w w' := by
  rcases long_or hl hn hc hz hr with h | ⟨h, t, ht⟩
  · exact rbTells_long hN hS A n c w h
  · exact rbTells_yes hN hS A n c l t w h ht
end Go.Proofs.Ytifhnaelkjfmdaa
