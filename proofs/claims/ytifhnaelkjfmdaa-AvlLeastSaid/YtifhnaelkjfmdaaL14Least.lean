/- Layer 14: the statement AvlLeast, walked. Made by wip/gen/layer14laws.py. -/
import Derived.Test.YtifhnaelkjfmdaaL14Makes
namespace Go.Proofs.Ytifhnaelkjfmdaa
open Go.RowKit Go.Proofs.Treem
set_option maxRecDepth 100000
variable {Nd : NdP}

/-- the least tree of a height, made -/
def MadeT (Nd : NdP) (t : Tr) (w : World) (e : Ending) (w' : World) : Prop := ∃ p, e = .returned (.pointer p) ∧ TreeAt Nd w' w'.heap.size t p ∧ Below w.heap.size w w'
theorem least_none (z : Int) (hz : z ≤ 0) (w : World) : Calls Try.prog 48 #[.int .i64 z] w (MadeT Nd .e w) := by
  have d1 : decide (z ≤ 0) = true := decide_eq_true hz
  go_enter Try.func48, Try.ntmps48
  go_wp2
  go_ret
  exact ⟨none, rfl, rfl, Below.refl _ _⟩
set_option maxHeartbeats 4000000 in
/-- one step: two that were made, and a node above them -/
theorem least_step (hN : NodeSays Nd) (hS : AvlSays Nd) (h : Nat) (h1 : 1 ≤ h) (h5 : h ≤ 100) (a b : Int) (ha : a = (h : Int) - 2) (hb : b = (h : Int) - 1) (t u : Tr)
    (c1 : ∀ w, Calls Try.prog 48 #[.int .i64 a] w (MadeT Nd t w)) (c2 : ∀ w, Calls Try.prog 48 #[.int .i64 b] w (MadeT Nd u w)) (w : World) : Calls Try.prog 48 #[nI h] w (MadeT Nd (makeA t (BitVec.ofNat 64 h) 1#64 u) w) := by
  have C1 := Lib.hid c1
  have C2 := Lib.hid c2
  have wr1 : IntKind.i64.wrap ((h : Int) - 2) = a := by rw [ha]; exact IntWalk.i64_in _ (by omega)
  have wr2 : IntKind.i64.wrap ((h : Int) - 1) = b := by rw [hb]; exact IntWalk.i64_in _ (by omega)
  have d1 : decide ((h : Int) ≤ 0) = false := decide_eq_false (by omega)
  have d2 : ¬ h = 0 := by omega
  have d3 : ¬ h ≤ 0 := by omega
  have kk : K (BitVec.ofNat 64 h) = nI h := by show Value.int .i64 _ = _; rw [size_bits (by omega)]
  have c3 : Hid (∀ W p q, TreeAt Nd W W.heap.size t p → TreeAt Nd W W.heap.size u q → Calls Try.prog 43 #[.pointer p, nI h, .int .i64 1, .pointer q] W (Stood Nd W p q t u (BitVec.ofNat 64 h) 1#64 (tagA t u))) := fun W p q k1 k2 => by
    have := AvlSays.makeT hN hS W t u p q (BitVec.ofNat 64 h) 1#64 k1 k2
    rw [kk] at this
    exact this
  have hN' := Lib.hid hN
  clear c1 c2 ha hb hN hS kk h1
  go_enter Try.func48, Try.ntmps48
  go_wp2_with fail
  refine (C1.out w).mono ?_
  rintro e w1 ⟨p, rfl, hT, hb⟩
  have T1 := Lib.hid hT
  have b1 := Lib.hid hb
  clear hT hb C1
  go_wp2_with fail
  refine (C2.out w1).mono ?_
  rintro e w2 ⟨q, rfl, hU, hb⟩
  have T2 := Lib.hid (T1.out.after hN'.out hb)
  have U2 := Lib.hid hU
  have b2 := Lib.hid (Below.after b1.out hb)
  clear hU hb C2 b1 T1
  go_wp2_with fail
  refine (c3.out w2 _ _ T2.out U2.out).mono ?_
  rintro e w3 ⟨a, rfl, -, -, hT, hb⟩
  have T3 := Lib.hid hT
  have b3 := Lib.hid (Below.after b2.out hb)
  clear hT hb c3 b2 T2 U2
  go_wp2
  go_ret
  exact ⟨some a, rfl, T3.out, b3.out⟩
theorem leastT_two (h : Nat) : leastT (h + 2) = makeA (leastT h) (BitVec.ofNat 64 (h + 2)) 1#64 (leastT (h + 1)) := by rw [leastT]
theorem leastT_one : leastT 1 = makeA .e (BitVec.ofNat 64 1) 1#64 .e := by rw [leastT]
theorem leastT_zero : leastT 0 = .e := by rw [leastT]
theorem least14 (hN : NodeSays Nd) (hS : AvlSays Nd) (h : Nat) : (h ≤ 100 → ∀ w : World, Calls Try.prog 48 #[nI h] w (MadeT Nd (leastT h) w)) ∧ (h + 1 ≤ 100 → ∀ w : World, Calls Try.prog 48 #[nI (h + 1)] w (MadeT Nd (leastT (h + 1)) w)) := by
  induction h with
  | zero =>
    refine ⟨fun _ w => ?_, fun _ w => ?_⟩
    · rw [leastT_zero]; exact least_none 0 (by omega) w
    · rw [leastT_one]
      exact least_step hN hS 1 (by omega) (by omega) (-1) 0 (by omega) (by omega) .e .e (fun w => least_none (-1) (by omega) w) (fun w => least_none 0 (by omega) w) w
  | succ h ih =>
    refine ⟨ih.2, fun hh w => ?_⟩
    rw [leastT_two h]
    have k1 := ih.1 (by omega)
    have k2 := ih.2 (by omega)
    obtain ⟨t, ht⟩ : ∃ t, leastT h = t := ⟨_, rfl⟩
    obtain ⟨u, hu⟩ : ∃ u, leastT (h + 1) = u := ⟨_, rfl⟩
    rw [ht] at k1 ⊢
    rw [hu] at k2 ⊢
    exact least_step hN hS (h + 2) (by omega) (by omega) (h : Int) ((h + 1 : Nat) : Int) (by omega) (by omega) t u k1 k2 w
set_option maxHeartbeats 4000000 in
theorem avlLeast_any (hN : NodeSays Nd) (hS : AvlSays Nd) (x : Nat) (hx : x ≤ 255) (w : World) : Calls Try.prog 10 #[.int .u8 (x : Int)] w fun e w' => e = .returned (.bool true) ∧ Below w.heap.size w w' := by
  obtain ⟨k, hk⟩ : ∃ k, x % 15 = k := ⟨_, rfl⟩
  have hk14 : k ≤ 14 := by omega
  obtain ⟨a1, a2, a3⟩ := leastT_is k (by omega)
  have hf := least_few (show k ≤ 20 by omega)
  have cA : Hid (∀ W, Calls Try.prog 34 #[] W fun e w' => e = .returned (.bool true) ∧ Below W.heap.size W w') := fun W => alive14_any hN hS W
  have cM := Lib.hid (fun w => (least14 hN hS k).1 (by omega) w)
  have cC : Hid (∀ W p, TreeAt Nd W W.heap.size (leastT k) p → Calls Try.prog 35 #[.pointer p] W fun e w' => e = .returned (.tuple #[nI (leastN k), .int .i64 0]) ∧ Below W.heap.size W w') := fun W p hp => by
    have hk3 := least_le hk14
    have := hS.check W _ p hp (by rw [a3]; exact Nat.le_trans hk3 (by decide))
    rw [place_all _ a2, a3, a2] at this
    exact this
  have cL : Hid (∀ W, Calls Try.prog 47 #[nI k] W fun e w' => e = .returned (nI (leastN k)) ∧ W = w') := fun W => refLeast14 k (by omega) W
  have cS : Hid (∀ W p, TreeAt Nd W W.heap.size (leastT k) p → Calls Try.prog 46 #[.pointer p] W fun e w' => e = .returned (nI (leastN k)) ∧ Below W.heap.size W w') := fun W p hp => by
    have hk3 := least_le hk14
    have := hp.look.size hN
    rw [a3, show K (BitVec.ofNat 64 (leastN k)) = nI (leastN k) from by show Value.int .i64 _ = _; rw [size_bits (Nat.le_trans hk3 (by decide))]] at this
    exact this
  have cG : Hid (∀ W p, TreeAt Nd W W.heap.size (leastT k) p → Calls Try.prog 41 #[.pointer p] W fun e w' => e = .returned (nI k) ∧ Below W.heap.size W w') := fun W p hp => by
    have := hS.rank W _ p hp
    rw [show K (leastT k).tag = nI k from by show Value.int .i64 _ = _; rw [BitVec.toInt_eq_toNat_of_lt (by omega), a1]] at this
    exact this
  obtain ⟨N, hNN⟩ : ∃ N, leastN k = N := ⟨_, rfl⟩
  rw [hNN] at cC cL cS
  obtain ⟨t, ht⟩ : ∃ t, leastT k = t := ⟨_, rfl⟩
  rw [ht] at cM cC cS cG
  have r1 : (x : Int).tmod 15 = (k : Int) := by
    rw [Int.tmod_eq_emod_of_nonneg (by omega)]
    omega
  have r2 : IntKind.i64.wrap (k : Int) = (k : Int) := IntWalk.i64_in _ (by omega)
  have hN' := Lib.hid hN
  clear hk hk14 a1 a2 a3 hf hN hS hNN ht
  go_enter Try.func10, Try.ntmps10
  go_wp2_with fail
  refine (cM.out w).mono ?_
  rintro e w0 ⟨p, rfl, hP, hb⟩
  have P_0 := Lib.hid hP
  have B_0 := Lib.hid hb
  clear hP hb
  go_wp2_with fail
  refine (cC.out w0 _ P_0.out).mono ?_
  rintro e w1 ⟨rfl, hb⟩
  have P_1 := Lib.hid (P_0.out.after hN'.out hb)
  have B_1 := Lib.hid (Below.after B_0.out hb)
  clear P_0 B_0
  clear hb
  go_wp2_with fail
  refine (cL.out w1).mono ?_
  rintro e w' ⟨rfl, rfl⟩
  go_wp2_with fail
  refine (cS.out w1 _ P_1.out).mono ?_
  rintro e w2 ⟨rfl, hb⟩
  have P_2 := Lib.hid (P_1.out.after hN'.out hb)
  have B_2 := Lib.hid (Below.after B_1.out hb)
  clear P_1 B_1
  clear hb
  go_wp2_with fail
  refine (cG.out w2 _ P_2.out).mono ?_
  rintro e w3 ⟨rfl, hb⟩
  have P_3 := Lib.hid (P_2.out.after hN'.out hb)
  have B_3 := Lib.hid (Below.after B_2.out hb)
  clear P_2 B_2
  clear hb
  go_wp2_with fail
  refine (cA.out w3).mono ?_
  rintro e w4 ⟨rfl, hb⟩
  have P_4 := Lib.hid (P_3.out.after hN'.out hb)
  have B_4 := Lib.hid (Below.after B_3.out hb)
  clear P_3 B_3
  clear hb
  go_wp2
  go_ret
  exact ⟨rfl, B_4.out⟩
end Go.Proofs.Ytifhnaelkjfmdaa
