/- Layer 14: the statement AvlTells, walked. Made by wip/gen/layer14laws.py. -/
import Derived.Test.YtifhnaelkjfmdaaL14Says
namespace Go.Proofs.Ytifhnaelkjfmdaa
open Go.RowKit Go.Proofs.Treem
set_option maxRecDepth 100000
variable {Nd : NdP}

set_option maxHeartbeats 2000000 in
theorem avlTells_long (hN : NodeSays Nd) (hS : AvlSays Nd) (A : Option Addr) (n c : Nat) (w : World) (h : LongAt w A n c true) : Calls Try.prog 7 #[.slice A n c] w fun e w' => e = .returned (.bool true) ∧ Below w.heap.size w w' := by
  have c0 := Lib.hid (h w (Below.refl _ _))
  have c9 := Lib.hid (alive14_any hN hS w)
  clear h hN hS
  go_enter Try.func7, Try.ntmps7
  go_wp2_with fail
  refine c0.out.mono ?_
  rintro e w' ⟨rfl, rfl⟩
  go_wp2_with fail
  refine c9.out.mono ?_
  rintro e w1 ⟨rfl, hb⟩
  have b1 := Lib.hid hb
  clear hb
  go_wp2
  go_ret
  exact ⟨rfl, b1.out⟩
set_option maxHeartbeats 4000000 in
theorem avlTells_none (hN : NodeSays Nd) (hS : AvlSays Nd) (A : Option Addr) (n c : Nat) (l : List Bd) (w : World) (h : LongAt w A n c false) (ht : TreeIn w A n c l .e) : Calls Try.prog 7 #[.slice A n c] w fun e w' => e = .returned (.bool true) ∧ Below w.heap.size w w' := by
  obtain ⟨t, ht0⟩ : ∃ t, (show Tr from .e) = t := ⟨_, rfl⟩
  have ht1 : TreeIn w A n c l t := ht0 ▸ ht
  have c0 := Lib.hid (h w (Below.refl _ _))
  have cM := Lib.hid (ht1.make hN)
  have h4 : t.size ≤ 400 := by rw [ht1.size]; exact ht1.few
  have cA : Hid (∀ W, Calls Try.prog 34 #[] W fun e w' => e = .returned (.bool true) ∧ Below W.heap.size W w') := fun W => alive14_any hN hS W
  have cC := Lib.hid (fun W p hp => hS.check W t p hp (by omega))
  have cD : Hid (∀ W, Below w.heap.size w W → Calls Try.prog 36 #[.slice A n c] W fun e w' => e = .returned (.tuple #[nI (placeA t), nI (errA t)]) ∧ Below W.heap.size W w') := fun W hb => refCheck14 t A n c w.heap.size l ht1.pre ht1.size (by rw [← ht1.size]; omega) W hb.size (ht1.lie.next hb)
  have cE := Lib.hid (fun W p hp => hS.may W t p hp (by omega))
  have cF : Hid (∀ W, Below w.heap.size w W → Calls Try.prog 40 #[.slice A n c] W fun e w' => e = .returned (.bool (mayA t)) ∧ Below W.heap.size W w') := fun W hb => refMay14 t A n c w.heap.size l ht1.pre ht1.size (by rw [← ht1.size]; omega) W hb.size (ht1.lie.next hb)
  have cG := Lib.hid (fun W p hp => hS.rank W t p hp)
  have cH : Hid (∀ W, Below w.heap.size w W → Calls Try.prog 38 #[.slice A n c] W fun e w' => e = .returned (.int .u64 (t.tag.toNat : Int)) ∧ W = w') := fun W hb => refTag14 t A n c w.heap.size l ht1.pre W (ht1.lie.next hb)
  have cI := Lib.hid (fun W p hp => hS.lean W t p hp)
  have eT := i_of_u t.tag
  obtain ⟨x, hx⟩ : ∃ x, placeA t = x := ⟨_, rfl⟩
  obtain ⟨f, hf⟩ : ∃ f, errA t = f := ⟨_, rfl⟩
  obtain ⟨m, hm⟩ : ∃ m, mayA t = m := ⟨_, rfl⟩
  obtain ⟨T, hT⟩ : ∃ T, (t.tag.toNat : Int) = T := ⟨_, rfl⟩
  rw [hx, hf] at cC cD
  rw [hm] at cE cF
  rw [hT] at cH eT
  have cG : Hid (∀ W p, TreeAt Nd W W.heap.size t p → Calls Try.prog 41 #[.pointer p] W fun e w' => e = .returned (.int .i64 t.tag.toInt) ∧ Below W.heap.size W w') := cG.out
  have cI : Hid (∀ W p, TreeAt Nd W W.heap.size t p → Calls Try.prog 42 #[.pointer p] W fun e w' => e = .returned (.int .i64 (leanA t).toInt) ∧ Below W.heap.size W w') := cI.out
  obtain ⟨R, hR⟩ : ∃ R, t.tag.toInt = R := ⟨_, rfl⟩
  rw [hR] at cG eT
  have hz : (leanA t).toInt = 0 := by rw [← ht0]; rfl
  have hn1 : n = 0 := by rw [← ht.size]; rfl
  subst hn1
  obtain ⟨Z, hZ⟩ : ∃ Z, (leanA t).toInt = Z := ⟨_, rfl⟩
  rw [hZ] at cI hz
  have hN' := Lib.hid hN
  clear hx hf hm hT hR hZ hN hS h ht ht1 h4 ht0
  subst hz
  go_enter Try.func7, Try.ntmps7
  have B_0 := Lib.hid (Below.refl w.heap.size w)
  go_wp2_with fail
  refine (c0.out).mono ?_
  rintro e w' ⟨rfl, rfl⟩
  go_wp2_with fail
  refine (cM.out w B_0.out).mono ?_
  rintro e w1 ⟨p, rfl, hP, hb⟩
  have B_1 := Lib.hid (Below.after B_0.out hb)
  clear B_0
  have P_1 := Lib.hid hP
  clear hP
  clear hb
  go_wp2_with fail
  refine (cC.out w1 _ P_1.out).mono ?_
  rintro e w2 ⟨rfl, hb⟩
  have P_2 := Lib.hid (P_1.out.after hN'.out hb)
  have B_2 := Lib.hid (Below.after B_1.out hb)
  clear P_1 B_1
  clear hb
  go_wp2_with fail
  refine (cD.out w2 B_2.out).mono ?_
  rintro e w3 ⟨rfl, hb⟩
  have P_3 := Lib.hid (P_2.out.after hN'.out hb)
  have B_3 := Lib.hid (Below.after B_2.out hb)
  clear P_2 B_2
  clear hb
  go_wp2_with fail
  refine (cE.out w3 _ P_3.out).mono ?_
  rintro e w4 ⟨rfl, hb⟩
  have P_4 := Lib.hid (P_3.out.after hN'.out hb)
  have B_4 := Lib.hid (Below.after B_3.out hb)
  clear P_3 B_3
  clear hb
  go_wp2_with fail
  refine (cF.out w4 B_4.out).mono ?_
  rintro e w5 ⟨rfl, hb⟩
  have P_5 := Lib.hid (P_4.out.after hN'.out hb)
  have B_5 := Lib.hid (Below.after B_4.out hb)
  clear P_4 B_4
  clear hb
  go_wp2_with fail
  refine (cG.out w5 _ P_5.out).mono ?_
  rintro e w6 ⟨rfl, hb⟩
  have P_6 := Lib.hid (P_5.out.after hN'.out hb)
  have B_6 := Lib.hid (Below.after B_5.out hb)
  clear P_5 B_5
  clear hb
  go_wp2_with fail
  refine (cH.out w6 B_6.out).mono ?_
  rintro e w' ⟨rfl, rfl⟩
  go_wp2_with fail
  refine (cI.out w6 _ P_6.out).mono ?_
  rintro e w7 ⟨rfl, hb⟩
  have P_7 := Lib.hid (P_6.out.after hN'.out hb)
  have B_7 := Lib.hid (Below.after B_6.out hb)
  clear P_6 B_6
  clear hb
  go_wp2_with fail
  refine (cA.out w7).mono ?_
  rintro e w8 ⟨rfl, hb⟩
  have P_8 := Lib.hid (P_7.out.after hN'.out hb)
  have B_8 := Lib.hid (Below.after B_7.out hb)
  clear P_7 B_7
  clear hb
  go_wp2
  go_ret
  exact ⟨rfl, B_8.out⟩
set_option maxHeartbeats 4000000 in
theorem avlTells_yes (hN : NodeSays Nd) (hS : AvlSays Nd) (A : Option Addr) (n c : Nat) (l : List Bd) (tl tr : Tr) (k v g : BitVec 64) (w : World) (h : LongAt w A n c false) (ht : TreeIn w A n c l (.n tl k v g tr)) : Calls Try.prog 7 #[.slice A n c] w fun e w' => e = .returned (.bool true) ∧ Below w.heap.size w w' := by
  obtain ⟨t, ht0⟩ : ∃ t, (show Tr from (.n tl k v g tr)) = t := ⟨_, rfl⟩
  have ht1 : TreeIn w A n c l t := ht0 ▸ ht
  have c0 := Lib.hid (h w (Below.refl _ _))
  have cM := Lib.hid (ht1.make hN)
  have h4 : t.size ≤ 400 := by rw [ht1.size]; exact ht1.few
  have cA : Hid (∀ W, Calls Try.prog 34 #[] W fun e w' => e = .returned (.bool true) ∧ Below W.heap.size W w') := fun W => alive14_any hN hS W
  have cC := Lib.hid (fun W p hp => hS.check W t p hp (by omega))
  have cD : Hid (∀ W, Below w.heap.size w W → Calls Try.prog 36 #[.slice A n c] W fun e w' => e = .returned (.tuple #[nI (placeA t), nI (errA t)]) ∧ Below W.heap.size W w') := fun W hb => refCheck14 t A n c w.heap.size l ht1.pre ht1.size (by rw [← ht1.size]; omega) W hb.size (ht1.lie.next hb)
  have cE := Lib.hid (fun W p hp => hS.may W t p hp (by omega))
  have cF : Hid (∀ W, Below w.heap.size w W → Calls Try.prog 40 #[.slice A n c] W fun e w' => e = .returned (.bool (mayA t)) ∧ Below W.heap.size W w') := fun W hb => refMay14 t A n c w.heap.size l ht1.pre ht1.size (by rw [← ht1.size]; omega) W hb.size (ht1.lie.next hb)
  have cG := Lib.hid (fun W p hp => hS.rank W t p hp)
  have cH : Hid (∀ W, Below w.heap.size w W → Calls Try.prog 38 #[.slice A n c] W fun e w' => e = .returned (.int .u64 (t.tag.toNat : Int)) ∧ W = w') := fun W hb => refTag14 t A n c w.heap.size l ht1.pre W (ht1.lie.next hb)
  have cI := Lib.hid (fun W p hp => hS.lean W t p hp)
  have eT := i_of_u t.tag
  obtain ⟨x, hx⟩ : ∃ x, placeA t = x := ⟨_, rfl⟩
  obtain ⟨f, hf⟩ : ∃ f, errA t = f := ⟨_, rfl⟩
  obtain ⟨m, hm⟩ : ∃ m, mayA t = m := ⟨_, rfl⟩
  obtain ⟨T, hT⟩ : ∃ T, (t.tag.toNat : Int) = T := ⟨_, rfl⟩
  rw [hx, hf] at cC cD
  rw [hm] at cE cF
  rw [hT] at cH eT
  have cG : Hid (∀ W p, TreeAt Nd W W.heap.size t p → Calls Try.prog 41 #[.pointer p] W fun e w' => e = .returned (.int .i64 t.tag.toInt) ∧ Below W.heap.size W w') := cG.out
  have cI : Hid (∀ W p, TreeAt Nd W W.heap.size t p → Calls Try.prog 42 #[.pointer p] W fun e w' => e = .returned (.int .i64 (leanA t).toInt) ∧ Below W.heap.size W w') := cI.out
  obtain ⟨R, hR⟩ : ∃ R, t.tag.toInt = R := ⟨_, rfl⟩
  rw [hR] at cG eT
  have hz : (leanA t).toInt = (tr.tag - tl.tag).toInt := by rw [← ht0]; rfl
  have hn1 : n = 1 + tl.size + tr.size := by rw [← ht.size, Tr.size]
  have cP := Lib.hid (fun W hb h => parts9_any A n c w.heap.size l tl tr k v g ht.pre W hb h (by have := ht.few; omega))
  have cL : Hid (LieB w w.heap.size A n c l) := ht.lie
  have cX := Lib.hid (fun A c la hla W h => refTag14 tl A tl.size c w.heap.size la hla W h)
  have cY := Lib.hid (fun A c la hla W h => refTag14 tr A tr.size c w.heap.size la hla W h)
  have hg : ∀ x, G64 x = .int .u64 (x.toNat : Int) := fun x => rfl
  rw [hg] at cX cY
  have e1 := u_sub tr.tag tl.tag
  have e2 := i_of_u (tr.tag - tl.tag)
  rw [← hz] at e2
  obtain ⟨P, hP⟩ : ∃ P, (tl.tag.toNat : Int) = P := ⟨_, rfl⟩
  obtain ⟨Q, hQ⟩ : ∃ Q, (tr.tag.toNat : Int) = Q := ⟨_, rfl⟩
  obtain ⟨U, hU⟩ : ∃ U, ((tr.tag - tl.tag).toNat : Int) = U := ⟨_, rfl⟩
  rw [hP, hQ, hU] at e1
  rw [hU] at e2
  rw [hP] at cX
  rw [hQ] at cY
  have d1 : 0 < n := by omega
  obtain ⟨Z, hZ⟩ : ∃ Z, (leanA t).toInt = Z := ⟨_, rfl⟩
  rw [hZ] at cI hz e2
  have hN' := Lib.hid hN
  clear hx hf hm hT hR hZ hN hS h ht ht1 h4 hz hn1 hg hP hQ hU ht0
  
  go_enter Try.func7, Try.ntmps7
  have B_0 := Lib.hid (Below.refl w.heap.size w)
  go_wp2_with fail
  refine (c0.out).mono ?_
  rintro e w' ⟨rfl, rfl⟩
  go_wp2_with fail
  refine (cM.out w B_0.out).mono ?_
  rintro e w1 ⟨p, rfl, hP, hb⟩
  have B_1 := Lib.hid (Below.after B_0.out hb)
  clear B_0
  have P_1 := Lib.hid hP
  clear hP
  clear hb
  go_wp2_with fail
  refine (cC.out w1 _ P_1.out).mono ?_
  rintro e w2 ⟨rfl, hb⟩
  have P_2 := Lib.hid (P_1.out.after hN'.out hb)
  have B_2 := Lib.hid (Below.after B_1.out hb)
  clear P_1 B_1
  clear hb
  go_wp2_with fail
  refine (cD.out w2 B_2.out).mono ?_
  rintro e w3 ⟨rfl, hb⟩
  have P_3 := Lib.hid (P_2.out.after hN'.out hb)
  have B_3 := Lib.hid (Below.after B_2.out hb)
  clear P_2 B_2
  clear hb
  have LL := Lib.hid (cL.out.next B_3.out)
  have sz := Lib.hid (B_3.out).size
  go_wp2_with fail
  refine (cP.out w3 sz.out LL.out).mono ?_
  rintro e w4 ⟨A1, c1, A2, c2, b, la, lb, rfl, rfl, hx, hla, hlb, K1, K2, hb⟩
  have P_4 := Lib.hid (P_3.out.after hN'.out hb)
  have B_4 := Lib.hid (Below.after B_3.out hb)
  clear P_3 B_3
  skip
  have hla' := Lib.hid hla
  have hlb' := Lib.hid hlb
  have K1' := Lib.hid (K1.next (hb.mono sz.out))
  have K2' := Lib.hid (K2.next (hb.mono sz.out))
  clear hx hla hlb K1 K2 hb LL sz
  have szz := Lib.hid (B_4.out).size
  go_upto_region 9 with (fail)
  obtain ⟨u5, hu⟩ : ∃ u, w4.alloc (.cells #[K b.key, K b.val, K b.sum, K b.size, G64 b.tag, .bool b.left, .bool b.right] 44) = u := ⟨_, rfl⟩
  have hb : Below w4.heap.size w4 u5 := hu ▸ (Below.refl _ _).alloc (Nat.le_refl _) _
  rw [hu]
  have P_5 := Lib.hid (P_4.out.after hN'.out hb)
  have B_5 := Lib.hid (Below.after B_4.out hb)
  clear P_4 B_4
  have k1 := Lib.hid (K1'.out.next (hb.mono szz.out))
  have k2 := Lib.hid (K2'.out.next (hb.mono szz.out))
  clear hb hu
  clear K1' K2' szz
  have t1 := Lib.hid (cX.out A1 c1 la hla'.out _ k1.out)
  have t2 := Lib.hid (cY.out A2 c2 lb hlb'.out _ k2.out)
  clear cX cY hla' hlb' k1 k2 cP
  go_wp2_with (first | (go_at_call 38; (with_reducible refine t1.out.mono ?_); rintro e w' ⟨rfl, rfl⟩) | (go_at_call 38; (with_reducible refine t2.out.mono ?_); rintro e w' ⟨rfl, rfl⟩) | fail)
  refine (cE.out u5 _ P_5.out).mono ?_
  rintro e w6 ⟨rfl, hb⟩
  have P_6 := Lib.hid (P_5.out.after hN'.out hb)
  have B_6 := Lib.hid (Below.after B_5.out hb)
  clear P_5 B_5
  clear hb
  go_wp2_with fail
  refine (cF.out w6 B_6.out).mono ?_
  rintro e w7 ⟨rfl, hb⟩
  have P_7 := Lib.hid (P_6.out.after hN'.out hb)
  have B_7 := Lib.hid (Below.after B_6.out hb)
  clear P_6 B_6
  clear hb
  go_wp2_with fail
  refine (cG.out w7 _ P_7.out).mono ?_
  rintro e w8 ⟨rfl, hb⟩
  have P_8 := Lib.hid (P_7.out.after hN'.out hb)
  have B_8 := Lib.hid (Below.after B_7.out hb)
  clear P_7 B_7
  clear hb
  go_wp2_with fail
  refine (cH.out w8 B_8.out).mono ?_
  rintro e w' ⟨rfl, rfl⟩
  go_wp2_with fail
  refine (cI.out w8 _ P_8.out).mono ?_
  rintro e w9 ⟨rfl, hb⟩
  have P_9 := Lib.hid (P_8.out.after hN'.out hb)
  have B_9 := Lib.hid (Below.after B_8.out hb)
  clear P_8 B_8
  clear hb
  go_wp2_with fail
  refine (cA.out w9).mono ?_
  rintro e w10 ⟨rfl, hb⟩
  have P_10 := Lib.hid (P_9.out.after hN'.out hb)
  have B_10 := Lib.hid (Below.after B_9.out hb)
  clear P_9 B_9
  clear hb
  go_wp2
  go_ret
  exact ⟨rfl, B_10.out⟩
theorem avlTells_any (hN : NodeSays Nd) (hS : AvlSays Nd) (A : Option Addr) (n c : Nat) (l : List Bd) (hl : l.length = n) (hn : n ≤ c) (hc : c ≤ maxLen) (hz : A = none → c = 0) (w : World) (hr : Row w w.heap.size A (flat7 l)) : Calls Try.prog 7 #[.slice A n c] w fun e w' => e = .returned (.bool true) ∧ Below w.heap.size w w' := by
  rcases long_or hl hn hc hz hr with h | ⟨h, t, ht⟩
  · exact avlTells_long hN hS A n c w h
  · cases t with
    | e => exact avlTells_none hN hS A n c l w h ht
    | n tl k v g tr => exact avlTells_yes hN hS A n c l tl tr k v g w h ht
end Go.Proofs.Ytifhnaelkjfmdaa
