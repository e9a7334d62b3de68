/- Proved here: for every row of beads the law TreapTells of layer 20 returns true (whether the tree that is made of them may be, or which node of it is the first that is wrong, its items, and whether its tags are those of its keys, are what the document says); it changes nothing that lay. Condition: package mix's table of steps holds what its initialiser lays (tied to the program's text by the card). -/
import Derived.Test.YtcnkgddldhkddaaDoorJE
import Derived.Test.YtcnkgddldhkddaaDoorJD
import Derived.Test.YtcnkgddldhkddaaDoorL9Says
import Derived.Test.YtcnkgddldhkddaaDoorRows
import Derived.Below
import Derived.ChangeOld
import Derived.Test.YtcnkgddldhkddaaDoorTie
import Derived.Test.YtcnkgddldhkddaaDoorCards
/- Layer 20: the statement TreapTells, walked. Made by wip/gen/layer20laws.py. -/
namespace Go.Proofs.YtcnkgddldhkddaaDoor
open Go.RowKit Go.Proofs.Treem
set_option maxRecDepth 100000
variable {Nd : NdP} {T : World → Prop}

set_option maxHeartbeats 2000000 in
theorem treapTells_long (hN : NodeSays Nd) (hS : TreapSays Nd T) (A : Option Addr) (n c : Nat) (w : World) (hT : T w) (h : LongAt w A n c true) : Calls Tryd.prog 3 #[.slice A n c] w fun e w' => e = .returned (.bool true) ∧ Below w.heap.size w w' := by
  have c0 := Lib.hid (h w (Below.refl _ _))
  have c9 := Lib.hid (alive20_any hN hS w hT)
  clear h hN hS
  go_enter Tryd.func3, Tryd.ntmps3
  go_wp2_with fail
  refine c0.out.mono ?_
  rintro e w' ⟨rfl, rfl⟩
  go_wp2_with fail
  refine c9.out.mono ?_
  rintro e w1 ⟨rfl, hb⟩
  have b1 := Lib.hid hb
  clear hb
  go_wp2
  go_ret
  exact ⟨rfl, b1.out⟩
set_option maxHeartbeats 4000000 in
theorem treapTells_yes (hN : NodeSays Nd) (hS : TreapSays Nd T) (A : Option Addr) (n c : Nat) (l : List Bd) (t : Tr) (w : World) (hT : T w) (h : LongAt w A n c false) (ht : TreeIn w A n c l t) : Calls Tryd.prog 3 #[.slice A n c] w fun e w' => e = .returned (.bool true) ∧ Below w.heap.size w w' := by
  have c0 := Lib.hid (h w (Below.refl _ _))
  have cM := Lib.hid (ht.make hN)
  have h4 : t.size ≤ 400 := by rw [ht.size]; exact ht.few
  have hn := ht.size
  have h5 : n ≤ 400 := by rw [← ht.size]; omega
  have cA : Hid (∀ W, Below w.heap.size w W → Calls Tryd.prog 8 #[] W fun e w' => e = .returned (.bool true) ∧ Below W.heap.size W w') := fun W hb => alive20_any hN hS W (hS.now w W hT hb)
  have cC : Hid (∀ W p, TreeAt Nd W W.heap.size t p → Calls Tryd.prog 10 #[.pointer p] W fun e w' => e = .returned (.tuple #[nI (placeF rootP t), nI (errF rootP t)]) ∧ Below W.heap.size W w') := fun W p hp => hS.check W t p hp (by omega)
  have cD : Hid (∀ W, Below w.heap.size w W → Calls Tryd.prog 11 #[.slice A n c] W fun e w' => e = .returned (.tuple #[nI (placeF rootP t), nI (errF rootP t)]) ∧ Below W.heap.size W w') := fun W hb => refCheck20 t A n c w.heap.size l ht.pre ht.size (by omega) W hb.size (ht.lie.next hb)
  have cE : Hid (∀ W p, TreeAt Nd W W.heap.size t p → Calls Tryd.prog 12 #[.pointer p] W fun e w' => e = .returned (.bool (mayP t)) ∧ Below W.heap.size W w') := fun W p hp => hS.may W t p hp (by omega)
  have cF : Hid (∀ W, Below w.heap.size w W → Calls Tryd.prog 13 #[.slice A n c] W fun e w' => e = .returned (.bool (mayP t)) ∧ Below W.heap.size W w') := fun W hb => refMay20 t A n c w.heap.size l ht.pre ht.size (by omega) W hb.size (ht.lie.next hb)
  have cI : Hid (∀ W p, TreeAt Nd W W.heap.size t p → Calls Tryd.prog 15 #[.pointer p] W fun e w' => ∃ A c, e = .returned (.slice A n c) ∧ LieI w' w'.heap.size A n c t.items ∧ Below W.heap.size W w') := fun W p hp => by have := hS.items W t p hp (by omega); rw [hn] at this; exact this
  have cJ : Hid (∀ W, Below w.heap.size w W → Calls Tryd.prog 16 #[.slice A n c] W fun e w' => ∃ A' c', e = .returned (.slice A' n c') ∧ LieI w' w'.heap.size A' n c' t.items ∧ Below W.heap.size W w') := fun W hb => (refItems20 t A n c w.heap.size l ht.pre ht.size (by omega) W hb.size (ht.lie.next hb)).mono (by
    rintro e w' ⟨v, rfl, ho, hb⟩
    obtain ⟨A3, c3, rfl, k3⟩ := LieI.of_own (by rw [items_len, hn]) (by omega) ho
    exact ⟨A3, c3, rfl, k3, hb⟩)
  have cX : Hid (∀ W, Below w.heap.size w W → ∀ p, TreeAt Nd W W.heap.size t p → Calls Tryd.prog 17 #[.pointer p] W fun e w' => e = .returned (.bool (mixedT t)) ∧ Below W.heap.size W w') := fun W hb p hp => hS.mixed W t p (hS.now w W hT hb) hp (by omega)
  have cY : Hid (∀ W, Below w.heap.size w W → Calls Tryd.prog 18 #[.slice A n c] W fun e w' => e = .returned (.bool (mixedT t)) ∧ Below W.heap.size W w') := fun W hb => refMixed20 t A n c l ht.pre W (LieB.more (ht.lie.next hb) hb.size)
  obtain ⟨x, hx⟩ : ∃ x, placeF rootP t = x := ⟨_, rfl⟩
  obtain ⟨f, hf⟩ : ∃ f, errF rootP t = f := ⟨_, rfl⟩
  obtain ⟨m, hm⟩ : ∃ m, mayP t = m := ⟨_, rfl⟩
  obtain ⟨r, hr⟩ : ∃ m, mixedT t = m := ⟨_, rfl⟩
  rw [hx, hf] at cC cD
  rw [hm] at cE cF
  rw [hr] at cX cY
  have hN' := Lib.hid hN
  clear hx hf hm hr hN hS hT h ht h4 hn
  go_enter Tryd.func3, Tryd.ntmps3
  have B_0 := Lib.hid (Below.refl w.heap.size w)
  go_wp2_with fail
  refine (c0.out).mono ?_
  rintro e w' ⟨rfl, rfl⟩
  go_wp2_with fail
  refine (cM.out w B_0.out).mono ?_
  rintro e w1 ⟨p, rfl, hP, hb⟩
  have B_1 := Lib.hid (Below.after B_0.out hb)
  clear B_0
  have P_1 := Lib.hid hP
  clear hP
  clear hb
  go_wp2_with fail
  refine (cC.out w1 _ P_1.out).mono ?_
  rintro e w2 ⟨rfl, hb⟩
  have P_2 := Lib.hid (P_1.out.after hN'.out hb)
  have B_2 := Lib.hid (Below.after B_1.out hb)
  clear P_1 B_1
  clear hb
  go_wp2_with fail
  refine (cD.out w2 B_2.out).mono ?_
  rintro e w3 ⟨rfl, hb⟩
  have P_3 := Lib.hid (P_2.out.after hN'.out hb)
  have B_3 := Lib.hid (Below.after B_2.out hb)
  clear P_2 B_2
  clear hb
  go_wp2_with fail
  refine (cE.out w3 _ P_3.out).mono ?_
  rintro e w4 ⟨rfl, hb⟩
  have P_4 := Lib.hid (P_3.out.after hN'.out hb)
  have B_4 := Lib.hid (Below.after B_3.out hb)
  clear P_3 B_3
  clear hb
  go_wp2_with fail
  refine (cF.out w4 B_4.out).mono ?_
  rintro e w5 ⟨rfl, hb⟩
  have P_5 := Lib.hid (P_4.out.after hN'.out hb)
  have B_5 := Lib.hid (Below.after B_4.out hb)
  clear P_4 B_4
  clear hb
  go_wp2_with fail
  refine (cI.out w5 _ P_5.out).mono ?_
  rintro e w6 ⟨A3, c3, rfl, hI, hb⟩
  have P_6 := Lib.hid (P_5.out.after hN'.out hb)
  have B_6 := Lib.hid (Below.after B_5.out hb)
  clear P_5 B_5
  have I_6 := Lib.hid hI
  clear hI
  clear hb
  go_wp2_with fail
  refine (cJ.out w6 B_6.out).mono ?_
  rintro e w7 ⟨A4, c4, rfl, hJ, hb⟩
  have P_7 := Lib.hid (P_6.out.after hN'.out hb)
  have I_7 := Lib.hid (I_6.out.after hb)
  have B_7 := Lib.hid (Below.after B_6.out hb)
  clear P_6 I_6 B_6
  have J_7 := Lib.hid hJ
  clear hJ
  clear hb
  go_wp2_with fail
  refine (sameI20_any A3 A4 n n c3 c4 t.items t.items true (by simp) w7 I_7.out J_7.out).mono ?_
  rintro e w8 ⟨rfl, hb⟩
  have P_8 := Lib.hid (P_7.out.after hN'.out hb)
  have I_8 := Lib.hid (I_7.out.after hb)
  have J_8 := Lib.hid (J_7.out.after hb)
  have B_8 := Lib.hid (Below.after B_7.out hb)
  clear P_7 I_7 J_7 B_7
  clear hb
  go_wp2_with fail
  refine (cX.out w8 B_8.out _ P_8.out).mono ?_
  rintro e w9 ⟨rfl, hb⟩
  have P_9 := Lib.hid (P_8.out.after hN'.out hb)
  have I_9 := Lib.hid (I_8.out.after hb)
  have J_9 := Lib.hid (J_8.out.after hb)
  have B_9 := Lib.hid (Below.after B_8.out hb)
  clear P_8 I_8 J_8 B_8
  clear hb
  go_wp2_with fail
  refine (cY.out w9 B_9.out).mono ?_
  rintro e w10 ⟨rfl, hb⟩
  have P_10 := Lib.hid (P_9.out.after hN'.out hb)
  have I_10 := Lib.hid (I_9.out.after hb)
  have J_10 := Lib.hid (J_9.out.after hb)
  have B_10 := Lib.hid (Below.after B_9.out hb)
  clear P_9 I_9 J_9 B_9
  clear hb
  go_wp2_with fail
  refine (cA.out w10 B_10.out).mono ?_
  rintro e w11 ⟨rfl, hb⟩
  have P_11 := Lib.hid (P_10.out.after hN'.out hb)
  have I_11 := Lib.hid (I_10.out.after hb)
  have J_11 := Lib.hid (J_10.out.after hb)
  have B_11 := Lib.hid (Below.after B_10.out hb)
  clear P_10 I_10 J_10 B_10
  clear hb
  go_wp2
  go_ret
  exact ⟨rfl, B_11.out⟩
theorem treapTells_any (hN : NodeSays Nd) (hS : TreapSays Nd T) (A : Option Addr) (n c : Nat) (l : List Bd) (hl : l.length = n) (hn : n ≤ c) (hc : c ≤ maxLen) (hz : A = none → c = 0) (w : World) (hT : T w) (hr : Row w w.heap.size A (flat7 l)) : Calls Tryd.prog 3 #[.slice A n c] w fun e w' => e = .returned (.bool true) ∧ Below w.heap.size w w' := by
  rcases long_or hl hn hc hz hr with h | ⟨h, t, ht⟩
  · exact treapTells_long hN hS A n c w hT h
  · exact treapTells_yes hN hS A n c l t w hT h ht
end Go.Proofs.YtcnkgddldhkddaaDoor
namespace Go.Proofs.YtcnkgddldhkddaaDoor
open Go.ChangeShapes Go.WideShapes Go.ChangeAt Go.RowKit

set_option maxRecDepth 100000 in
theorem treapTells_lifted (os : Os) (started : os.Started) (H : Type) (enc : TypeId × Value → H) :
    ReturnsInHanded {} Tryd.checked os 3 .any (fun w args => (Rows.treapTellsSpec.pre enc Tryd.prog Tryd.f3 [] false w args ∧ laidMetH Tryd.prog laid20 w) ∧ sizedMet enc Tryd.prog Tryd.f3 (OpenSpec.ofChange Rows.treapTellsSpec) false w args)
      (Rows.treapTellsSpec.post enc Tryd.prog Tryd.f3 false true false false) := by
  refine returnsInHanded_of_change_and (C := Tryd.checked) (X := fun w _ => laidMetH Tryd.prog laid20 w) (fun _ _ _ hh h => h.of_heap hh) own started (by kernel_rfl) Tryd.func3
    (ChangeSpec.witness_shaped (enc := enc) (C := Tryd.checked) (os := os) (X := fun w _ => laidMetH Tryd.prog laid20 w) false (World.doorLaid Tryd.prog 400 os) #[.slice none 0 0] 8 rfl (World.shaped_of_RefB (by kernel_rfl) (by kernel_rfl)) (by kernel_rfl) (by kernel_rfl) (by kernel_rfl) (door_met os _)) ?_
  intro W base args ds gs before hval0 hW _ _ hL _
  have hval : ∀ (j : Nat) t v, Tryd.f3.params[j]? = some t → args[j]? = some v → Value.okWide Tryd.prog W .any base t v := hval0
  have hW' := hW
  obtain ⟨p, q, hA0, hV, rfl, hfz, hnd⟩ := hW
  have hA : DataW.TrodAll enc Tryd.prog W 0 (fun _ => true) true Tryd.f3.params.toList args.toList ds p := hA0
  rw [Tryd.params3] at hA hval
  obtain ⟨v0, vs0, d0, ds0, p0, q0, hargs, rfl, rfl, h0, r0⟩ := trodAll_cons hA
  obtain ⟨rfl, rfl, rfl⟩ := trodAll_nil r0
  obtain rfl : args = #[v0] := by cases args; simp_all
  obtain ⟨rfl, rfl⟩ := trodVars_none hV
  have k0 := h0
  have lt0 : ∀ x ∈ p0, x.block < W.heap.size := by obtain ⟨m, hm⟩ := k0; exact DataW.trod_lt m _ _ _ hm
  obtain ⟨A0, n0, c0, l0, rfl, hl0, hn0, hc0, hz0, hr0⟩ := open_beads (hval 0 22 v0 rfl rfl) h0
  obtain ⟨hz, hst⟩ := steps_of hL
  clear hA0 hval0
  refine (treapTells_any node_says (treap_says node_says) A0 n0 c0 l0 hl0 hn0 hc0 hz0 W ⟨hz, hst⟩ hr0).mono fun e W' ⟨he, bel⟩ => ?_
  subst he
  exact ⟨_, rfl, _, _, _, [], _, [], hW', trodAll_mk1 (shut_bool Tryd.underlying4 _), trodAll_cons_mk (Below.trod laidOut (by kernel_rfl) (of_decide_eq_true (by kernel_rfl)) k0 bel lt0) trodAll_mk0, rfl, bel.frame _, fun h => by cases h⟩

theorem treapTells_row : Rows.TreapTellsSaid :=
  OpenClaim.holds_of_wide 3 Tryd.f3 rfl rfl rfl rfl rfl rfl rfl ⟨rfl, rfl, rfl, rfl, rfl⟩ rfl rfl rfl rfl rfl (by kernel_rfl) Tryd.func3 (by kernel_rfl)
    (of_decide_eq_true (by kernel_rfl)) (by unfold Func.isWrapper; first | (rw [if_pos (by decide +kernel)]; kernel_rfl) | (rw [if_neg (by decide +kernel)]; exact ⟨rfl, rfl⟩))
    (fun os started H enc _ => treapTells_lifted os started H enc)

theorem treapTells_holds : Rows.TreapTellsCardSaid :=
  Claim7.holds_tied_plain_at .later [] [.data] true Rows.treapTellsCard.stood.harness false
    treapTells_row (fun _ h => by cases h) (by kernel_rfl) (fun _ h => by cases h) treapTells_row_tie rfl ⟨rfl, rfl⟩ (by kernel_rfl) rfl
    (fun f fn hf hfn => by
      obtain rfl : f = 3 := Option.some.inj ((show Tryd.prog.funcNamed Rows.treapTellsRow.func = some 3 by kernel_rfl).symm.trans hf) |>.symm
      obtain rfl : fn = Tryd.f3 := (Option.some.inj (Tryd.func3.symm.trans hfn)).symm
      exact ⟨by kernel_rfl, fun j t ht => by
        rw [Tryd.params3] at ht
        have hm : t ∈ [22] := by simpa using Array.mem_of_getElem? ht
        have hall : ([22].all fun u => !Tryd.prog.wantsStandIn u) = true := by kernel_rfl
        exact (show Tryd.prog.wantsStandIn t = false by simpa using List.all_eq_true.1 hall t hm)⟩)
    (by kernel_rfl)
#print axioms treapTells_holds
end Go.Proofs.YtcnkgddldhkddaaDoor
