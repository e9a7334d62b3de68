/- Proved here: for every row of items the law TreapMakes of layer 20 returns true (which tree they make is what the document says; it may be, and has just them); it changes nothing that lay. Condition: package mix's table of steps holds what its initialiser lays (tied to the program's text by the card). -/
import Derived.Test.YtcnkgddldhkddaaDoorJE
import Derived.Test.YtcnkgddldhkddaaDoorJD
import Derived.Test.YtcnkgddldhkddaaDoorL9Says
import Derived.Test.YtcnkgddldhkddaaDoorRows
import Derived.Below
import Derived.ChangeOld
import Derived.Test.YtcnkgddldhkddaaDoorTie
import Derived.Test.YtcnkgddldhkddaaDoorCards
/- Layer 20: the statement TreapMakes, walked. Made by wip/gen/layer20laws.py. -/
namespace Go.Proofs.YtcnkgddldhkddaaDoor
open Go.RowKit Go.Proofs.Treem
set_option maxRecDepth 100000
variable {Nd : NdP} {T : World → Prop}

set_option maxHeartbeats 4000000 in
theorem treapMakes_any (hN : NodeSays Nd) (hS : TreapSays Nd T) (A : Option Addr) (n c : Nat) (l : List It) (hl : l.length = n) (hn : n ≤ c) (hc : c ≤ maxLen) (hz : A = none → c = 0) (w : World) (hT : T w) (hr : Row w w.heap.size A (flat3 l)) : Calls Tryd.prog 5 #[.slice A n c] w fun e w' => e = .returned (.bool true) ∧ Below w.heap.size w w' := by
  by_cases hbig : 200 < n
  · have c9 := Lib.hid (alive20_any hN hS w hT)
    have d1 : decide ((200 : Int) < (n : Int)) = true := decide_eq_true (by omega)
    clear hN hS hr
    go_enter Tryd.func5, Tryd.ntmps5
    go_wp2_with fail
    refine c9.out.mono ?_
    rintro e w1 ⟨rfl, hb⟩
    have b1 := Lib.hid hb
    clear hb
    go_wp2
    go_ret
    exact ⟨rfl, b1.out⟩
  · have hL : LieI w w.heap.size A n c l := ⟨hl, by omega, hn, hc, hz, hr⟩
    obtain ⟨i0, hin, hz0, hz1, hz2⟩ := item_parts
    have d1 : decide ((200 : Int) < (n : Int)) = false := decide_eq_false (by omega)
    have cA : Hid (∀ W, Below w.heap.size w W → Calls Tryd.prog 8 #[] W fun e w' => e = .returned (.bool true) ∧ Below W.heap.size W w') := fun W hb => alive20_any hN hS W (hS.now w W hT hb)
    have cF := Lib.hid (fun W A c (h : LieI W W.heap.size A n c l) => hS.of W A n c l (by omega) h)
    have cR := Lib.hid (fun W c (h : LieI W W.heap.size A n c l) => refOf20 n l A c hl (by omega) W h)
    have hsz : (ofT l).size = n := by rw [size_of, hl]
    have cI := Lib.hid (fun p A c W hT hl => Is9 hN (ofT l) p (by omega) A n c hsz W hT hl)
    have cM : Hid (∀ W p, TreeAt Nd W W.heap.size (ofT l) p → Calls Tryd.prog 12 #[.pointer p] W fun e w' => e = .returned (.bool true) ∧ Below W.heap.size W w') := fun W p hp => by have := hS.may W _ p hp (by omega); rw [may_of] at this; exact this
    have cJ : Hid (∀ W p, TreeAt Nd W W.heap.size (ofT l) p → Calls Tryd.prog 15 #[.pointer p] W fun e w' => ∃ A c, e = .returned (.slice A n c) ∧ LieI w' w'.heap.size A n c l ∧ Below W.heap.size W w') := fun W p hp => by have := hS.items W _ p hp (by omega); rw [hsz, items_of] at this; exact this
    have la' : (flat3 l).length = n * 3 := by rw [flat3_length, hl]
    have L_0 := Lib.hid hL
    have o0 : Hid (w.ownsRow w.heap.size 38 3 (.slice none 0 0) 0 []) := ⟨rfl, .inl ⟨rfl, rfl⟩⟩
    have hl' := Lib.hid hl
    have hN' := Lib.hid hN
    obtain ⟨tt, htt⟩ : ∃ t, ofT l = t := ⟨_, rfl⟩
    rw [htt] at cF cR cI cM cJ
    clear hN hS hT hr hL hsz htt hl
    go_enter Tryd.func5, Tryd.ntmps5
    go_wp2_with (at_builtin; refine wpList_append_row rfl _ _ 33 rfl w.heap.size 38 i0 (.agg #[.int .i64 0, .int .i64 0, .int .u64 0]) 3 24 Tryd.underlying33 hin hz0 hz1 hz2 rfl (by decide) (.slice none 0 0) 0 [] rfl o0.out A n c (flat3 l) rfl L_0.out.nil L_0.out.cap la' w.heap.size L_0.out.row (flat3_one _) (by unfold maxLen; omega) (by omega) (Nat.le_refl _) ?_)
    intro v1 w1 hown hgrow
    have b1 := (Below.refl w.heap.size w).grown hgrow (Nat.le_refl _) (fun r e => by cases e)
    obtain ⟨A1, c1, e1, k1⟩ := LieI.of_own (l := l) (n := n) hl'.out (by omega) (by simpa using hown)
    have B_1 := Lib.hid b1
    have L_1 := Lib.hid (L_0.out.after b1)
    have M_1 := Lib.hid k1
    subst e1
    clear hown hgrow b1 k1 L_0 o0 hin hz0 hz1 hz2 la'
    go_wp2_with fail
    refine (cF.out w1 _ _ M_1.out).mono ?_
    rintro e w2 ⟨p, rfl, hP, hb⟩
    have L_2 := Lib.hid (L_1.out.after hb)
    have M_2 := Lib.hid (M_1.out.after hb)
    have B_2 := Lib.hid (Below.after B_1.out hb)
    clear L_1 M_1 B_1
    have P_2 := Lib.hid hP
    clear hP
    clear hb
    go_wp2_with fail
    refine (cR.out w2 _ L_2.out).mono ?_
    rintro e w3 ⟨A3, c3, rfl, hR, hb⟩
    have L_3 := Lib.hid (L_2.out.after hb)
    have M_3 := Lib.hid (M_2.out.after hb)
    have P_3 := Lib.hid (P_2.out.after hN'.out hb)
    have B_3 := Lib.hid (Below.after B_2.out hb)
    clear L_2 M_2 P_2 B_2
    have R_3 := Lib.hid hR
    clear hR
    clear hb
    go_wp2_with fail
    refine (cI.out _ _ _ w3 P_3.out R_3.out).mono ?_
    rintro e w4 ⟨rfl, hb⟩
    have L_4 := Lib.hid (L_3.out.after hb)
    have M_4 := Lib.hid (M_3.out.after hb)
    have P_4 := Lib.hid (P_3.out.after hN'.out hb)
    have R_4 := Lib.hid (R_3.out.after hb)
    have B_4 := Lib.hid (Below.after B_3.out hb)
    clear L_3 M_3 P_3 R_3 B_3
    clear hb
    go_wp2_with fail
    refine (cM.out w4 _ P_4.out).mono ?_
    rintro e w5 ⟨rfl, hb⟩
    have L_5 := Lib.hid (L_4.out.after hb)
    have M_5 := Lib.hid (M_4.out.after hb)
    have P_5 := Lib.hid (P_4.out.after hN'.out hb)
    have R_5 := Lib.hid (R_4.out.after hb)
    have B_5 := Lib.hid (Below.after B_4.out hb)
    clear L_4 M_4 P_4 R_4 B_4
    clear hb
    go_wp2_with fail
    refine (cJ.out w5 _ P_5.out).mono ?_
    rintro e w6 ⟨A4, c4, rfl, hJ, hb⟩
    have L_6 := Lib.hid (L_5.out.after hb)
    have M_6 := Lib.hid (M_5.out.after hb)
    have P_6 := Lib.hid (P_5.out.after hN'.out hb)
    have R_6 := Lib.hid (R_5.out.after hb)
    have B_6 := Lib.hid (Below.after B_5.out hb)
    clear L_5 M_5 P_5 R_5 B_5
    have J_6 := Lib.hid hJ
    clear hJ
    clear hb
    go_wp2_with fail
    refine (sameI20_any A4 A n n c4 c l l true (by simp) w6 J_6.out L_6.out).mono ?_
    rintro e w7 ⟨rfl, hb⟩
    have L_7 := Lib.hid (L_6.out.after hb)
    have M_7 := Lib.hid (M_6.out.after hb)
    have P_7 := Lib.hid (P_6.out.after hN'.out hb)
    have R_7 := Lib.hid (R_6.out.after hb)
    have J_7 := Lib.hid (J_6.out.after hb)
    have B_7 := Lib.hid (Below.after B_6.out hb)
    clear L_6 M_6 P_6 R_6 J_6 B_6
    clear hb
    go_wp2_with fail
    refine (cA.out w7 B_7.out).mono ?_
    rintro e w8 ⟨rfl, hb⟩
    have L_8 := Lib.hid (L_7.out.after hb)
    have M_8 := Lib.hid (M_7.out.after hb)
    have P_8 := Lib.hid (P_7.out.after hN'.out hb)
    have R_8 := Lib.hid (R_7.out.after hb)
    have J_8 := Lib.hid (J_7.out.after hb)
    have B_8 := Lib.hid (Below.after B_7.out hb)
    clear L_7 M_7 P_7 R_7 J_7 B_7
    clear hb
    go_wp2
    go_ret
    exact ⟨rfl, B_8.out⟩
end Go.Proofs.YtcnkgddldhkddaaDoor
namespace Go.Proofs.YtcnkgddldhkddaaDoor
open Go.ChangeShapes Go.WideShapes Go.ChangeAt Go.RowKit

set_option maxRecDepth 100000 in
theorem treapMakes_lifted (os : Os) (started : os.Started) (H : Type) (enc : TypeId × Value → H) :
    ReturnsInHanded {} Tryd.checked os 5 .any (fun w args => (Rows.treapMakesSpec.pre enc Tryd.prog Tryd.f5 [] false w args ∧ laidMetH Tryd.prog laid20 w) ∧ sizedMet enc Tryd.prog Tryd.f5 (OpenSpec.ofChange Rows.treapMakesSpec) false w args)
      (Rows.treapMakesSpec.post enc Tryd.prog Tryd.f5 false true false false) := by
  refine returnsInHanded_of_change_and (C := Tryd.checked) (X := fun w _ => laidMetH Tryd.prog laid20 w) (fun _ _ _ hh h => h.of_heap hh) own started (by kernel_rfl) Tryd.func5
    (ChangeSpec.witness_shaped (enc := enc) (C := Tryd.checked) (os := os) (X := fun w _ => laidMetH Tryd.prog laid20 w) false (World.doorLaid Tryd.prog 400 os) #[.slice none 0 0] 8 rfl (World.shaped_of_RefB (by kernel_rfl) (by kernel_rfl)) (by kernel_rfl) (by kernel_rfl) (by kernel_rfl) (door_met os _)) ?_
  intro W base args ds gs before hval0 hW _ _ hL _
  have hval : ∀ (j : Nat) t v, Tryd.f5.params[j]? = some t → args[j]? = some v → Value.okWide Tryd.prog W .any base t v := hval0
  have hW' := hW
  obtain ⟨p, q, hA0, hV, rfl, hfz, hnd⟩ := hW
  have hA : DataW.TrodAll enc Tryd.prog W 0 (fun _ => true) true Tryd.f5.params.toList args.toList ds p := hA0
  rw [Tryd.params5] at hA hval
  obtain ⟨v0, vs0, d0, ds0, p0, q0, hargs, rfl, rfl, h0, r0⟩ := trodAll_cons hA
  obtain ⟨rfl, rfl, rfl⟩ := trodAll_nil r0
  obtain rfl : args = #[v0] := by cases args; simp_all
  obtain ⟨rfl, rfl⟩ := trodVars_none hV
  have k0 := h0
  have lt0 : ∀ x ∈ p0, x.block < W.heap.size := by obtain ⟨m, hm⟩ := k0; exact DataW.trod_lt m _ _ _ hm
  obtain ⟨A0, n0, c0, l0, rfl, hl0, hn0, hc0, hz0, hr0⟩ := open_items (hval 0 33 v0 rfl rfl) h0
  obtain ⟨hz, hst⟩ := steps_of hL
  clear hA0 hval0
  refine (treapMakes_any node_says (treap_says node_says) A0 n0 c0 l0 hl0 hn0 hc0 hz0 W ⟨hz, hst⟩ hr0).mono fun e W' ⟨he, bel⟩ => ?_
  subst he
  exact ⟨_, rfl, _, _, _, [], _, [], hW', trodAll_mk1 (shut_bool Tryd.underlying4 _), trodAll_cons_mk (Below.trod laidOut (by kernel_rfl) (of_decide_eq_true (by kernel_rfl)) k0 bel lt0) trodAll_mk0, rfl, bel.frame _, fun h => by cases h⟩

theorem treapMakes_row : Rows.TreapMakesSaid :=
  OpenClaim.holds_of_wide 5 Tryd.f5 rfl rfl rfl rfl rfl rfl rfl ⟨rfl, rfl, rfl, rfl, rfl⟩ rfl rfl rfl rfl rfl (by kernel_rfl) Tryd.func5 (by kernel_rfl)
    (of_decide_eq_true (by kernel_rfl)) (by unfold Func.isWrapper; first | (rw [if_pos (by decide +kernel)]; kernel_rfl) | (rw [if_neg (by decide +kernel)]; exact ⟨rfl, rfl⟩))
    (fun os started H enc _ => treapMakes_lifted os started H enc)

theorem treapMakes_holds : Rows.TreapMakesCardSaid :=
  Claim7.holds_tied_plain_at .later [] [.data] true Rows.treapMakesCard.stood.harness false
    treapMakes_row (fun _ h => by cases h) (by kernel_rfl) (fun _ h => by cases h) treapMakes_row_tie rfl ⟨rfl, rfl⟩ (by kernel_rfl) rfl
    (fun f fn hf hfn => by
      obtain rfl : f = 5 := Option.some.inj ((show Tryd.prog.funcNamed Rows.treapMakesRow.func = some 5 by kernel_rfl).symm.trans hf) |>.symm
      obtain rfl : fn = Tryd.f5 := (Option.some.inj (Tryd.func5.symm.trans hfn)).symm
      exact ⟨by kernel_rfl, fun j t ht => by
        rw [Tryd.params5] at ht
        have hm : t ∈ [33] := by simpa using Array.mem_of_getElem? ht
        have hall : ([33].all fun u => !Tryd.prog.wantsStandIn u) = true := by kernel_rfl
        exact (show Tryd.prog.wantsStandIn t = false by simpa using List.all_eq_true.1 hall t hm)⟩)
    (by kernel_rfl)
#print axioms treapMakes_holds
end Go.Proofs.YtcnkgddldhkddaaDoor
