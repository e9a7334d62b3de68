/- Layer 10: the statement LookStops, walked. Made by wip/gen/layer10.py. -/
import Derived.Test.YtadncdcblckpjaaL10Stops0
namespace Go.Proofs.Ytadncdcblckpjaa
open Go.RowKit Go.Shelf Go.Proofs.Rowm Go.Proofs.Treem
attribute [local go_sem] Oper.semAt_some
variable {Nd : NdP}

theorem Goes.is_func {B0 : Nat} {w : World} {v : Value} {ps : List Pr} (h : Goes B0 w v ps) : ∃ g lb, v = .func (.func g) #[] lb := let ⟨_, g, lb, e, _⟩ := h; ⟨g, lb, e⟩
theorem cut10 (A : Option Addr) (n c k : Nat) (hk : k ≤ c) : ∀ W, (Instr.slice 27 (.slice A n c) none (some (.int .i64 (k : Int))) none).run Try.prog W = .ok (.slice A k c) W := cut_to Try.underlying27 size_pair A n c k _ rfl hk
theorem row_take {W : World} {A : Option Addr} {l : List Pr} (h : Row W W.heap.size A (flat l)) (k : Nat) : Row W W.heap.size A (flat (l.take k)) := by rw [flat_take]; exact h.take _
theorem keeps10 {W W' : World} (h : Below W.heap.size W W') : KeepsOthers W W' := ⟨h.size, fun k _ hk _ => (h.block k (Array.getElem?_eq_some_iff.1 hk).1).trans hk⟩

set_option maxRecDepth 100000 in
set_option maxHeartbeats 8000000 in
theorem lookStops_le (hN : NodeSays Nd) (hS : LookSays Nd) (A : Option Addr) (n c : Nat) (l : List Bd) (t : Tr) (x : Nat) (w : World) (h : LongAt w A n c false) (ht : TreeIn w A n c l t) (h6 : n ≤ 60) (hx8 : x ≤ 255) (hx : ¬ n < x) : Calls Try.prog 4 #[.slice A n c, .int .u8 x] w fun e w' => e = .returned (.bool true) ∧ Below w.heap.size w w' := by
  have h5 : n ≤ 1000 := by omega
  have hts : t.size ≤ 1000 := by rw [ht.size]; exact h5
  have cM := Lib.hid (ht.make hN)
  have cP := Lib.hid ht.pairs
  have b0 : Below w.heap.size w (w.alloc (.cells #[.bool false] 4)) := (Below.refl _ _).alloc (Nat.le_refl _) _
  have c0 := Lib.hid (h _ b0)
  have lA := Lib.hid (alive10_any hN hS)
  have sA := Lib.hid (fun W p hT => hS.all W t p _ (Nat.le_refl _) hT hts)
  have sB := Lib.hid (fun W p hT => hS.back W t p _ (Nat.le_refl _) hT hts)
  have hpl : Hid (t.pairs.length = n) := by show t.pairs.length = n; rw [pairs_len, ht.size]
  have hrl : Hid (t.pairs.reverse.length = n) := by show t.pairs.reverse.length = n; rw [List.length_reverse, hpl.out]
  have hkn : x ≤ n := by omega
  have hkl : Hid ((t.pairs.take x).length = x) := by show (t.pairs.take x).length = x; rw [List.length_take, hpl.out]; omega
  have hkr : Hid ((t.pairs.reverse.take x).length = x) := by show (t.pairs.reverse.take x).length = x; rw [List.length_take, hrl.out]; omega
  have hk5 : x ≤ 1000 := by omega
  have d60 : decide ((60 : Int) < (n : Int)) = false := decide_eq_false (by omega)
  have hN' := Lib.hid hN
  obtain ⟨w_0, hw0⟩ : ∃ W, w.alloc (.cells #[.bool false] 4) = W := ⟨_, rfl⟩
  have g_0 : Hid (Boxed w_0 w.heap.size 4 (.bool false)) := hw0 ▸ Boxed.new w _ _
  have b_0 : Hid (Below w.heap.size w w_0) := hw0 ▸ b0
  rw [hw0] at c0
  clear h hN hS ht hts b0
  refine (callsIn_wide (n := 9)).1 ?_
  refine callsIn_of_wp_marks Try.func4 rfl trivial ?_ rfl
  simp only [Try.ntmps4, List.size_toArray, List.length_cons, List.length_nil, Nat.reduceAdd, Nat.reduceSub, Array.replicate_succ, Array.replicate_zero, List.push_toArray, List.append_toArray, List.nil_append, List.cons_append]
  refine wpIn_wide.2 ?_
  go_wp2_with fail
  clear hw0
  refine c0.out.mono ?_
  rintro e w' ⟨rfl, rfl⟩
  go_wp2_with fail
  refine (cM.out w_0 b_0.out).mono ?_
  rintro e w_1 ⟨p, rfl, hT, hb⟩
  have T_1n := Lib.hid hT
  clear hT
  have g_1 := Lib.hid (boxed_next g_0.out hb)
  have b_1 := Lib.hid (Below.after b_0.out hb)
  clear hb g_0 b_0
  go_wp2_with fail
  refine (cP.out w_1 b_1.out).mono ?_
  rintro e w_2 ⟨A1, c1, rfl, hc1, -, -, hr, hb⟩
  have p_2n := Lib.hid hr
  clear hr
  have g_2 := Lib.hid (boxed_next g_1.out hb)
  have T_2 := Lib.hid (T_1n.out.after hN'.out hb)
  have b_2 := Lib.hid (Below.after b_1.out hb)
  clear hb g_1 T_1n b_1
  go_wp2_with fail
  all_goals first | (exfalso; omega) | skip
  obtain ⟨w_P, hnm⟩ : ∃ W, w_2.alloc (.cells #[.slice A1 n c1] 27) = W := ⟨_, rfl⟩
  have hb : Below w_2.heap.size w_2 w_P := hnm ▸ (Below.refl _ _).alloc (Nat.le_refl _) _
  have P_b : Hid (Boxed w_P w_2.heap.size 27 (.slice A1 n c1)) := hnm ▸ Boxed.new w_2 _ _
  rw [hnm]
  clear hnm
  have g_3 := Lib.hid (boxed_next g_2.out hb)
  have T_3 := Lib.hid (T_2.out.after hN'.out hb)
  have p_3 := Lib.hid (p_2n.out.next hb)
  have b_3 := Lib.hid (Below.after b_2.out hb)
  clear hb g_2 T_2 p_2n b_2
  obtain ⟨gP, hgP⟩ : ∃ g, w_2.heap.size = g := ⟨_, rfl⟩
  rw [hgP] at P_b ⊢
  clear hgP
  refine (sA.out w_P p T_3.out).mono ?_
  rintro e w_4 ⟨v1, rfl, hG, hb⟩
  have G_4n := Lib.hid hG
  clear hG
  have g_4 := Lib.hid (boxed_next g_3.out hb)
  have T_4 := Lib.hid (T_3.out.after hN'.out hb)
  have p_4 := Lib.hid (p_3.out.next hb)
  have P_4 := Lib.hid (boxed_next P_b.out hb)
  have b_4 := Lib.hid (Below.after b_3.out hb)
  clear hb g_3 T_3 p_3 P_b b_3
  obtain ⟨g1, lb1, rfl⟩ := G_4n.out.is_func
  go_wp2_with fail
  refine (sB.out w_4 p T_4.out).mono ?_
  rintro e w_5 ⟨v2, rfl, hG, hb⟩
  have H_5n := Lib.hid hG
  clear hG
  have g_5 := Lib.hid (boxed_next g_4.out hb)
  have T_5 := Lib.hid (T_4.out.after hN'.out hb)
  have p_5 := Lib.hid (p_4.out.next hb)
  have P_5 := Lib.hid (boxed_next P_4.out hb)
  have G_5 := Lib.hid (G_4n.out.next hb)
  have b_5 := Lib.hid (Below.after b_4.out hb)
  clear hb g_4 T_4 p_4 P_4 G_4n b_4
  obtain ⟨g2, lb2, rfl⟩ := H_5n.out.is_func
  clear T_5
  go_wp2_with fail
  obtain ⟨w_B, hnm⟩ : ∃ W, w_5.alloc (.cells #[.func (.func g2) #[] lb2] 35) = W := ⟨_, rfl⟩
  have hb : Below w_5.heap.size w_5 w_B := hnm ▸ (Below.refl _ _).alloc (Nat.le_refl _) _
  have K_b : Hid (Boxed w_B w_5.heap.size 35 (.func (.func g2) #[] lb2)) := hnm ▸ Boxed.new w_5 _ _
  rw [hnm]
  clear hnm
  have g_6 := Lib.hid (boxed_next g_5.out hb)
  have p_6 := Lib.hid (p_5.out.next hb)
  have P_6 := Lib.hid (boxed_next P_5.out hb)
  have G_6 := Lib.hid (G_5.out.next hb)
  have H_6 := Lib.hid (H_5n.out.next hb)
  have b_6 := Lib.hid (Below.after b_5.out hb)
  clear hb g_5 p_5 P_5 G_5 H_5n b_5
  obtain ⟨gB, hgB⟩ : ∃ g, w_5.heap.size = g := ⟨_, rfl⟩
  rw [hgB] at K_b ⊢
  clear hgB
  have cut1 := cut10 A1 n c1 x (Nat.le_trans hkn hc1)
  refine wp_region_only (S := fun u => u.cell? ⟨gP, 0, none⟩ = some (.slice A1 n c1) ∧ u.cell? ⟨gB, 0, none⟩ = some (.func (.func g2) #[] lb2) ∧ Below w_B.heap.size w_B u) (by kernel_rfl) ⟨P_6.out.cell, K_b.out.cell, (Below.refl _ _).drew⟩ (fun hS => ?_)
  refine wpAnyH_take (i := 0) (oi := ?dqt0) (v := ?dvt0) ?hit0 (by kernel_rfl) (by kernel_rfl) (by kernel_rfl) ?hQt0 (Or.inl ⟨?hwt0, ?hyt0⟩) hS ?hrt0
  case hit0 => simp only [List.getElem?_toArray, List.getElem?_cons_zero]; rfl
  case hQt0 => exact only_panic
  case hwt0 => rfl
  case hyt0 => (intro w hSw; (try dsimp only at hSw); go_simp; (try with_reducible rfl))
  simp only [Act.put, List.setIfInBounds_toArray, List.set_cons_zero, List.set_cons_succ]
  refine wpAnyH_take (i := 1) (oi := ?dqt1) (v := ?dvt1) ?hit1 (by kernel_rfl) (by kernel_rfl) (by kernel_rfl) ?hQt1 (Or.inl ⟨?hwt1, ?hyt1⟩) hS ?hrt1
  case hit1 => simp only [List.getElem?_toArray, List.getElem?_cons_succ, List.getElem?_cons_zero]; rfl
  case hQt1 => exact only_panic
  case hwt1 => rfl
  case hyt1 => (intro w hSw; (try dsimp only at hSw); go_simp; (try with_reducible rfl))
  simp only [Act.put, List.setIfInBounds_toArray, List.set_cons_zero, List.set_cons_succ]
  refine wpAnyH_take (i := 3) (oi := ?dqt3) (v := ?dvt3) ?hit3 (by kernel_rfl) (by kernel_rfl) (by kernel_rfl) ?hQt3 (Or.inl ⟨?hwt3, ?hyt3⟩) hS ?hrt3
  case hit3 => simp only [List.getElem?_toArray, List.getElem?_cons_succ, List.getElem?_cons_zero]; rfl
  case hQt3 => exact only_panic
  case hwt3 => rfl
  case hyt3 => (intro w hSw; (try dsimp only at hSw); go_simp; (try with_reducible rfl))
  simp only [Act.put, List.setIfInBounds_toArray, List.set_cons_zero, List.set_cons_succ]
  refine wpAnyH_take (i := 4) (oi := ?dqt4) (v := ?dvt4) ?hit4 (by kernel_rfl) (by kernel_rfl) (by kernel_rfl) ?hQt4 (Or.inl ⟨?hwt4, ?hyt4⟩) hS ?hrt4
  case hit4 => simp only [List.getElem?_toArray, List.getElem?_cons_succ, List.getElem?_cons_zero]; rfl
  case hQt4 => exact only_panic
  case hwt4 => rfl
  case hyt4 => (intro w hSw; (try dsimp only at hSw); go_simp; (try with_reducible rfl))
  simp only [Act.put, List.setIfInBounds_toArray, List.set_cons_zero, List.set_cons_succ]
  refine wpAnyH_take (i := 5) (oi := ?dqt5) (v := ?dvt5) ?hit5 (by kernel_rfl) (by kernel_rfl) (by kernel_rfl) ?hQt5 (Or.inl ⟨?hwt5, ?hyt5⟩) hS ?hrt5
  case hit5 => simp only [List.getElem?_toArray, List.getElem?_cons_succ, List.getElem?_cons_zero]; rfl
  case hQt5 => exact only_panic
  case hwt5 => rfl
  case hyt5 => (intro w hSw; (try dsimp only at hSw); go_simp; (try with_reducible rfl))
  simp only [Act.put, List.setIfInBounds_toArray, List.set_cons_zero, List.set_cons_succ]
  refine wpAnyH_ready (rs := [2]) (by kernel_rfl) (by simp) (AllReadyH.cons (o := ?dqt2) ?hit2 (fun K hK => ?cct2) AllReadyH.nil)
  case hit2 => simp only [List.getElem?_toArray, List.getElem?_cons_succ, List.getElem?_cons_zero]; rfl
  case cct2 =>
    go_simp
    go_at_call 13
    refine (collect_some _ _ n x hpl.out hkn h5 _ (G_6.out.next hS.2.2)).mono ?_
    rintro e u2 ⟨A2, c2, rfl, -, -, -, hr, hb⟩
    have ra_2 := Lib.hid hr
    clear hr
    have b2 := Lib.hid hb
    clear hb
    have hS2 := And.intro (keep_cell b2.out hS.1) (And.intro (keep_cell b2.out hS.2.1) (Below.after hS.2.2 b2.out))
    clear hS
    refine hK.out _ _ hS2 (fun hS => ?_)
    clear hS2 hK K
    try simp only [Act.put, List.setIfInBounds_toArray, List.set_cons_zero, List.set_cons_succ]
    refine wpAnyH_ready (rs := [6]) (by kernel_rfl) (by simp) (AllReadyH.cons (o := ?dqt2x6) ?hit2x6 (fun K hK => ?cct2x6) AllReadyH.nil)
    case hit2x6 => simp only [List.getElem?_toArray, List.getElem?_cons_succ, List.getElem?_cons_zero]; rfl
    case cct2x6 =>
      go_simp
      go_at_call 12
      refine (samePairs_yes A2 A1 x c2 c1 _ hkl.out hk5 _ ra_2.out (row_take ((p_6.out).next hS.2.2) x)).mono ?_
      rintro e u6 ⟨rfl, hb⟩
      have ra_6 := Lib.hid (ra_2.out.next hb)
      clear ra_2
      have b6 := Lib.hid hb
      clear hb
      clear ra_6
      have hS2 := And.intro (keep_cell b6.out hS.1) (And.intro (keep_cell b6.out hS.2.1) (Below.after hS.2.2 b6.out))
      clear hS
      refine hK.out _ _ hS2 (fun hS => ?_)
      clear hS2 hK K
      try simp only [Act.put, List.setIfInBounds_toArray, List.set_cons_zero, List.set_cons_succ]
      refine wpAnyH_take (i := 7) (oi := ?dqt2x6x7) (v := ?dvt2x6x7) ?hit2x6x7 (by kernel_rfl) (by kernel_rfl) (by kernel_rfl) ?hQt2x6x7 (Or.inl ⟨?hwt2x6x7, ?hyt2x6x7⟩) hS ?hrt2x6x7
      case hit2x6x7 => simp only [List.getElem?_toArray, List.getElem?_cons_succ, List.getElem?_cons_zero]; rfl
      case hQt2x6x7 => exact only_panic
      case hwt2x6x7 => rfl
      case hyt2x6x7 => (intro w hSw; (try dsimp only at hSw); go_simp; (try with_reducible rfl))
      simp only [Act.put, List.setIfInBounds_toArray, List.set_cons_zero, List.set_cons_succ]
      refine wpAnyH_take (i := 8) (oi := ?dqt2x6x8) (v := ?dvt2x6x8) ?hit2x6x8 (by kernel_rfl) (by kernel_rfl) (by kernel_rfl) ?hQt2x6x8 (Or.inl ⟨?hwt2x6x8, ?hyt2x6x8⟩) hS ?hrt2x6x8
      case hit2x6x8 => simp only [List.getElem?_toArray, List.getElem?_cons_succ, List.getElem?_cons_zero]; rfl
      case hQt2x6x8 => exact only_panic
      case hwt2x6x8 => rfl
      case hyt2x6x8 => (intro w hSw; (try dsimp only at hSw); go_simp; (try with_reducible rfl))
      simp only [Act.put, List.setIfInBounds_toArray, List.set_cons_zero, List.set_cons_succ]
      refine wpAnyH_take (i := 9) (oi := ?dqt2x6x9) (v := ?dvt2x6x9) ?hit2x6x9 (by kernel_rfl) (by kernel_rfl) (by kernel_rfl) ?hQt2x6x9 (Or.inl ⟨?hwt2x6x9, ?hyt2x6x9⟩) hS ?hrt2x6x9
      case hit2x6x9 => simp only [List.getElem?_toArray, List.getElem?_cons_succ, List.getElem?_cons_zero]; rfl
      case hQt2x6x9 => exact only_panic
      case hwt2x6x9 => rfl
      case hyt2x6x9 => (intro w hSw; (try dsimp only at hSw); go_simp; (try with_reducible rfl))
      simp only [Act.put, List.setIfInBounds_toArray, List.set_cons_zero, List.set_cons_succ]
      refine wpAnyH_take (i := 10) (oi := ?dqt2x6x10) (v := ?dvt2x6x10) ?hit2x6x10 (by kernel_rfl) (by kernel_rfl) (by kernel_rfl) ?hQt2x6x10 (Or.inl ⟨?hwt2x6x10, ?hyt2x6x10⟩) hS ?hrt2x6x10
      case hit2x6x10 => simp only [List.getElem?_toArray, List.getElem?_cons_succ, List.getElem?_cons_zero]; rfl
      case hQt2x6x10 => exact only_panic
      case hwt2x6x10 => rfl
      case hyt2x6x10 => (intro w hSw; (try dsimp only at hSw); go_simp; (try with_reducible rfl))
      simp only [Act.put, List.setIfInBounds_toArray, List.set_cons_zero, List.set_cons_succ]
      refine wpAnyH_take (i := 12) (oi := ?dqt2x6x12) (v := ?dvt2x6x12) ?hit2x6x12 (by kernel_rfl) (by kernel_rfl) (by kernel_rfl) ?hQt2x6x12 (Or.inl ⟨?hwt2x6x12, ?hyt2x6x12⟩) hS ?hrt2x6x12
      case hit2x6x12 => simp only [List.getElem?_toArray, List.getElem?_cons_succ, List.getElem?_cons_zero]; rfl
      case hQt2x6x12 => exact only_panic
      case hwt2x6x12 => rfl
      case hyt2x6x12 => (intro w hSw; (try dsimp only at hSw); go_simp; (try with_reducible rfl))
      simp only [Act.put, List.setIfInBounds_toArray, List.set_cons_zero, List.set_cons_succ]
      refine wpAnyH_take (i := 14) (oi := ?dqt2x6x14) (v := ?dvt2x6x14) ?hit2x6x14 (by kernel_rfl) (by kernel_rfl) (by kernel_rfl) ?hQt2x6x14 (Or.inl ⟨?hwt2x6x14, ?hyt2x6x14⟩) hS ?hrt2x6x14
      case hit2x6x14 => simp only [List.getElem?_toArray, List.getElem?_cons_succ, List.getElem?_cons_zero]; rfl
      case hQt2x6x14 => exact only_panic
      case hwt2x6x14 => rfl
      case hyt2x6x14 => (intro w hSw; (try dsimp only at hSw); go_simp; (try with_reducible rfl))
      simp only [Act.put, List.setIfInBounds_toArray, List.set_cons_zero, List.set_cons_succ]
      refine wpAnyH_ready (rs := [11]) (by kernel_rfl) (by simp) (AllReadyH.cons (o := ?dqt2x6x11) ?hit2x6x11 (fun K hK => ?cct2x6x11) AllReadyH.nil)
      case hit2x6x11 => simp only [List.getElem?_toArray, List.getElem?_cons_succ, List.getElem?_cons_zero]; rfl
      case cct2x6x11 =>
        go_simp
        go_at_call 13
        refine (collect_some _ _ n x hrl.out hkn h5 _ (H_6.out.next hS.2.2)).mono ?_
        rintro e u11 ⟨A3, c3, rfl, -, -, -, hr, hb⟩
        have rb_11 := Lib.hid hr
        clear hr
        have b11 := Lib.hid hb
        clear hb
        have hS2 := And.intro (keep_cell b11.out hS.1) (And.intro (keep_cell b11.out hS.2.1) (Below.after hS.2.2 b11.out))
        clear hS
        refine hK.out _ _ hS2 (fun hS => ?_)
        clear hS2 hK K
        try simp only [Act.put, List.setIfInBounds_toArray, List.set_cons_zero, List.set_cons_succ]
        refine wpAnyH_ready (rs := [13]) (by kernel_rfl) (by simp) (AllReadyH.cons (o := ?dqt2x6x11x13) ?hit2x6x11x13 (fun K hK => ?cct2x6x11x13) AllReadyH.nil)
        case hit2x6x11x13 => simp only [List.getElem?_toArray, List.getElem?_cons_succ, List.getElem?_cons_zero]; rfl
        case cct2x6x11x13 =>
          go_simp
          go_at_call 16
          refine (turned_made A1 n c1 _ hpl.out h5 _ ((p_6.out).next hS.2.2)).mono ?_
          rintro e u13 ⟨A4, c4, rfl, hc4, -, -, hr, hb⟩
          have rb_13 := Lib.hid (rb_11.out.next hb)
          clear rb_11
          have rc_13 := Lib.hid hr
          clear hr
          have b13 := Lib.hid hb
          clear hb
          have cut4 := cut10 A4 n c4 x (Nat.le_trans hkn hc4)
          have hS2 := And.intro (keep_cell b13.out hS.1) (And.intro (keep_cell b13.out hS.2.1) (Below.after hS.2.2 b13.out))
          clear hS
          refine hK.out _ _ hS2 (fun hS => ?_)
          clear hS2 hK K
          try simp only [Act.put, List.setIfInBounds_toArray, List.set_cons_zero, List.set_cons_succ]
          refine wpAnyH_take (i := 15) (oi := ?dqt2x6x11x13x15) (v := ?dvt2x6x11x13x15) ?hit2x6x11x13x15 (by kernel_rfl) (by kernel_rfl) (by kernel_rfl) ?hQt2x6x11x13x15 (Or.inl ⟨?hwt2x6x11x13x15, ?hyt2x6x11x13x15⟩) hS ?hrt2x6x11x13x15
          case hit2x6x11x13x15 => simp only [List.getElem?_toArray, List.getElem?_cons_succ, List.getElem?_cons_zero]; rfl
          case hQt2x6x11x13x15 => exact only_panic
          case hwt2x6x11x13x15 => rfl
          case hyt2x6x11x13x15 => (intro w hSw; (try dsimp only at hSw); go_simp; (try with_reducible rfl))
          simp only [Act.put, List.setIfInBounds_toArray, List.set_cons_zero, List.set_cons_succ]
          refine wpAnyH_ready (rs := [16]) (by kernel_rfl) (by simp) (AllReadyH.cons (o := ?dqt2x6x11x13x16) ?hit2x6x11x13x16 (fun K hK => ?cct2x6x11x13x16) AllReadyH.nil)
          case hit2x6x11x13x16 => simp only [List.getElem?_toArray, List.getElem?_cons_succ, List.getElem?_cons_zero]; rfl
          case cct2x6x11x13x16 =>
            go_simp
            go_at_call 12
            refine (samePairs_yes A3 A4 x c3 c4 _ hkr.out hk5 _ rb_13.out (row_take rc_13.out x)).mono ?_
            rintro e u16 ⟨rfl, hb⟩
            have rb_16 := Lib.hid (rb_13.out.next hb)
            have rc_16 := Lib.hid (rc_13.out.next hb)
            clear rb_13 rc_13
            have b16 := Lib.hid hb
            clear hb
            clear rb_16 rc_16
            have hS2 := And.intro (keep_cell b16.out hS.1) (And.intro (keep_cell b16.out hS.2.1) (Below.after hS.2.2 b16.out))
            clear hS
            refine hK.out _ _ hS2 (fun hS => ?_)
            clear hS2 hK K
            try simp only [Act.put, List.setIfInBounds_toArray, List.set_cons_zero, List.set_cons_succ]
            refine wpAnyH_take (i := 17) (oi := ?dqt2x6x11x13x16x17) (v := ?dvt2x6x11x13x16x17) ?hit2x6x11x13x16x17 (by kernel_rfl) (by kernel_rfl) (by kernel_rfl) ?hQt2x6x11x13x16x17 (Or.inl ⟨?hwt2x6x11x13x16x17, ?hyt2x6x11x13x16x17⟩) hS ?hrt2x6x11x13x16x17
            case hit2x6x11x13x16x17 => simp only [List.getElem?_toArray, List.getElem?_cons_succ, List.getElem?_cons_zero]; rfl
            case hQt2x6x11x13x16x17 => exact only_panic
            case hwt2x6x11x13x16x17 => rfl
            case hyt2x6x11x13x16x17 => (intro w hSw; (try dsimp only at hSw); go_simp; (try with_reducible rfl))
            simp only [Act.put, List.setIfInBounds_toArray, List.set_cons_zero, List.set_cons_succ]
            refine wpAnyH_take (i := 18) (oi := ?dqt2x6x11x13x16x18) (v := ?dvt2x6x11x13x16x18) ?hit2x6x11x13x16x18 (by kernel_rfl) (by kernel_rfl) (by kernel_rfl) ?hQt2x6x11x13x16x18 (Or.inl ⟨?hwt2x6x11x13x16x18, ?hyt2x6x11x13x16x18⟩) hS ?hrt2x6x11x13x16x18
            case hit2x6x11x13x16x18 => simp only [List.getElem?_toArray, List.getElem?_cons_succ, List.getElem?_cons_zero]; rfl
            case hQt2x6x11x13x16x18 => exact only_panic
            case hwt2x6x11x13x16x18 => rfl
            case hyt2x6x11x13x16x18 => (intro w hSw; (try dsimp only at hSw); go_simp; (try with_reducible rfl))
            simp only [Act.put, List.setIfInBounds_toArray, List.set_cons_zero, List.set_cons_succ]
            refine wpAnyH_take (i := 19) (oi := ?dqt2x6x11x13x16x19) (v := ?dvt2x6x11x13x16x19) ?hit2x6x11x13x16x19 (by kernel_rfl) (by kernel_rfl) (by kernel_rfl) ?hQt2x6x11x13x16x19 (Or.inl ⟨?hwt2x6x11x13x16x19, ?hyt2x6x11x13x16x19⟩) hS ?hrt2x6x11x13x16x19
            case hit2x6x11x13x16x19 => simp only [List.getElem?_toArray, List.getElem?_cons_succ, List.getElem?_cons_zero]; rfl
            case hQt2x6x11x13x16x19 => exact only_panic
            case hwt2x6x11x13x16x19 => rfl
            case hyt2x6x11x13x16x19 => (intro w hSw; (try dsimp only at hSw); go_simp; (try with_reducible rfl))
            simp only [Act.put, List.setIfInBounds_toArray, List.set_cons_zero, List.set_cons_succ]
            refine wpAnyH_take (i := 20) (oi := ?dqt2x6x11x13x16x20) (v := ?dvt2x6x11x13x16x20) ?hit2x6x11x13x16x20 (by kernel_rfl) (by kernel_rfl) (by kernel_rfl) ?hQt2x6x11x13x16x20 (Or.inl ⟨?hwt2x6x11x13x16x20, ?hyt2x6x11x13x16x20⟩) hS ?hrt2x6x11x13x16x20
            case hit2x6x11x13x16x20 => simp only [List.getElem?_toArray, List.getElem?_cons_succ, List.getElem?_cons_zero]; rfl
            case hQt2x6x11x13x16x20 => exact only_panic
            case hwt2x6x11x13x16x20 => rfl
            case hyt2x6x11x13x16x20 => (intro w hSw; (try dsimp only at hSw); go_simp; (try with_reducible rfl))
            simp only [Act.put, List.setIfInBounds_toArray, List.set_cons_zero, List.set_cons_succ]
            refine wpAnyH_take (i := 22) (oi := ?dqt2x6x11x13x16x22) (v := ?dvt2x6x11x13x16x22) ?hit2x6x11x13x16x22 (by kernel_rfl) (by kernel_rfl) (by kernel_rfl) ?hQt2x6x11x13x16x22 (Or.inl ⟨?hwt2x6x11x13x16x22, ?hyt2x6x11x13x16x22⟩) hS ?hrt2x6x11x13x16x22
            case hit2x6x11x13x16x22 => simp only [List.getElem?_toArray, List.getElem?_cons_succ, List.getElem?_cons_zero]; rfl
            case hQt2x6x11x13x16x22 => exact only_panic
            case hwt2x6x11x13x16x22 => rfl
            case hyt2x6x11x13x16x22 => (intro w hSw; (try dsimp only at hSw); go_simp; (try with_reducible rfl))
            simp only [Act.put, List.setIfInBounds_toArray, List.set_cons_zero, List.set_cons_succ]
            refine wpAnyH_ready (rs := [21]) (by kernel_rfl) (by simp) (AllReadyH.cons (o := ?dqt2x6x11x13x16x21) ?hit2x6x11x13x16x21 (fun K hK => ?cct2x6x11x13x16x21) AllReadyH.nil)
            case hit2x6x11x13x16x21 => simp only [List.getElem?_toArray, List.getElem?_cons_succ, List.getElem?_cons_zero]; rfl
            case cct2x6x11x13x16x21 =>
              go_simp
              go_at_call 13
              refine (collect_all _ _ n 100 hpl.out (by omega) (by decide) _ (G_6.out.next hS.2.2)).mono ?_
              rintro e u21 ⟨A5, c5, rfl, -, -, -, hr, hb⟩
              have rd_21 := Lib.hid hr
              clear hr
              have b21 := Lib.hid hb
              clear hb
              have hS2 := And.intro (keep_cell b21.out hS.1) (And.intro (keep_cell b21.out hS.2.1) (Below.after hS.2.2 b21.out))
              clear hS
              refine hK.out _ _ hS2 (fun hS => ?_)
              clear hS2 hK K
              try simp only [Act.put, List.setIfInBounds_toArray, List.set_cons_zero, List.set_cons_succ]
              refine wpAnyH_ready (rs := [23]) (by kernel_rfl) (by simp) (AllReadyH.cons (o := ?dqt2x6x11x13x16x21x23) ?hit2x6x11x13x16x21x23 (fun K hK => ?cct2x6x11x13x16x21x23) AllReadyH.nil)
              case hit2x6x11x13x16x21x23 => simp only [List.getElem?_toArray, List.getElem?_cons_succ, List.getElem?_cons_zero]; rfl
              case cct2x6x11x13x16x21x23 =>
                go_simp
                go_at_call 12
                refine (samePairs_yes A5 A1 n c5 c1 _ hpl.out h5 _ rd_21.out ((p_6.out).next hS.2.2)).mono ?_
                rintro e u23 ⟨rfl, hb⟩
                have rd_23 := Lib.hid (rd_21.out.next hb)
                clear rd_21
                have b23 := Lib.hid hb
                clear hb
                clear rd_23
                have hS2 := And.intro (keep_cell b23.out hS.1) (And.intro (keep_cell b23.out hS.2.1) (Below.after hS.2.2 b23.out))
                clear hS
                refine hK.out _ _ hS2 (fun hS => ?_)
                clear hS2 hK K
                try simp only [Act.put, List.setIfInBounds_toArray, List.set_cons_zero, List.set_cons_succ]
                refine wpAnyH_take (i := 24) (oi := ?dqt2x6x11x13x16x21x23x24) (v := ?dvt2x6x11x13x16x21x23x24) ?hit2x6x11x13x16x21x23x24 (by kernel_rfl) (by kernel_rfl) (by kernel_rfl) ?hQt2x6x11x13x16x21x23x24 (Or.inl ⟨?hwt2x6x11x13x16x21x23x24, ?hyt2x6x11x13x16x21x23x24⟩) hS ?hrt2x6x11x13x16x21x23x24
                case hit2x6x11x13x16x21x23x24 => simp only [List.getElem?_toArray, List.getElem?_cons_succ, List.getElem?_cons_zero]; rfl
                case hQt2x6x11x13x16x21x23x24 => exact only_panic
                case hwt2x6x11x13x16x21x23x24 => rfl
                case hyt2x6x11x13x16x21x23x24 => (intro w hSw; (try dsimp only at hSw); go_simp; (try with_reducible rfl))
                simp only [Act.put, List.setIfInBounds_toArray, List.set_cons_zero, List.set_cons_succ]
                refine wpAnyH_take (i := 25) (oi := ?dqt2x6x11x13x16x21x23x25) (v := ?dvt2x6x11x13x16x21x23x25) ?hit2x6x11x13x16x21x23x25 (by kernel_rfl) (by kernel_rfl) (by kernel_rfl) ?hQt2x6x11x13x16x21x23x25 (Or.inl ⟨?hwt2x6x11x13x16x21x23x25, ?hyt2x6x11x13x16x21x23x25⟩) hS ?hrt2x6x11x13x16x21x23x25
                case hit2x6x11x13x16x21x23x25 => simp only [List.getElem?_toArray, List.getElem?_cons_succ, List.getElem?_cons_zero]; rfl
                case hQt2x6x11x13x16x21x23x25 => exact only_panic
                case hwt2x6x11x13x16x21x23x25 => rfl
                case hyt2x6x11x13x16x21x23x25 => (intro w hSw; (try dsimp only at hSw); go_simp; (try with_reducible rfl))
                simp only [Act.put, List.setIfInBounds_toArray, List.set_cons_zero, List.set_cons_succ]
                refine wpAnyH_done (by kernel_rfl) ?_ _
                dsimp only [OnlyNormal]
                have hb := hS.2.2
                clear hS
                have g_50 := Lib.hid (boxed_next g_6.out hb)
                have p_50 := Lib.hid (p_6.out.next hb)
                have P_50 := Lib.hid (boxed_next P_6.out hb)
                have G_50 := Lib.hid (G_6.out.next hb)
                have H_50 := Lib.hid (H_6.out.next hb)
                have K_50 := Lib.hid (boxed_next K_b.out hb)
                have b_50 := Lib.hid (Below.after b_6.out hb)
                clear hb g_6 p_6 P_6 G_6 H_6 K_b b_6
                go_wp2_with fail
                have bN := Boxed.new u23 3 (nI 0)
                have hBN : Below u23.heap.size u23 (u23.alloc (.cells #[nI 0] 3)) := (Below.refl _ _).alloc (Nat.le_refl _) _
                have hsz : (u23.alloc (.cells #[nI 0] 3)).heap.size = u23.heap.size + 1 := by simp
                obtain ⟨W0, hW0⟩ : ∃ W0, u23.alloc (.cells #[nI 0] 3) = W0 := ⟨_, rfl⟩
                rw [hW0] at bN hBN hsz
                rw [show u23.alloc (.cells #[.int .i64 0] 3) = W0 from hW0]
                clear hW0
                obtain ⟨hB0w, gx, lbx, ex, hent, hseq⟩ := G_50.out
                cases ex
                refine (wpIn_wide (n := 9)).1 ?_
                refine wpIn_rangeFunc_runs rfl (by omega) (gf := g1) (lb := lb1) rfl trivial hent
                  (hseq W0 hBN _) Kt.trans (Kt.put (by omega)) (Below.refl _ _) (fun _ => rfl)
                  (fun pre W => Boxed W u23.heap.size 3 (nI pre.length) ∧ Below u23.heap.size u23 W)
                  (fun _ _ _ => False)
                  (Abide.and (Abide.boxed _ _ _ (.inl rfl)) (Abide.below (by omega) (Nat.le_refl _)))
                  (fun _ _ _ _ hs _ => hs)
                  ⟨bN, hBN⟩
                  (fun x_ a' W => a' = { tmps := #[.slice A n c, .int .u8 (x : Int), undef, undef, .pointer (some ⟨w.heap.size, 0, none⟩), .pointer p, .pointer (some ⟨gP, 0, none⟩), .int .i64 (x : Int), .func (.func g1) #[] lb1, .pointer (some ⟨gB, 0, none⟩), .pointer (some ⟨u23.heap.size, 0, none⟩), .slice A n c, .bool false, .bool false, .slice A n c, .int .i64 (n : Int), .bool false, .bool false, undef, .slice A n c, .pointer p, .slice A n c, .slice A1 n c1, .int .u8 (x : Int), .int .i64 (x : Int), .slice A1 n c1, .int .i64 (n : Int), .int .i64 (x : Int), .pointer p, .func (.func g1) #[] lb1, .pointer p, .func (.func g2) #[] lb2, .func (.func g1) #[] lb1, .int .i64 (x : Int), .slice A2 x c2, .slice A1 n c1, .int .i64 (x : Int), .slice A1 x c1, .bool true, .bool false, .bool false, .func (.func g2) #[] lb2, .int .i64 (x : Int), .slice A3 x c3, .slice A1 n c1, .slice A4 n c4, .int .i64 (x : Int), .slice A4 x c4, .bool true, .bool false, .bool false, .bool false, .func (.func g1) #[] lb1, .slice A5 n c5, .slice A1 n c1, .bool true, .bool false, .bool false, .func (.func g1) #[] lb1, K x_.1, K x_.2, undef, undef, undef, undef, undef, undef, undef, undef, undef, undef, undef, undef, undef, undef, undef, undef, undef, undef, undef, undef, undef], defers := [] })
                  (fun x a' _ X Y row hs hg hr => hs)
                  ?assign ?body ?done ?stop
                case assign =>
                  rintro l pre x W K hI _ hK
                  gi_wp2
                  exact hK _ _ ((KeepsOthers.refl _).from _) (Kt.refl _ W) hI rfl
                case body =>
                  rintro L pre x_ a' W hL _ ⟨bN1, hB1⟩ rfl hlt
                  replace hlt := hlt.length_le
                  rw [List.length_append, List.length_singleton, hpl.out] at hlt
                  have d1 : decide ((n : Int) < (pre.length : Int)) = false := decide_eq_false (by omega)
                  have bP1 := boxed_next P_50.out hB1
                  have bK1 := boxed_next K_50.out hB1
                  have rp1 := Lib.hid (p_50.out.next hB1)
                  have gH1 := Lib.hid (H_50.out.next hB1)
                  have hmx : Try.prog.follows .mixedOrders = true := by kernel_rfl
                  gi_wp2
                  refine wpIn_round_held (S := fun u => u.cell? ⟨gP, 0, none⟩ = some (.slice A1 n c1) ∧ u.cell? ⟨gB, 0, none⟩ = some (.func (.func g2) #[] lb2) ∧ u.cell? ⟨u23.heap.size, 0, none⟩ = some (nI pre.length) ∧ Below W.heap.size W u) hmx (by kernel_rfl) ⟨bP1.cell, bK1.cell, bN1.cell, (Below.refl _ _).drew⟩ (fun hS => ?_)
                  refine wpAnyH_take (i := 0) (oi := ?dqy0) (v := ?dvy0) ?hiy0 (by kernel_rfl) (by kernel_rfl) (by kernel_rfl) ?hQy0 (Or.inl ⟨?hwy0, ?hyy0⟩) hS ?hry0
                  case hiy0 => simp only [List.getElem?_toArray, List.getElem?_cons_zero]; rfl
                  case hQy0 => exact only_panic
                  case hwy0 => rfl
                  case hyy0 => (intro w hSw; (try dsimp only at hSw); go_simp; (try with_reducible rfl))
                  simp only [Act.put, List.setIfInBounds_toArray, List.set_cons_zero, List.set_cons_succ]
                  refine wpAnyH_take (i := 2) (oi := ?dqy2) (v := ?dvy2) ?hiy2 (by kernel_rfl) (by kernel_rfl) (by kernel_rfl) ?hQy2 (Or.inl ⟨?hwy2, ?hyy2⟩) hS ?hry2
                  case hiy2 => simp only [List.getElem?_toArray, List.getElem?_cons_succ, List.getElem?_cons_zero]; rfl
                  case hQy2 => exact only_panic
                  case hwy2 => rfl
                  case hyy2 => (intro w hSw; (try dsimp only at hSw); go_simp; (try with_reducible rfl))
                  simp only [Act.put, List.setIfInBounds_toArray, List.set_cons_zero, List.set_cons_succ]
                  refine wpAnyH_ready (rs := [1]) (by kernel_rfl) (by simp) (AllReadyH.cons (o := ?dqy1) ?hiy1 (fun K hK => ?ccy1) AllReadyH.nil)
                  case hiy1 => simp only [List.getElem?_toArray, List.getElem?_cons_succ, List.getElem?_cons_zero]; rfl
                  case ccy1 =>
                    go_simp
                    go_at_call 13
                    refine (collect_all _ _ n 100 hrl.out (by omega) (by decide) _ (gH1.out.next hS.2.2.2)).mono ?_
                    rintro e u1 ⟨A6, c6, rfl, -, -, -, hr, hb⟩
                    have ra_1 := Lib.hid hr
                    clear hr
                    have b1 := Lib.hid hb
                    clear hb
                    have hS2 := And.intro (keep_cell b1.out hS.1) (And.intro (keep_cell b1.out hS.2.1) (And.intro (keep_cell b1.out hS.2.2.1) (Below.after hS.2.2.2 b1.out)))
                    clear hS
                    refine hK.out _ _ hS2 (fun hS => ?_)
                    clear hS2 hK K
                    try simp only [Act.put, List.setIfInBounds_toArray, List.set_cons_zero, List.set_cons_succ]
                    refine wpAnyH_ready (rs := [3]) (by kernel_rfl) (by simp) (AllReadyH.cons (o := ?dqy1x3) ?hiy1x3 (fun K hK => ?ccy1x3) AllReadyH.nil)
                    case hiy1x3 => simp only [List.getElem?_toArray, List.getElem?_cons_succ, List.getElem?_cons_zero]; rfl
                    case ccy1x3 =>
                      go_simp
                      go_at_call 16
                      refine (turned_made A1 n c1 _ hpl.out h5 _ (rp1.out.next hS.2.2.2)).mono ?_
                      rintro e u3 ⟨A7, c7, rfl, -, -, -, hr, hb⟩
                      have ra_3 := Lib.hid (ra_1.out.next hb)
                      clear ra_1
                      have rb_3 := Lib.hid hr
                      clear hr
                      have b3 := Lib.hid hb
                      clear hb
                      have hS2 := And.intro (keep_cell b3.out hS.1) (And.intro (keep_cell b3.out hS.2.1) (And.intro (keep_cell b3.out hS.2.2.1) (Below.after hS.2.2.2 b3.out)))
                      clear hS
                      refine hK.out _ _ hS2 (fun hS => ?_)
                      clear hS2 hK K
                      try simp only [Act.put, List.setIfInBounds_toArray, List.set_cons_zero, List.set_cons_succ]
                      refine wpAnyH_ready (rs := [4]) (by kernel_rfl) (by simp) (AllReadyH.cons (o := ?dqy1x3x4) ?hiy1x3x4 (fun K hK => ?ccy1x3x4) AllReadyH.nil)
                      case hiy1x3x4 => simp only [List.getElem?_toArray, List.getElem?_cons_succ, List.getElem?_cons_zero]; rfl
                      case ccy1x3x4 =>
                        go_simp
                        go_at_call 12
                        refine (samePairs_yes A6 A7 n c6 c7 _ hrl.out h5 _ ra_3.out rb_3.out).mono ?_
                        rintro e u4 ⟨rfl, hb⟩
                        have ra_4 := Lib.hid (ra_3.out.next hb)
                        have rb_4 := Lib.hid (rb_3.out.next hb)
                        clear ra_3 rb_3
                        have b4 := Lib.hid hb
                        clear hb
                        clear ra_4 rb_4
                        have hS2 := And.intro (keep_cell b4.out hS.1) (And.intro (keep_cell b4.out hS.2.1) (And.intro (keep_cell b4.out hS.2.2.1) (Below.after hS.2.2.2 b4.out)))
                        clear hS
                        refine hK.out _ _ hS2 (fun hS => ?_)
                        clear hS2 hK K
                        try simp only [Act.put, List.setIfInBounds_toArray, List.set_cons_zero, List.set_cons_succ]
                        refine wpAnyH_take (i := 5) (oi := ?dqy1x3x4x5) (v := ?dvy1x3x4x5) ?hiy1x3x4x5 (by kernel_rfl) (by kernel_rfl) (by kernel_rfl) ?hQy1x3x4x5 (Or.inl ⟨?hwy1x3x4x5, ?hyy1x3x4x5⟩) hS ?hry1x3x4x5
                        case hiy1x3x4x5 => simp only [List.getElem?_toArray, List.getElem?_cons_succ, List.getElem?_cons_zero]; rfl
                        case hQy1x3x4x5 => exact only_panic
                        case hwy1x3x4x5 => rfl
                        case hyy1x3x4x5 => (intro w hSw; (try dsimp only at hSw); go_simp; (try with_reducible rfl))
                        simp only [Act.put, List.setIfInBounds_toArray, List.set_cons_zero, List.set_cons_succ]
                        refine wpAnyH_take (i := 6) (oi := ?dqy1x3x4x6) (v := ?dvy1x3x4x6) ?hiy1x3x4x6 (by kernel_rfl) (by kernel_rfl) (by kernel_rfl) ?hQy1x3x4x6 (Or.inl ⟨?hwy1x3x4x6, ?hyy1x3x4x6⟩) hS ?hry1x3x4x6
                        case hiy1x3x4x6 => simp only [List.getElem?_toArray, List.getElem?_cons_succ, List.getElem?_cons_zero]; rfl
                        case hQy1x3x4x6 => exact only_panic
                        case hwy1x3x4x6 => rfl
                        case hyy1x3x4x6 => (intro w hSw; (try dsimp only at hSw); go_simp; (try with_reducible rfl))
                        simp only [Act.put, List.setIfInBounds_toArray, List.set_cons_zero, List.set_cons_succ]
                        refine wpAnyH_take (i := 7) (oi := ?dqy1x3x4x7) (v := ?dvy1x3x4x7) ?hiy1x3x4x7 (by kernel_rfl) (by kernel_rfl) (by kernel_rfl) ?hQy1x3x4x7 (Or.inl ⟨?hwy1x3x4x7, ?hyy1x3x4x7⟩) hS ?hry1x3x4x7
                        case hiy1x3x4x7 => simp only [List.getElem?_toArray, List.getElem?_cons_succ, List.getElem?_cons_zero]; rfl
                        case hQy1x3x4x7 => exact only_panic
                        case hwy1x3x4x7 => rfl
                        case hyy1x3x4x7 => (intro w hSw; (try dsimp only at hSw); go_simp; (try with_reducible rfl))
                        simp only [Act.put, List.setIfInBounds_toArray, List.set_cons_zero, List.set_cons_succ]
                        refine wpAnyH_take (i := 8) (oi := ?dqy1x3x4x8) (v := ?dvy1x3x4x8) ?hiy1x3x4x8 (by kernel_rfl) (by kernel_rfl) (by kernel_rfl) ?hQy1x3x4x8 (Or.inl ⟨?hwy1x3x4x8, ?hyy1x3x4x8⟩) hS ?hry1x3x4x8
                        case hiy1x3x4x8 => simp only [List.getElem?_toArray, List.getElem?_cons_succ, List.getElem?_cons_zero]; rfl
                        case hQy1x3x4x8 => exact only_panic
                        case hwy1x3x4x8 => rfl
                        case hyy1x3x4x8 => (intro w hSw; (try dsimp only at hSw); go_simp; (try with_reducible rfl))
                        simp only [Act.put, List.setIfInBounds_toArray, List.set_cons_zero, List.set_cons_succ]
                        refine wpAnyH_take (i := 9) (oi := ?dqy1x3x4x9) (v := ?dvy1x3x4x9) ?hiy1x3x4x9 (by kernel_rfl) (by kernel_rfl) (by kernel_rfl) ?hQy1x3x4x9 (Or.inl ⟨?hwy1x3x4x9, ?hyy1x3x4x9⟩) hS ?hry1x3x4x9
                        case hiy1x3x4x9 => simp only [List.getElem?_toArray, List.getElem?_cons_succ, List.getElem?_cons_zero]; rfl
                        case hQy1x3x4x9 => exact only_panic
                        case hwy1x3x4x9 => rfl
                        case hyy1x3x4x9 => (intro w hSw; (try dsimp only at hSw); go_simp; (try with_reducible rfl))
                        simp only [Act.put, List.setIfInBounds_toArray, List.set_cons_zero, List.set_cons_succ]
                        refine wpAnyH_take (i := 10) (oi := ?dqy1x3x4x10) (v := ?dvy1x3x4x10) ?hiy1x3x4x10 (by kernel_rfl) (by kernel_rfl) (by kernel_rfl) ?hQy1x3x4x10 (Or.inl ⟨?hwy1x3x4x10, ?hyy1x3x4x10⟩) hS ?hry1x3x4x10
                        case hiy1x3x4x10 => simp only [List.getElem?_toArray, List.getElem?_cons_succ, List.getElem?_cons_zero]; rfl
                        case hQy1x3x4x10 => exact only_panic
                        case hwy1x3x4x10 => rfl
                        case hyy1x3x4x10 => (intro w hSw; (try dsimp only at hSw); go_simp; (try with_reducible rfl))
                        simp only [Act.put, List.setIfInBounds_toArray, List.set_cons_zero, List.set_cons_succ]
                        refine wpAnyH_take (i := 11) (oi := ?dqy1x3x4x11) (v := ?dvy1x3x4x11) ?hiy1x3x4x11 (by kernel_rfl) (by kernel_rfl) (by kernel_rfl) ?hQy1x3x4x11 (Or.inl ⟨?hwy1x3x4x11, ?hyy1x3x4x11⟩) hS ?hry1x3x4x11
                        case hiy1x3x4x11 => simp only [List.getElem?_toArray, List.getElem?_cons_succ, List.getElem?_cons_zero]; rfl
                        case hQy1x3x4x11 => exact only_panic
                        case hwy1x3x4x11 => rfl
                        case hyy1x3x4x11 => (intro w hSw; (try dsimp only at hSw); go_simp; (try with_reducible rfl))
                        simp only [Act.put, List.setIfInBounds_toArray, List.set_cons_zero, List.set_cons_succ]
                        refine wpAnyH_done (by kernel_rfl) ?_ _
                        dsimp only [OnlyNormal]
                        have hb4 := hS.2.2.2
                        clear hS
                        have bN4 := boxed_next bN1 hb4
                        have cN := bN4.cell
                        have fN := bN4.frozen
                        have e5 : wrap64 ((pre.length : Int) + 1) = ((pre.length + 1 : Nat) : Int) := by unfold wrap64; omega
                        gi_wp2
                        refine ⟨((keeps10 hb4).trans (KeepsOthers.setCell _ _ _)).from _, (Kt.of_below hb4 (Nat.le_trans hB0w hB1.size)).trans (Kt.store bN4 _ rfl hB0w), ?_, (hB1.trans (hb4.mono hB1.size)).setCell (p := ⟨u23.heap.size, 0, none⟩) (Nat.le_refl _) _⟩
                        rw [List.length_append, List.length_singleton]
                        exact bN4.set _
                case done =>
                  rintro D W hD ⟨bN1, hB1⟩ hK
                  rw [hpl.out] at bN1
                  have bP1 := boxed_next P_50.out hB1
                  have g1_ := boxed_next g_50.out hB1
                  have cP1 := bP1.cell
                  have cN1 := bN1.cell
                  go_wp2_with fail
                  refine (lA.out _).mono ?_
                  rintro e W8 ⟨rfl, hb8⟩
                  have g8 := boxed_next g1_ hb8
                  have cg := g8.cell
                  have fg := g8.frozen
                  have hK8 : W8.heap[D]? = some (.deferred (some [])) := (hb8.block D (Array.getElem?_eq_some_iff.1 hK).1).trans hK
                  have hB8 := Below.after hB1 hb8
                  go_wp2
                  have hK9 := (KeepsOthers.setCell W8 ⟨w.heap.size, 0, none⟩ (.bool true)).same D _ hK8 rfl
                  have hsw := b_50.out.size
                  refine ⟨by simp, .inl ⟨_, _, rfl, run_takeDeferred hK9, ?_⟩⟩
                  refine ⟨_, results_bool rfl _ _ w.heap.size true rfl Try.underlying4 (cell_kept (g8.set (.bool true)).cell (grownBy_putObj' _ D (.deferred none)) (fun r e => by cases e; exact ⟨_, hK9, rfl⟩)), rfl, ?_⟩
                  exact ((Below.after b_50.out hB8).setCell (p := ⟨w.heap.size, 0, none⟩) (Nat.le_refl _) _).trans (belowK_b (w := w) (Nat.le_refl _) _ D _ _ (by omega) hK9 rfl rfl)
                case stop =>
                  rintro D c pre W _ _ h _
                  exact h.elim

set_option maxRecDepth 100000 in
set_option maxHeartbeats 8000000 in
theorem lookStops_gt (hN : NodeSays Nd) (hS : LookSays Nd) (A : Option Addr) (n c : Nat) (l : List Bd) (t : Tr) (x : Nat) (w : World) (h : LongAt w A n c false) (ht : TreeIn w A n c l t) (h6 : n ≤ 60) (hx8 : x ≤ 255) (hx : n < x) : Calls Try.prog 4 #[.slice A n c, .int .u8 x] w fun e w' => e = .returned (.bool true) ∧ Below w.heap.size w w' := by
  have h5 : n ≤ 1000 := by omega
  have hts : t.size ≤ 1000 := by rw [ht.size]; exact h5
  have cM := Lib.hid (ht.make hN)
  have cP := Lib.hid ht.pairs
  have b0 : Below w.heap.size w (w.alloc (.cells #[.bool false] 4)) := (Below.refl _ _).alloc (Nat.le_refl _) _
  have c0 := Lib.hid (h _ b0)
  have lA := Lib.hid (alive10_any hN hS)
  have sA := Lib.hid (fun W p hT => hS.all W t p _ (Nat.le_refl _) hT hts)
  have sB := Lib.hid (fun W p hT => hS.back W t p _ (Nat.le_refl _) hT hts)
  have hpl : Hid (t.pairs.length = n) := by show t.pairs.length = n; rw [pairs_len, ht.size]
  have hrl : Hid (t.pairs.reverse.length = n) := by show t.pairs.reverse.length = n; rw [List.length_reverse, hpl.out]
  have hkn : n ≤ n := by omega
  have hkl : Hid ((t.pairs.take n).length = n) := by show (t.pairs.take n).length = n; rw [List.length_take, hpl.out]; omega
  have hkr : Hid ((t.pairs.reverse.take n).length = n) := by show (t.pairs.reverse.take n).length = n; rw [List.length_take, hrl.out]; omega
  have hk5 : n ≤ 1000 := by omega
  have d60 : decide ((60 : Int) < (n : Int)) = false := decide_eq_false (by omega)
  have hN' := Lib.hid hN
  obtain ⟨w_0, hw0⟩ : ∃ W, w.alloc (.cells #[.bool false] 4) = W := ⟨_, rfl⟩
  have g_0 : Hid (Boxed w_0 w.heap.size 4 (.bool false)) := hw0 ▸ Boxed.new w _ _
  have b_0 : Hid (Below w.heap.size w w_0) := hw0 ▸ b0
  rw [hw0] at c0
  clear h hN hS ht hts b0
  refine (callsIn_wide (n := 9)).1 ?_
  refine callsIn_of_wp_marks Try.func4 rfl trivial ?_ rfl
  simp only [Try.ntmps4, List.size_toArray, List.length_cons, List.length_nil, Nat.reduceAdd, Nat.reduceSub, Array.replicate_succ, Array.replicate_zero, List.push_toArray, List.append_toArray, List.nil_append, List.cons_append]
  refine wpIn_wide.2 ?_
  go_wp2_with fail
  clear hw0
  refine c0.out.mono ?_
  rintro e w' ⟨rfl, rfl⟩
  go_wp2_with fail
  refine (cM.out w_0 b_0.out).mono ?_
  rintro e w_1 ⟨p, rfl, hT, hb⟩
  have T_1n := Lib.hid hT
  clear hT
  have g_1 := Lib.hid (boxed_next g_0.out hb)
  have b_1 := Lib.hid (Below.after b_0.out hb)
  clear hb g_0 b_0
  go_wp2_with fail
  refine (cP.out w_1 b_1.out).mono ?_
  rintro e w_2 ⟨A1, c1, rfl, hc1, -, -, hr, hb⟩
  have p_2n := Lib.hid hr
  clear hr
  have g_2 := Lib.hid (boxed_next g_1.out hb)
  have T_2 := Lib.hid (T_1n.out.after hN'.out hb)
  have b_2 := Lib.hid (Below.after b_1.out hb)
  clear hb g_1 T_1n b_1
  go_wp2_with fail
  all_goals first | (exfalso; omega) | skip
  obtain ⟨w_P, hnm⟩ : ∃ W, w_2.alloc (.cells #[.slice A1 n c1] 27) = W := ⟨_, rfl⟩
  have hb : Below w_2.heap.size w_2 w_P := hnm ▸ (Below.refl _ _).alloc (Nat.le_refl _) _
  have P_b : Hid (Boxed w_P w_2.heap.size 27 (.slice A1 n c1)) := hnm ▸ Boxed.new w_2 _ _
  rw [hnm]
  clear hnm
  have g_3 := Lib.hid (boxed_next g_2.out hb)
  have T_3 := Lib.hid (T_2.out.after hN'.out hb)
  have p_3 := Lib.hid (p_2n.out.next hb)
  have b_3 := Lib.hid (Below.after b_2.out hb)
  clear hb g_2 T_2 p_2n b_2
  obtain ⟨gP, hgP⟩ : ∃ g, w_2.heap.size = g := ⟨_, rfl⟩
  rw [hgP] at P_b ⊢
  clear hgP
  refine (sA.out w_P p T_3.out).mono ?_
  rintro e w_4 ⟨v1, rfl, hG, hb⟩
  have G_4n := Lib.hid hG
  clear hG
  have g_4 := Lib.hid (boxed_next g_3.out hb)
  have T_4 := Lib.hid (T_3.out.after hN'.out hb)
  have p_4 := Lib.hid (p_3.out.next hb)
  have P_4 := Lib.hid (boxed_next P_b.out hb)
  have b_4 := Lib.hid (Below.after b_3.out hb)
  clear hb g_3 T_3 p_3 P_b b_3
  obtain ⟨g1, lb1, rfl⟩ := G_4n.out.is_func
  go_wp2_with fail
  refine (sB.out w_4 p T_4.out).mono ?_
  rintro e w_5 ⟨v2, rfl, hG, hb⟩
  have H_5n := Lib.hid hG
  clear hG
  have g_5 := Lib.hid (boxed_next g_4.out hb)
  have T_5 := Lib.hid (T_4.out.after hN'.out hb)
  have p_5 := Lib.hid (p_4.out.next hb)
  have P_5 := Lib.hid (boxed_next P_4.out hb)
  have G_5 := Lib.hid (G_4n.out.next hb)
  have b_5 := Lib.hid (Below.after b_4.out hb)
  clear hb g_4 T_4 p_4 P_4 G_4n b_4
  obtain ⟨g2, lb2, rfl⟩ := H_5n.out.is_func
  clear T_5
  go_wp2_with fail
  obtain ⟨w_B, hnm⟩ : ∃ W, w_5.alloc (.cells #[.func (.func g2) #[] lb2] 35) = W := ⟨_, rfl⟩
  have hb : Below w_5.heap.size w_5 w_B := hnm ▸ (Below.refl _ _).alloc (Nat.le_refl _) _
  have K_b : Hid (Boxed w_B w_5.heap.size 35 (.func (.func g2) #[] lb2)) := hnm ▸ Boxed.new w_5 _ _
  rw [hnm]
  clear hnm
  have g_6 := Lib.hid (boxed_next g_5.out hb)
  have p_6 := Lib.hid (p_5.out.next hb)
  have P_6 := Lib.hid (boxed_next P_5.out hb)
  have G_6 := Lib.hid (G_5.out.next hb)
  have H_6 := Lib.hid (H_5n.out.next hb)
  have b_6 := Lib.hid (Below.after b_5.out hb)
  clear hb g_5 p_5 P_5 G_5 H_5n b_5
  obtain ⟨gB, hgB⟩ : ∃ g, w_5.heap.size = g := ⟨_, rfl⟩
  rw [hgB] at K_b ⊢
  clear hgB
  have cut1 := cut10 A1 n c1 n (Nat.le_trans hkn hc1)
  refine wp_region_only (S := fun u => u.cell? ⟨gP, 0, none⟩ = some (.slice A1 n c1) ∧ u.cell? ⟨gB, 0, none⟩ = some (.func (.func g2) #[] lb2) ∧ Below w_B.heap.size w_B u) (by kernel_rfl) ⟨P_6.out.cell, K_b.out.cell, (Below.refl _ _).drew⟩ (fun hS => ?_)
  refine wpAnyH_take (i := 0) (oi := ?dqt0) (v := ?dvt0) ?hit0 (by kernel_rfl) (by kernel_rfl) (by kernel_rfl) ?hQt0 (Or.inl ⟨?hwt0, ?hyt0⟩) hS ?hrt0
  case hit0 => simp only [List.getElem?_toArray, List.getElem?_cons_zero]; rfl
  case hQt0 => exact only_panic
  case hwt0 => rfl
  case hyt0 => (intro w hSw; (try dsimp only at hSw); go_simp; (try with_reducible rfl))
  simp only [Act.put, List.setIfInBounds_toArray, List.set_cons_zero, List.set_cons_succ]
  refine wpAnyH_take (i := 1) (oi := ?dqt1) (v := ?dvt1) ?hit1 (by kernel_rfl) (by kernel_rfl) (by kernel_rfl) ?hQt1 (Or.inl ⟨?hwt1, ?hyt1⟩) hS ?hrt1
  case hit1 => simp only [List.getElem?_toArray, List.getElem?_cons_succ, List.getElem?_cons_zero]; rfl
  case hQt1 => exact only_panic
  case hwt1 => rfl
  case hyt1 => (intro w hSw; (try dsimp only at hSw); go_simp; (try with_reducible rfl))
  simp only [Act.put, List.setIfInBounds_toArray, List.set_cons_zero, List.set_cons_succ]
  refine wpAnyH_take (i := 3) (oi := ?dqt3) (v := ?dvt3) ?hit3 (by kernel_rfl) (by kernel_rfl) (by kernel_rfl) ?hQt3 (Or.inl ⟨?hwt3, ?hyt3⟩) hS ?hrt3
  case hit3 => simp only [List.getElem?_toArray, List.getElem?_cons_succ, List.getElem?_cons_zero]; rfl
  case hQt3 => exact only_panic
  case hwt3 => rfl
  case hyt3 => (intro w hSw; (try dsimp only at hSw); go_simp; (try with_reducible rfl))
  simp only [Act.put, List.setIfInBounds_toArray, List.set_cons_zero, List.set_cons_succ]
  refine wpAnyH_take (i := 4) (oi := ?dqt4) (v := ?dvt4) ?hit4 (by kernel_rfl) (by kernel_rfl) (by kernel_rfl) ?hQt4 (Or.inl ⟨?hwt4, ?hyt4⟩) hS ?hrt4
  case hit4 => simp only [List.getElem?_toArray, List.getElem?_cons_succ, List.getElem?_cons_zero]; rfl
  case hQt4 => exact only_panic
  case hwt4 => rfl
  case hyt4 => (intro w hSw; (try dsimp only at hSw); go_simp; (try with_reducible rfl))
  simp only [Act.put, List.setIfInBounds_toArray, List.set_cons_zero, List.set_cons_succ]
  refine wpAnyH_take (i := 5) (oi := ?dqt5) (v := ?dvt5) ?hit5 (by kernel_rfl) (by kernel_rfl) (by kernel_rfl) ?hQt5 (Or.inl ⟨?hwt5, ?hyt5⟩) hS ?hrt5
  case hit5 => simp only [List.getElem?_toArray, List.getElem?_cons_succ, List.getElem?_cons_zero]; rfl
  case hQt5 => exact only_panic
  case hwt5 => rfl
  case hyt5 => (intro w hSw; (try dsimp only at hSw); go_simp; (try with_reducible rfl))
  simp only [Act.put, List.setIfInBounds_toArray, List.set_cons_zero, List.set_cons_succ]
  refine wpAnyH_ready (rs := [2]) (by kernel_rfl) (by simp) (AllReadyH.cons (o := ?dqt2) ?hit2 (fun K hK => ?cct2) AllReadyH.nil)
  case hit2 => simp only [List.getElem?_toArray, List.getElem?_cons_succ, List.getElem?_cons_zero]; rfl
  case cct2 =>
    go_simp
    go_at_call 13
    refine (collect_some _ _ n n hpl.out hkn h5 _ (G_6.out.next hS.2.2)).mono ?_
    rintro e u2 ⟨A2, c2, rfl, -, -, -, hr, hb⟩
    have ra_2 := Lib.hid hr
    clear hr
    have b2 := Lib.hid hb
    clear hb
    have hS2 := And.intro (keep_cell b2.out hS.1) (And.intro (keep_cell b2.out hS.2.1) (Below.after hS.2.2 b2.out))
    clear hS
    refine hK.out _ _ hS2 (fun hS => ?_)
    clear hS2 hK K
    try simp only [Act.put, List.setIfInBounds_toArray, List.set_cons_zero, List.set_cons_succ]
    refine wpAnyH_ready (rs := [6]) (by kernel_rfl) (by simp) (AllReadyH.cons (o := ?dqt2x6) ?hit2x6 (fun K hK => ?cct2x6) AllReadyH.nil)
    case hit2x6 => simp only [List.getElem?_toArray, List.getElem?_cons_succ, List.getElem?_cons_zero]; rfl
    case cct2x6 =>
      go_simp
      go_at_call 12
      refine (samePairs_yes A2 A1 n c2 c1 _ hkl.out hk5 _ ra_2.out (row_take ((p_6.out).next hS.2.2) n)).mono ?_
      rintro e u6 ⟨rfl, hb⟩
      have ra_6 := Lib.hid (ra_2.out.next hb)
      clear ra_2
      have b6 := Lib.hid hb
      clear hb
      clear ra_6
      have hS2 := And.intro (keep_cell b6.out hS.1) (And.intro (keep_cell b6.out hS.2.1) (Below.after hS.2.2 b6.out))
      clear hS
      refine hK.out _ _ hS2 (fun hS => ?_)
      clear hS2 hK K
      try simp only [Act.put, List.setIfInBounds_toArray, List.set_cons_zero, List.set_cons_succ]
      refine wpAnyH_take (i := 7) (oi := ?dqt2x6x7) (v := ?dvt2x6x7) ?hit2x6x7 (by kernel_rfl) (by kernel_rfl) (by kernel_rfl) ?hQt2x6x7 (Or.inl ⟨?hwt2x6x7, ?hyt2x6x7⟩) hS ?hrt2x6x7
      case hit2x6x7 => simp only [List.getElem?_toArray, List.getElem?_cons_succ, List.getElem?_cons_zero]; rfl
      case hQt2x6x7 => exact only_panic
      case hwt2x6x7 => rfl
      case hyt2x6x7 => (intro w hSw; (try dsimp only at hSw); go_simp; (try with_reducible rfl))
      simp only [Act.put, List.setIfInBounds_toArray, List.set_cons_zero, List.set_cons_succ]
      refine wpAnyH_take (i := 8) (oi := ?dqt2x6x8) (v := ?dvt2x6x8) ?hit2x6x8 (by kernel_rfl) (by kernel_rfl) (by kernel_rfl) ?hQt2x6x8 (Or.inl ⟨?hwt2x6x8, ?hyt2x6x8⟩) hS ?hrt2x6x8
      case hit2x6x8 => simp only [List.getElem?_toArray, List.getElem?_cons_succ, List.getElem?_cons_zero]; rfl
      case hQt2x6x8 => exact only_panic
      case hwt2x6x8 => rfl
      case hyt2x6x8 => (intro w hSw; (try dsimp only at hSw); go_simp; (try with_reducible rfl))
      simp only [Act.put, List.setIfInBounds_toArray, List.set_cons_zero, List.set_cons_succ]
      refine wpAnyH_take (i := 9) (oi := ?dqt2x6x9) (v := ?dvt2x6x9) ?hit2x6x9 (by kernel_rfl) (by kernel_rfl) (by kernel_rfl) ?hQt2x6x9 (Or.inl ⟨?hwt2x6x9, ?hyt2x6x9⟩) hS ?hrt2x6x9
      case hit2x6x9 => simp only [List.getElem?_toArray, List.getElem?_cons_succ, List.getElem?_cons_zero]; rfl
      case hQt2x6x9 => exact only_panic
      case hwt2x6x9 => rfl
      case hyt2x6x9 => (intro w hSw; (try dsimp only at hSw); go_simp; (try with_reducible rfl))
      simp only [Act.put, List.setIfInBounds_toArray, List.set_cons_zero, List.set_cons_succ]
      refine wpAnyH_take (i := 10) (oi := ?dqt2x6x10) (v := ?dvt2x6x10) ?hit2x6x10 (by kernel_rfl) (by kernel_rfl) (by kernel_rfl) ?hQt2x6x10 (Or.inl ⟨?hwt2x6x10, ?hyt2x6x10⟩) hS ?hrt2x6x10
      case hit2x6x10 => simp only [List.getElem?_toArray, List.getElem?_cons_succ, List.getElem?_cons_zero]; rfl
      case hQt2x6x10 => exact only_panic
      case hwt2x6x10 => rfl
      case hyt2x6x10 => (intro w hSw; (try dsimp only at hSw); go_simp; (try with_reducible rfl))
      simp only [Act.put, List.setIfInBounds_toArray, List.set_cons_zero, List.set_cons_succ]
      refine wpAnyH_take (i := 12) (oi := ?dqt2x6x12) (v := ?dvt2x6x12) ?hit2x6x12 (by kernel_rfl) (by kernel_rfl) (by kernel_rfl) ?hQt2x6x12 (Or.inl ⟨?hwt2x6x12, ?hyt2x6x12⟩) hS ?hrt2x6x12
      case hit2x6x12 => simp only [List.getElem?_toArray, List.getElem?_cons_succ, List.getElem?_cons_zero]; rfl
      case hQt2x6x12 => exact only_panic
      case hwt2x6x12 => rfl
      case hyt2x6x12 => (intro w hSw; (try dsimp only at hSw); go_simp; (try with_reducible rfl))
      simp only [Act.put, List.setIfInBounds_toArray, List.set_cons_zero, List.set_cons_succ]
      refine wpAnyH_take (i := 14) (oi := ?dqt2x6x14) (v := ?dvt2x6x14) ?hit2x6x14 (by kernel_rfl) (by kernel_rfl) (by kernel_rfl) ?hQt2x6x14 (Or.inl ⟨?hwt2x6x14, ?hyt2x6x14⟩) hS ?hrt2x6x14
      case hit2x6x14 => simp only [List.getElem?_toArray, List.getElem?_cons_succ, List.getElem?_cons_zero]; rfl
      case hQt2x6x14 => exact only_panic
      case hwt2x6x14 => rfl
      case hyt2x6x14 => (intro w hSw; (try dsimp only at hSw); go_simp; (try with_reducible rfl))
      simp only [Act.put, List.setIfInBounds_toArray, List.set_cons_zero, List.set_cons_succ]
      refine wpAnyH_ready (rs := [11]) (by kernel_rfl) (by simp) (AllReadyH.cons (o := ?dqt2x6x11) ?hit2x6x11 (fun K hK => ?cct2x6x11) AllReadyH.nil)
      case hit2x6x11 => simp only [List.getElem?_toArray, List.getElem?_cons_succ, List.getElem?_cons_zero]; rfl
      case cct2x6x11 =>
        go_simp
        go_at_call 13
        refine (collect_some _ _ n n hrl.out hkn h5 _ (H_6.out.next hS.2.2)).mono ?_
        rintro e u11 ⟨A3, c3, rfl, -, -, -, hr, hb⟩
        have rb_11 := Lib.hid hr
        clear hr
        have b11 := Lib.hid hb
        clear hb
        have hS2 := And.intro (keep_cell b11.out hS.1) (And.intro (keep_cell b11.out hS.2.1) (Below.after hS.2.2 b11.out))
        clear hS
        refine hK.out _ _ hS2 (fun hS => ?_)
        clear hS2 hK K
        try simp only [Act.put, List.setIfInBounds_toArray, List.set_cons_zero, List.set_cons_succ]
        refine wpAnyH_ready (rs := [13]) (by kernel_rfl) (by simp) (AllReadyH.cons (o := ?dqt2x6x11x13) ?hit2x6x11x13 (fun K hK => ?cct2x6x11x13) AllReadyH.nil)
        case hit2x6x11x13 => simp only [List.getElem?_toArray, List.getElem?_cons_succ, List.getElem?_cons_zero]; rfl
        case cct2x6x11x13 =>
          go_simp
          go_at_call 16
          refine (turned_made A1 n c1 _ hpl.out h5 _ ((p_6.out).next hS.2.2)).mono ?_
          rintro e u13 ⟨A4, c4, rfl, hc4, -, -, hr, hb⟩
          have rb_13 := Lib.hid (rb_11.out.next hb)
          clear rb_11
          have rc_13 := Lib.hid hr
          clear hr
          have b13 := Lib.hid hb
          clear hb
          have cut4 := cut10 A4 n c4 n (Nat.le_trans hkn hc4)
          have hS2 := And.intro (keep_cell b13.out hS.1) (And.intro (keep_cell b13.out hS.2.1) (Below.after hS.2.2 b13.out))
          clear hS
          refine hK.out _ _ hS2 (fun hS => ?_)
          clear hS2 hK K
          try simp only [Act.put, List.setIfInBounds_toArray, List.set_cons_zero, List.set_cons_succ]
          refine wpAnyH_take (i := 15) (oi := ?dqt2x6x11x13x15) (v := ?dvt2x6x11x13x15) ?hit2x6x11x13x15 (by kernel_rfl) (by kernel_rfl) (by kernel_rfl) ?hQt2x6x11x13x15 (Or.inl ⟨?hwt2x6x11x13x15, ?hyt2x6x11x13x15⟩) hS ?hrt2x6x11x13x15
          case hit2x6x11x13x15 => simp only [List.getElem?_toArray, List.getElem?_cons_succ, List.getElem?_cons_zero]; rfl
          case hQt2x6x11x13x15 => exact only_panic
          case hwt2x6x11x13x15 => rfl
          case hyt2x6x11x13x15 => (intro w hSw; (try dsimp only at hSw); go_simp; (try with_reducible rfl))
          simp only [Act.put, List.setIfInBounds_toArray, List.set_cons_zero, List.set_cons_succ]
          refine wpAnyH_ready (rs := [16]) (by kernel_rfl) (by simp) (AllReadyH.cons (o := ?dqt2x6x11x13x16) ?hit2x6x11x13x16 (fun K hK => ?cct2x6x11x13x16) AllReadyH.nil)
          case hit2x6x11x13x16 => simp only [List.getElem?_toArray, List.getElem?_cons_succ, List.getElem?_cons_zero]; rfl
          case cct2x6x11x13x16 =>
            go_simp
            go_at_call 12
            refine (samePairs_yes A3 A4 n c3 c4 _ hkr.out hk5 _ rb_13.out (row_take rc_13.out n)).mono ?_
            rintro e u16 ⟨rfl, hb⟩
            have rb_16 := Lib.hid (rb_13.out.next hb)
            have rc_16 := Lib.hid (rc_13.out.next hb)
            clear rb_13 rc_13
            have b16 := Lib.hid hb
            clear hb
            clear rb_16 rc_16
            have hS2 := And.intro (keep_cell b16.out hS.1) (And.intro (keep_cell b16.out hS.2.1) (Below.after hS.2.2 b16.out))
            clear hS
            refine hK.out _ _ hS2 (fun hS => ?_)
            clear hS2 hK K
            try simp only [Act.put, List.setIfInBounds_toArray, List.set_cons_zero, List.set_cons_succ]
            refine wpAnyH_take (i := 17) (oi := ?dqt2x6x11x13x16x17) (v := ?dvt2x6x11x13x16x17) ?hit2x6x11x13x16x17 (by kernel_rfl) (by kernel_rfl) (by kernel_rfl) ?hQt2x6x11x13x16x17 (Or.inl ⟨?hwt2x6x11x13x16x17, ?hyt2x6x11x13x16x17⟩) hS ?hrt2x6x11x13x16x17
            case hit2x6x11x13x16x17 => simp only [List.getElem?_toArray, List.getElem?_cons_succ, List.getElem?_cons_zero]; rfl
            case hQt2x6x11x13x16x17 => exact only_panic
            case hwt2x6x11x13x16x17 => rfl
            case hyt2x6x11x13x16x17 => (intro w hSw; (try dsimp only at hSw); go_simp; (try with_reducible rfl))
            simp only [Act.put, List.setIfInBounds_toArray, List.set_cons_zero, List.set_cons_succ]
            refine wpAnyH_take (i := 18) (oi := ?dqt2x6x11x13x16x18) (v := ?dvt2x6x11x13x16x18) ?hit2x6x11x13x16x18 (by kernel_rfl) (by kernel_rfl) (by kernel_rfl) ?hQt2x6x11x13x16x18 (Or.inl ⟨?hwt2x6x11x13x16x18, ?hyt2x6x11x13x16x18⟩) hS ?hrt2x6x11x13x16x18
            case hit2x6x11x13x16x18 => simp only [List.getElem?_toArray, List.getElem?_cons_succ, List.getElem?_cons_zero]; rfl
            case hQt2x6x11x13x16x18 => exact only_panic
            case hwt2x6x11x13x16x18 => rfl
            case hyt2x6x11x13x16x18 => (intro w hSw; (try dsimp only at hSw); go_simp; (try with_reducible rfl))
            simp only [Act.put, List.setIfInBounds_toArray, List.set_cons_zero, List.set_cons_succ]
            refine wpAnyH_take (i := 19) (oi := ?dqt2x6x11x13x16x19) (v := ?dvt2x6x11x13x16x19) ?hit2x6x11x13x16x19 (by kernel_rfl) (by kernel_rfl) (by kernel_rfl) ?hQt2x6x11x13x16x19 (Or.inl ⟨?hwt2x6x11x13x16x19, ?hyt2x6x11x13x16x19⟩) hS ?hrt2x6x11x13x16x19
            case hit2x6x11x13x16x19 => simp only [List.getElem?_toArray, List.getElem?_cons_succ, List.getElem?_cons_zero]; rfl
            case hQt2x6x11x13x16x19 => exact only_panic
            case hwt2x6x11x13x16x19 => rfl
            case hyt2x6x11x13x16x19 => (intro w hSw; (try dsimp only at hSw); go_simp; (try with_reducible rfl))
            simp only [Act.put, List.setIfInBounds_toArray, List.set_cons_zero, List.set_cons_succ]
            refine wpAnyH_take (i := 20) (oi := ?dqt2x6x11x13x16x20) (v := ?dvt2x6x11x13x16x20) ?hit2x6x11x13x16x20 (by kernel_rfl) (by kernel_rfl) (by kernel_rfl) ?hQt2x6x11x13x16x20 (Or.inl ⟨?hwt2x6x11x13x16x20, ?hyt2x6x11x13x16x20⟩) hS ?hrt2x6x11x13x16x20
            case hit2x6x11x13x16x20 => simp only [List.getElem?_toArray, List.getElem?_cons_succ, List.getElem?_cons_zero]; rfl
            case hQt2x6x11x13x16x20 => exact only_panic
            case hwt2x6x11x13x16x20 => rfl
            case hyt2x6x11x13x16x20 => (intro w hSw; (try dsimp only at hSw); go_simp; (try with_reducible rfl))
            simp only [Act.put, List.setIfInBounds_toArray, List.set_cons_zero, List.set_cons_succ]
            refine wpAnyH_take (i := 22) (oi := ?dqt2x6x11x13x16x22) (v := ?dvt2x6x11x13x16x22) ?hit2x6x11x13x16x22 (by kernel_rfl) (by kernel_rfl) (by kernel_rfl) ?hQt2x6x11x13x16x22 (Or.inl ⟨?hwt2x6x11x13x16x22, ?hyt2x6x11x13x16x22⟩) hS ?hrt2x6x11x13x16x22
            case hit2x6x11x13x16x22 => simp only [List.getElem?_toArray, List.getElem?_cons_succ, List.getElem?_cons_zero]; rfl
            case hQt2x6x11x13x16x22 => exact only_panic
            case hwt2x6x11x13x16x22 => rfl
            case hyt2x6x11x13x16x22 => (intro w hSw; (try dsimp only at hSw); go_simp; (try with_reducible rfl))
            simp only [Act.put, List.setIfInBounds_toArray, List.set_cons_zero, List.set_cons_succ]
            refine wpAnyH_ready (rs := [21]) (by kernel_rfl) (by simp) (AllReadyH.cons (o := ?dqt2x6x11x13x16x21) ?hit2x6x11x13x16x21 (fun K hK => ?cct2x6x11x13x16x21) AllReadyH.nil)
            case hit2x6x11x13x16x21 => simp only [List.getElem?_toArray, List.getElem?_cons_succ, List.getElem?_cons_zero]; rfl
            case cct2x6x11x13x16x21 =>
              go_simp
              go_at_call 13
              refine (collect_all _ _ n 100 hpl.out (by omega) (by decide) _ (G_6.out.next hS.2.2)).mono ?_
              rintro e u21 ⟨A5, c5, rfl, -, -, -, hr, hb⟩
              have rd_21 := Lib.hid hr
              clear hr
              have b21 := Lib.hid hb
              clear hb
              have hS2 := And.intro (keep_cell b21.out hS.1) (And.intro (keep_cell b21.out hS.2.1) (Below.after hS.2.2 b21.out))
              clear hS
              refine hK.out _ _ hS2 (fun hS => ?_)
              clear hS2 hK K
              try simp only [Act.put, List.setIfInBounds_toArray, List.set_cons_zero, List.set_cons_succ]
              refine wpAnyH_ready (rs := [23]) (by kernel_rfl) (by simp) (AllReadyH.cons (o := ?dqt2x6x11x13x16x21x23) ?hit2x6x11x13x16x21x23 (fun K hK => ?cct2x6x11x13x16x21x23) AllReadyH.nil)
              case hit2x6x11x13x16x21x23 => simp only [List.getElem?_toArray, List.getElem?_cons_succ, List.getElem?_cons_zero]; rfl
              case cct2x6x11x13x16x21x23 =>
                go_simp
                go_at_call 12
                refine (samePairs_yes A5 A1 n c5 c1 _ hpl.out h5 _ rd_21.out ((p_6.out).next hS.2.2)).mono ?_
                rintro e u23 ⟨rfl, hb⟩
                have rd_23 := Lib.hid (rd_21.out.next hb)
                clear rd_21
                have b23 := Lib.hid hb
                clear hb
                clear rd_23
                have hS2 := And.intro (keep_cell b23.out hS.1) (And.intro (keep_cell b23.out hS.2.1) (Below.after hS.2.2 b23.out))
                clear hS
                refine hK.out _ _ hS2 (fun hS => ?_)
                clear hS2 hK K
                try simp only [Act.put, List.setIfInBounds_toArray, List.set_cons_zero, List.set_cons_succ]
                refine wpAnyH_take (i := 24) (oi := ?dqt2x6x11x13x16x21x23x24) (v := ?dvt2x6x11x13x16x21x23x24) ?hit2x6x11x13x16x21x23x24 (by kernel_rfl) (by kernel_rfl) (by kernel_rfl) ?hQt2x6x11x13x16x21x23x24 (Or.inl ⟨?hwt2x6x11x13x16x21x23x24, ?hyt2x6x11x13x16x21x23x24⟩) hS ?hrt2x6x11x13x16x21x23x24
                case hit2x6x11x13x16x21x23x24 => simp only [List.getElem?_toArray, List.getElem?_cons_succ, List.getElem?_cons_zero]; rfl
                case hQt2x6x11x13x16x21x23x24 => exact only_panic
                case hwt2x6x11x13x16x21x23x24 => rfl
                case hyt2x6x11x13x16x21x23x24 => (intro w hSw; (try dsimp only at hSw); go_simp; (try with_reducible rfl))
                simp only [Act.put, List.setIfInBounds_toArray, List.set_cons_zero, List.set_cons_succ]
                refine wpAnyH_take (i := 25) (oi := ?dqt2x6x11x13x16x21x23x25) (v := ?dvt2x6x11x13x16x21x23x25) ?hit2x6x11x13x16x21x23x25 (by kernel_rfl) (by kernel_rfl) (by kernel_rfl) ?hQt2x6x11x13x16x21x23x25 (Or.inl ⟨?hwt2x6x11x13x16x21x23x25, ?hyt2x6x11x13x16x21x23x25⟩) hS ?hrt2x6x11x13x16x21x23x25
                case hit2x6x11x13x16x21x23x25 => simp only [List.getElem?_toArray, List.getElem?_cons_succ, List.getElem?_cons_zero]; rfl
                case hQt2x6x11x13x16x21x23x25 => exact only_panic
                case hwt2x6x11x13x16x21x23x25 => rfl
                case hyt2x6x11x13x16x21x23x25 => (intro w hSw; (try dsimp only at hSw); go_simp; (try with_reducible rfl))
                simp only [Act.put, List.setIfInBounds_toArray, List.set_cons_zero, List.set_cons_succ]
                refine wpAnyH_done (by kernel_rfl) ?_ _
                dsimp only [OnlyNormal]
                have hb := hS.2.2
                clear hS
                have g_50 := Lib.hid (boxed_next g_6.out hb)
                have p_50 := Lib.hid (p_6.out.next hb)
                have P_50 := Lib.hid (boxed_next P_6.out hb)
                have G_50 := Lib.hid (G_6.out.next hb)
                have H_50 := Lib.hid (H_6.out.next hb)
                have K_50 := Lib.hid (boxed_next K_b.out hb)
                have b_50 := Lib.hid (Below.after b_6.out hb)
                clear hb g_6 p_6 P_6 G_6 H_6 K_b b_6
                go_wp2_with fail
                have bN := Boxed.new u23 3 (nI 0)
                have hBN : Below u23.heap.size u23 (u23.alloc (.cells #[nI 0] 3)) := (Below.refl _ _).alloc (Nat.le_refl _) _
                have hsz : (u23.alloc (.cells #[nI 0] 3)).heap.size = u23.heap.size + 1 := by simp
                obtain ⟨W0, hW0⟩ : ∃ W0, u23.alloc (.cells #[nI 0] 3) = W0 := ⟨_, rfl⟩
                rw [hW0] at bN hBN hsz
                rw [show u23.alloc (.cells #[.int .i64 0] 3) = W0 from hW0]
                clear hW0
                obtain ⟨hB0w, gx, lbx, ex, hent, hseq⟩ := G_50.out
                cases ex
                refine (wpIn_wide (n := 9)).1 ?_
                refine wpIn_rangeFunc_runs rfl (by omega) (gf := g1) (lb := lb1) rfl trivial hent
                  (hseq W0 hBN _) Kt.trans (Kt.put (by omega)) (Below.refl _ _) (fun _ => rfl)
                  (fun pre W => Boxed W u23.heap.size 3 (nI pre.length) ∧ Below u23.heap.size u23 W)
                  (fun _ _ _ => False)
                  (Abide.and (Abide.boxed _ _ _ (.inl rfl)) (Abide.below (by omega) (Nat.le_refl _)))
                  (fun _ _ _ _ hs _ => hs)
                  ⟨bN, hBN⟩
                  (fun x_ a' W => a' = { tmps := #[.slice A n c, .int .u8 (x : Int), undef, undef, .pointer (some ⟨w.heap.size, 0, none⟩), .pointer p, .pointer (some ⟨gP, 0, none⟩), .int .i64 (n : Int), .func (.func g1) #[] lb1, .pointer (some ⟨gB, 0, none⟩), .pointer (some ⟨u23.heap.size, 0, none⟩), .slice A n c, .bool false, .bool false, .slice A n c, .int .i64 (n : Int), .bool false, .bool false, undef, .slice A n c, .pointer p, .slice A n c, .slice A1 n c1, .int .u8 (x : Int), .int .i64 (x : Int), .slice A1 n c1, .int .i64 (n : Int), .int .i64 (n : Int), .pointer p, .func (.func g1) #[] lb1, .pointer p, .func (.func g2) #[] lb2, .func (.func g1) #[] lb1, .int .i64 (n : Int), .slice A2 n c2, .slice A1 n c1, .int .i64 (n : Int), .slice A1 n c1, .bool true, .bool false, .bool false, .func (.func g2) #[] lb2, .int .i64 (n : Int), .slice A3 n c3, .slice A1 n c1, .slice A4 n c4, .int .i64 (n : Int), .slice A4 n c4, .bool true, .bool false, .bool false, .bool false, .func (.func g1) #[] lb1, .slice A5 n c5, .slice A1 n c1, .bool true, .bool false, .bool false, .func (.func g1) #[] lb1, K x_.1, K x_.2, undef, undef, undef, undef, undef, undef, undef, undef, undef, undef, undef, undef, undef, undef, undef, undef, undef, undef, undef, undef, undef], defers := [] })
                  (fun x a' _ X Y row hs hg hr => hs)
                  ?assign ?body ?done ?stop
                case assign =>
                  rintro l pre x W K hI _ hK
                  gi_wp2
                  exact hK _ _ ((KeepsOthers.refl _).from _) (Kt.refl _ W) hI rfl
                case body =>
                  rintro L pre x_ a' W hL _ ⟨bN1, hB1⟩ rfl hlt
                  replace hlt := hlt.length_le
                  rw [List.length_append, List.length_singleton, hpl.out] at hlt
                  have d1 : decide ((n : Int) < (pre.length : Int)) = false := decide_eq_false (by omega)
                  have bP1 := boxed_next P_50.out hB1
                  have bK1 := boxed_next K_50.out hB1
                  have rp1 := Lib.hid (p_50.out.next hB1)
                  have gH1 := Lib.hid (H_50.out.next hB1)
                  have hmx : Try.prog.follows .mixedOrders = true := by kernel_rfl
                  gi_wp2
                  refine wpIn_round_held (S := fun u => u.cell? ⟨gP, 0, none⟩ = some (.slice A1 n c1) ∧ u.cell? ⟨gB, 0, none⟩ = some (.func (.func g2) #[] lb2) ∧ u.cell? ⟨u23.heap.size, 0, none⟩ = some (nI pre.length) ∧ Below W.heap.size W u) hmx (by kernel_rfl) ⟨bP1.cell, bK1.cell, bN1.cell, (Below.refl _ _).drew⟩ (fun hS => ?_)
                  refine wpAnyH_take (i := 0) (oi := ?dqy0) (v := ?dvy0) ?hiy0 (by kernel_rfl) (by kernel_rfl) (by kernel_rfl) ?hQy0 (Or.inl ⟨?hwy0, ?hyy0⟩) hS ?hry0
                  case hiy0 => simp only [List.getElem?_toArray, List.getElem?_cons_zero]; rfl
                  case hQy0 => exact only_panic
                  case hwy0 => rfl
                  case hyy0 => (intro w hSw; (try dsimp only at hSw); go_simp; (try with_reducible rfl))
                  simp only [Act.put, List.setIfInBounds_toArray, List.set_cons_zero, List.set_cons_succ]
                  refine wpAnyH_take (i := 2) (oi := ?dqy2) (v := ?dvy2) ?hiy2 (by kernel_rfl) (by kernel_rfl) (by kernel_rfl) ?hQy2 (Or.inl ⟨?hwy2, ?hyy2⟩) hS ?hry2
                  case hiy2 => simp only [List.getElem?_toArray, List.getElem?_cons_succ, List.getElem?_cons_zero]; rfl
                  case hQy2 => exact only_panic
                  case hwy2 => rfl
                  case hyy2 => (intro w hSw; (try dsimp only at hSw); go_simp; (try with_reducible rfl))
                  simp only [Act.put, List.setIfInBounds_toArray, List.set_cons_zero, List.set_cons_succ]
                  refine wpAnyH_ready (rs := [1]) (by kernel_rfl) (by simp) (AllReadyH.cons (o := ?dqy1) ?hiy1 (fun K hK => ?ccy1) AllReadyH.nil)
                  case hiy1 => simp only [List.getElem?_toArray, List.getElem?_cons_succ, List.getElem?_cons_zero]; rfl
                  case ccy1 =>
                    go_simp
                    go_at_call 13
                    refine (collect_all _ _ n 100 hrl.out (by omega) (by decide) _ (gH1.out.next hS.2.2.2)).mono ?_
                    rintro e u1 ⟨A6, c6, rfl, -, -, -, hr, hb⟩
                    have ra_1 := Lib.hid hr
                    clear hr
                    have b1 := Lib.hid hb
                    clear hb
                    have hS2 := And.intro (keep_cell b1.out hS.1) (And.intro (keep_cell b1.out hS.2.1) (And.intro (keep_cell b1.out hS.2.2.1) (Below.after hS.2.2.2 b1.out)))
                    clear hS
                    refine hK.out _ _ hS2 (fun hS => ?_)
                    clear hS2 hK K
                    try simp only [Act.put, List.setIfInBounds_toArray, List.set_cons_zero, List.set_cons_succ]
                    refine wpAnyH_ready (rs := [3]) (by kernel_rfl) (by simp) (AllReadyH.cons (o := ?dqy1x3) ?hiy1x3 (fun K hK => ?ccy1x3) AllReadyH.nil)
                    case hiy1x3 => simp only [List.getElem?_toArray, List.getElem?_cons_succ, List.getElem?_cons_zero]; rfl
                    case ccy1x3 =>
                      go_simp
                      go_at_call 16
                      refine (turned_made A1 n c1 _ hpl.out h5 _ (rp1.out.next hS.2.2.2)).mono ?_
                      rintro e u3 ⟨A7, c7, rfl, -, -, -, hr, hb⟩
                      have ra_3 := Lib.hid (ra_1.out.next hb)
                      clear ra_1
                      have rb_3 := Lib.hid hr
                      clear hr
                      have b3 := Lib.hid hb
                      clear hb
                      have hS2 := And.intro (keep_cell b3.out hS.1) (And.intro (keep_cell b3.out hS.2.1) (And.intro (keep_cell b3.out hS.2.2.1) (Below.after hS.2.2.2 b3.out)))
                      clear hS
                      refine hK.out _ _ hS2 (fun hS => ?_)
                      clear hS2 hK K
                      try simp only [Act.put, List.setIfInBounds_toArray, List.set_cons_zero, List.set_cons_succ]
                      refine wpAnyH_ready (rs := [4]) (by kernel_rfl) (by simp) (AllReadyH.cons (o := ?dqy1x3x4) ?hiy1x3x4 (fun K hK => ?ccy1x3x4) AllReadyH.nil)
                      case hiy1x3x4 => simp only [List.getElem?_toArray, List.getElem?_cons_succ, List.getElem?_cons_zero]; rfl
                      case ccy1x3x4 =>
                        go_simp
                        go_at_call 12
                        refine (samePairs_yes A6 A7 n c6 c7 _ hrl.out h5 _ ra_3.out rb_3.out).mono ?_
                        rintro e u4 ⟨rfl, hb⟩
                        have ra_4 := Lib.hid (ra_3.out.next hb)
                        have rb_4 := Lib.hid (rb_3.out.next hb)
                        clear ra_3 rb_3
                        have b4 := Lib.hid hb
                        clear hb
                        clear ra_4 rb_4
                        have hS2 := And.intro (keep_cell b4.out hS.1) (And.intro (keep_cell b4.out hS.2.1) (And.intro (keep_cell b4.out hS.2.2.1) (Below.after hS.2.2.2 b4.out)))
                        clear hS
                        refine hK.out _ _ hS2 (fun hS => ?_)
                        clear hS2 hK K
                        try simp only [Act.put, List.setIfInBounds_toArray, List.set_cons_zero, List.set_cons_succ]
                        refine wpAnyH_take (i := 5) (oi := ?dqy1x3x4x5) (v := ?dvy1x3x4x5) ?hiy1x3x4x5 (by kernel_rfl) (by kernel_rfl) (by kernel_rfl) ?hQy1x3x4x5 (Or.inl ⟨?hwy1x3x4x5, ?hyy1x3x4x5⟩) hS ?hry1x3x4x5
                        case hiy1x3x4x5 => simp only [List.getElem?_toArray, List.getElem?_cons_succ, List.getElem?_cons_zero]; rfl
                        case hQy1x3x4x5 => exact only_panic
                        case hwy1x3x4x5 => rfl
                        case hyy1x3x4x5 => (intro w hSw; (try dsimp only at hSw); go_simp; (try with_reducible rfl))
                        simp only [Act.put, List.setIfInBounds_toArray, List.set_cons_zero, List.set_cons_succ]
                        refine wpAnyH_take (i := 6) (oi := ?dqy1x3x4x6) (v := ?dvy1x3x4x6) ?hiy1x3x4x6 (by kernel_rfl) (by kernel_rfl) (by kernel_rfl) ?hQy1x3x4x6 (Or.inl ⟨?hwy1x3x4x6, ?hyy1x3x4x6⟩) hS ?hry1x3x4x6
                        case hiy1x3x4x6 => simp only [List.getElem?_toArray, List.getElem?_cons_succ, List.getElem?_cons_zero]; rfl
                        case hQy1x3x4x6 => exact only_panic
                        case hwy1x3x4x6 => rfl
                        case hyy1x3x4x6 => (intro w hSw; (try dsimp only at hSw); go_simp; (try with_reducible rfl))
                        simp only [Act.put, List.setIfInBounds_toArray, List.set_cons_zero, List.set_cons_succ]
                        refine wpAnyH_take (i := 7) (oi := ?dqy1x3x4x7) (v := ?dvy1x3x4x7) ?hiy1x3x4x7 (by kernel_rfl) (by kernel_rfl) (by kernel_rfl) ?hQy1x3x4x7 (Or.inl ⟨?hwy1x3x4x7, ?hyy1x3x4x7⟩) hS ?hry1x3x4x7
                        case hiy1x3x4x7 => simp only [List.getElem?_toArray, List.getElem?_cons_succ, List.getElem?_cons_zero]; rfl
                        case hQy1x3x4x7 => exact only_panic
                        case hwy1x3x4x7 => rfl
                        case hyy1x3x4x7 => (intro w hSw; (try dsimp only at hSw); go_simp; (try with_reducible rfl))
                        simp only [Act.put, List.setIfInBounds_toArray, List.set_cons_zero, List.set_cons_succ]
                        refine wpAnyH_take (i := 8) (oi := ?dqy1x3x4x8) (v := ?dvy1x3x4x8) ?hiy1x3x4x8 (by kernel_rfl) (by kernel_rfl) (by kernel_rfl) ?hQy1x3x4x8 (Or.inl ⟨?hwy1x3x4x8, ?hyy1x3x4x8⟩) hS ?hry1x3x4x8
                        case hiy1x3x4x8 => simp only [List.getElem?_toArray, List.getElem?_cons_succ, List.getElem?_cons_zero]; rfl
                        case hQy1x3x4x8 => exact only_panic
                        case hwy1x3x4x8 => rfl
                        case hyy1x3x4x8 => (intro w hSw; (try dsimp only at hSw); go_simp; (try with_reducible rfl))
                        simp only [Act.put, List.setIfInBounds_toArray, List.set_cons_zero, List.set_cons_succ]
                        refine wpAnyH_take (i := 9) (oi := ?dqy1x3x4x9) (v := ?dvy1x3x4x9) ?hiy1x3x4x9 (by kernel_rfl) (by kernel_rfl) (by kernel_rfl) ?hQy1x3x4x9 (Or.inl ⟨?hwy1x3x4x9, ?hyy1x3x4x9⟩) hS ?hry1x3x4x9
                        case hiy1x3x4x9 => simp only [List.getElem?_toArray, List.getElem?_cons_succ, List.getElem?_cons_zero]; rfl
                        case hQy1x3x4x9 => exact only_panic
                        case hwy1x3x4x9 => rfl
                        case hyy1x3x4x9 => (intro w hSw; (try dsimp only at hSw); go_simp; (try with_reducible rfl))
                        simp only [Act.put, List.setIfInBounds_toArray, List.set_cons_zero, List.set_cons_succ]
                        refine wpAnyH_take (i := 10) (oi := ?dqy1x3x4x10) (v := ?dvy1x3x4x10) ?hiy1x3x4x10 (by kernel_rfl) (by kernel_rfl) (by kernel_rfl) ?hQy1x3x4x10 (Or.inl ⟨?hwy1x3x4x10, ?hyy1x3x4x10⟩) hS ?hry1x3x4x10
                        case hiy1x3x4x10 => simp only [List.getElem?_toArray, List.getElem?_cons_succ, List.getElem?_cons_zero]; rfl
                        case hQy1x3x4x10 => exact only_panic
                        case hwy1x3x4x10 => rfl
                        case hyy1x3x4x10 => (intro w hSw; (try dsimp only at hSw); go_simp; (try with_reducible rfl))
                        simp only [Act.put, List.setIfInBounds_toArray, List.set_cons_zero, List.set_cons_succ]
                        refine wpAnyH_take (i := 11) (oi := ?dqy1x3x4x11) (v := ?dvy1x3x4x11) ?hiy1x3x4x11 (by kernel_rfl) (by kernel_rfl) (by kernel_rfl) ?hQy1x3x4x11 (Or.inl ⟨?hwy1x3x4x11, ?hyy1x3x4x11⟩) hS ?hry1x3x4x11
                        case hiy1x3x4x11 => simp only [List.getElem?_toArray, List.getElem?_cons_succ, List.getElem?_cons_zero]; rfl
                        case hQy1x3x4x11 => exact only_panic
                        case hwy1x3x4x11 => rfl
                        case hyy1x3x4x11 => (intro w hSw; (try dsimp only at hSw); go_simp; (try with_reducible rfl))
                        simp only [Act.put, List.setIfInBounds_toArray, List.set_cons_zero, List.set_cons_succ]
                        refine wpAnyH_done (by kernel_rfl) ?_ _
                        dsimp only [OnlyNormal]
                        have hb4 := hS.2.2.2
                        clear hS
                        have bN4 := boxed_next bN1 hb4
                        have cN := bN4.cell
                        have fN := bN4.frozen
                        have e5 : wrap64 ((pre.length : Int) + 1) = ((pre.length + 1 : Nat) : Int) := by unfold wrap64; omega
                        gi_wp2
                        refine ⟨((keeps10 hb4).trans (KeepsOthers.setCell _ _ _)).from _, (Kt.of_below hb4 (Nat.le_trans hB0w hB1.size)).trans (Kt.store bN4 _ rfl hB0w), ?_, (hB1.trans (hb4.mono hB1.size)).setCell (p := ⟨u23.heap.size, 0, none⟩) (Nat.le_refl _) _⟩
                        rw [List.length_append, List.length_singleton]
                        exact bN4.set _
                case done =>
                  rintro D W hD ⟨bN1, hB1⟩ hK
                  rw [hpl.out] at bN1
                  have bP1 := boxed_next P_50.out hB1
                  have g1_ := boxed_next g_50.out hB1
                  have cP1 := bP1.cell
                  have cN1 := bN1.cell
                  go_wp2_with fail
                  refine (lA.out _).mono ?_
                  rintro e W8 ⟨rfl, hb8⟩
                  have g8 := boxed_next g1_ hb8
                  have cg := g8.cell
                  have fg := g8.frozen
                  have hK8 : W8.heap[D]? = some (.deferred (some [])) := (hb8.block D (Array.getElem?_eq_some_iff.1 hK).1).trans hK
                  have hB8 := Below.after hB1 hb8
                  go_wp2
                  have hK9 := (KeepsOthers.setCell W8 ⟨w.heap.size, 0, none⟩ (.bool true)).same D _ hK8 rfl
                  have hsw := b_50.out.size
                  refine ⟨by simp, .inl ⟨_, _, rfl, run_takeDeferred hK9, ?_⟩⟩
                  refine ⟨_, results_bool rfl _ _ w.heap.size true rfl Try.underlying4 (cell_kept (g8.set (.bool true)).cell (grownBy_putObj' _ D (.deferred none)) (fun r e => by cases e; exact ⟨_, hK9, rfl⟩)), rfl, ?_⟩
                  exact ((Below.after b_50.out hB8).setCell (p := ⟨w.heap.size, 0, none⟩) (Nat.le_refl _) _).trans (belowK_b (w := w) (Nat.le_refl _) _ D _ _ (by omega) hK9 rfl rfl)
                case stop =>
                  rintro D c pre W _ _ h _
                  exact h.elim
end Go.Proofs.Ytadncdcblckpjaa
