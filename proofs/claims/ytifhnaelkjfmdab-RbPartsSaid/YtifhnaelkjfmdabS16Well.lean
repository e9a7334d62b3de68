/- Package rb, as landed: isWellTagged, isEven, faultOf. Made by wip/gen/layer16rb.py. -/
import Derived.Test.YtifhnaelkjfmdabS16Leaf
namespace Go.Proofs.Ytifhnaelkjfmdab
open Go.RowKit Go.Proofs.Treem
set_option maxRecDepth 100000
variable {Nd : NdP}

theorem heldKind : Try.prog.stoodInHeld 61 = false := by kernel_rfl
theorem fieldsKind : ∃ pk, Try.prog.fieldsOf 61 = #[{ name := "colour", type := 53, offset := 0, embedded := false, tag := "", pkgPath := pk, byteOffset := 0 }, { name := "high", type := 53, offset := 1, embedded := false, tag := "", pkgPath := pk, byteOffset := 8 }] := by
  simp only [Program.fieldsOf, Try.underlying61]
  exact ⟨_, rfl⟩
theorem kind_eql (a b c d : Nat) (W : World) : (binOp .eql 61 (.agg #[.int .u64 (a : Int), .int .u64 (b : Int)]) (.agg #[.int .u64 (c : Int), .int .u64 (d : Int)])).run Try.prog W = .ok (.bool (decide (a = c ∧ b = d))) W := by
  obtain ⟨pk, hf⟩ := fieldsKind
  rw [run_eql_struct, run_equalIn_struct W 9999 61 _ _ (by simp only [Program.fieldsOf, Try.underlying61]) heldKind, hf]
  simp only [Op.eqFields, ne_eq, String.reduceEq, not_false_eq_true, if_true]
  have ap0 : ∀ W, (part 53 #[.int .u64 (a : Int), .int .u64 (b : Int)] 0).run Try.prog W = .ok (.int .u64 (a : Int)) W := fun W => partU W _ _ _ rfl
  have ap1 : ∀ W, (part 53 #[.int .u64 (a : Int), .int .u64 (b : Int)] 1).run Try.prog W = .ok (.int .u64 (b : Int)) W := fun W => partU W _ _ _ rfl
  have bp0 : ∀ W, (part 53 #[.int .u64 (c : Int), .int .u64 (d : Int)] 0).run Try.prog W = .ok (.int .u64 (c : Int)) W := fun W => partU W _ _ _ rfl
  have bp1 : ∀ W, (part 53 #[.int .u64 (c : Int), .int .u64 (d : Int)] 1).run Try.prog W = .ok (.int .u64 (d : Int)) W := fun W => partU W _ _ _ rfl
  have eu : ∀ (W : World) (a b : Int), (Op.equalIn 9999 53 (.int .u64 a) (.int .u64 b)).run Try.prog W = .ok (a == b) W := fun W a b => run_equalIn_int W 9998 53 .u64 .u64 a b Try.underlying53
  have hb : ∀ a c : Nat, ((a : Int) == (c : Int)) = decide (a = c) := fun a c => by
    by_cases h : a = c
    · rw [h]; simp
    · rw [decide_eq_false h, beq_eq_false_iff_ne]; omega
  simp only [Sem.run_bind, Sem.run_ite, Sem.run_pure, Result.andThen_ok, ap0, ap1, bp0, bp1, eu, hb, Bool.decide_and]
  cases decide (a = c) <;> cases decide (b = d) <;> rfl
def wellR (g p : Nat) : Bool := decide (¬ (g = 0 ∨ (g ≠ 2 * (p / 2) + 1 ∧ g ≠ 2 * (p / 2) + 2)))
def evenR (g p q : Nat) : Bool := decide (¬ (q / 2 ≠ p / 2 ∨ (g % 2 = 1 ∧ (p % 2 = 1 ∨ q % 2 = 1))))
theorem root_R (l : Tr) (k v g : BitVec 64) (r : Tr) : rootR (.n l k v g r) = if wellR g.toNat l.tag.toNat = false then 140 else if evenR g.toNat l.tag.toNat r.tag.toNat = false then 8 else 0 := by
  rw [rootR, oneR]
  simp only [wellR, evenR, decide_eq_false_iff_not, Classical.not_not]
set_option maxHeartbeats 4000000 in
/-- whether a node is what one of its colour over its left side ought to be -/
theorem rbWell_any (hN : NodeSays Nd) (w : World) (t : Tr) (p : Option Addr) (ht : TreeAt Nd w w.heap.size t p) : Calls Try.prog 76 #[.pointer p] w fun e w' => e = .returned (.bool (wellR t.tag.toNat (Tr.lt t).tag.toNat)) ∧ Below w.heap.size w w' := by
  obtain ⟨m, hm⟩ : ∃ m, (Tr.lt t).tag.toNat / 2 = m := ⟨_, rfl⟩
  obtain ⟨c, hc⟩ : ∃ c, t.tag.toNat % 2 = c := ⟨_, rfl⟩
  obtain ⟨d, hd⟩ : ∃ c, t.tag.toNat / 2 = c := ⟨_, rfl⟩
  obtain ⟨y, hy⟩ : ∃ y, (if c = 0 then m + 1 else m) = y := ⟨_, rfl⟩
  have hy' : (c = 0 ∧ y = m + 1) ∨ (c ≠ 0 ∧ y = m) := by
    rw [← hy]
    by_cases h : c = 0
    · exact .inl ⟨h, if_pos h⟩
    · exact .inr ⟨h, if_neg h⟩
  have cK := Lib.hid (kindOf_any hN w t p ht c d hc hd)
  have cL := Lib.hid (fun W (h : Below w.heap.size w W) => TreeAt.leftT hN (ht.after hN h))
  have cO : Hid (∀ W q, TreeAt Nd W W.heap.size (Tr.lt t) q → Calls Try.prog 41 #[.pointer q, .int .u64 (c : Int)] W fun e w' => e = .returned (.agg #[.int .u64 (c : Int), .int .u64 (y : Int)]) ∧ Below W.heap.size W w') := fun W q h => kindOver_any hN W (Tr.lt t) q h c y (by rw [hm]; exact hy')
  have hv : wellR t.tag.toNat (Tr.lt t).tag.toNat = decide (c = c ∧ d = y) := by
    rw [wellR, hm]
    apply decide_eq_decide.2
    omega
  have E := fun W => kind_eql c d c y W
  rw [hv]
  obtain ⟨b, hb⟩ : ∃ b, decide (c = c ∧ d = y) = b := ⟨_, rfl⟩
  rw [hb] at E ⊢
  clear hv hb hy' hy hm hc hd hN ht
  go_enter Try.func76, Try.ntmps76
  go_wp2_with fail
  refine cK.out.mono ?_
  rintro e w1 ⟨rfl, hb⟩
  have b1 := Lib.hid hb
  clear hb cK
  obtain ⟨sz, hsz⟩ : ∃ z, w1.heap.size = z := ⟨_, rfl⟩
  obtain ⟨W2, hW2⟩ : ∃ W, w1.alloc (.cells #[.int .u64 (c : Int), .int .u64 (d : Int)] 61) = W := ⟨_, rfl⟩
  have g2 : Has W2 sz 61 #[.int .u64 (c : Int), .int .u64 (d : Int)] := hsz ▸ hW2 ▸ Has.new w1 _ _
  have B2 : Hid (Below w.heap.size w W2) := Below.after b1.out (hW2 ▸ (Below.refl _ w1).alloc (Nat.le_refl _) _)
  have G2 := Lib.hid g2
  have HS := Lib.hid hsz
  have HW := Lib.hid hW2
  clear g2 hsz hW2 b1
  go_upto_region 2 with (fail)
  rw [HW.out, HS.out]
  have x0 := G2.out.cell 0
  have x1 := G2.out.cell 1
  simp only [List.getElem?_toArray, List.getElem?_cons_zero, List.getElem?_cons_succ] at x0 x1
  refine wp_region_held_drew (S := fun u => u.cell? ⟨sz, 0, none⟩ = some (.int .u64 (c : Int)) ∧ u.cell? ⟨sz, 1, none⟩ = some (.int .u64 (d : Int)) ∧ Below W2.heap.size W2 u) (by kernel_rfl) ⟨x0, x1, (Below.refl _ W2).drew⟩ (fun hS => ?_)
  refine wpAnyH_take (i := 0) (oi := ?dqr1q0) (v := ?dvr1q0) ?hir1q0 (by kernel_rfl) (by kernel_rfl) (by kernel_rfl) ?hQr1q0 (Or.inl ⟨?hwr1q0, ?hyr1q0⟩) hS ?hrr1q0
  case hir1q0 => simp only [List.getElem?_toArray, List.getElem?_cons_zero]; rfl
  case hQr1q0 => exact fun _ _ _ h => h
  case hwr1q0 => rfl
  case hyr1q0 => (intro w hSw; (try dsimp only at hSw); go_simp; (try with_reducible rfl))
  simp only [Act.put, List.setIfInBounds_toArray, List.set_cons_zero, List.set_cons_succ]
  refine wpAnyH_take (i := 1) (oi := ?dqr1q1) (v := ?dvr1q1) ?hir1q1 (by kernel_rfl) (by kernel_rfl) (by kernel_rfl) ?hQr1q1 (Or.inl ⟨?hwr1q1, ?hyr1q1⟩) hS ?hrr1q1
  case hir1q1 => simp only [List.getElem?_toArray, List.getElem?_cons_succ, List.getElem?_cons_zero]; rfl
  case hQr1q1 => exact fun _ _ _ h => h
  case hwr1q1 => rfl
  case hyr1q1 => (intro w hSw; (try dsimp only at hSw); go_simp; (try with_reducible rfl))
  simp only [Act.put, List.setIfInBounds_toArray, List.set_cons_zero, List.set_cons_succ]
  refine wpAnyH_take (i := 3) (oi := ?dqr1q3) (v := ?dvr1q3) ?hir1q3 (by kernel_rfl) (by kernel_rfl) (by kernel_rfl) ?hQr1q3 (Or.inl ⟨?hwr1q3, ?hyr1q3⟩) hS ?hrr1q3
  case hir1q3 => simp only [List.getElem?_toArray, List.getElem?_cons_succ, List.getElem?_cons_zero]; rfl
  case hQr1q3 => exact fun _ _ _ h => h
  case hwr1q3 => rfl
  case hyr1q3 => (intro w hSw; (try dsimp only at hSw); go_simp; (try with_reducible rfl))
  simp only [Act.put, List.setIfInBounds_toArray, List.set_cons_zero, List.set_cons_succ]
  refine wpAnyH_take (i := 4) (oi := ?dqr1q4) (v := ?dvr1q4) ?hir1q4 (by kernel_rfl) (by kernel_rfl) (by kernel_rfl) ?hQr1q4 (Or.inl ⟨?hwr1q4, ?hyr1q4⟩) hS ?hrr1q4
  case hir1q4 => simp only [List.getElem?_toArray, List.getElem?_cons_succ, List.getElem?_cons_zero]; rfl
  case hQr1q4 => exact fun _ _ _ h => h
  case hwr1q4 => rfl
  case hyr1q4 => (intro w hSw; (try dsimp only at hSw); go_simp; (try with_reducible rfl))
  simp only [Act.put, List.setIfInBounds_toArray, List.set_cons_zero, List.set_cons_succ]
  refine wpAnyH_ready (rs := [2]) (by kernel_rfl) (by simp) ?_
  refine AllReadyH.cons (o := ?dqr1q2) ?hir1q2 (fun K hK => ?_) AllReadyH.nil
  case hir1q2 => simp only [List.getElem?_toArray, List.getElem?_cons_succ, List.getElem?_cons_zero]; rfl
  go_simp
  refine (cL.out _ (Below.after B2.out hS.2.2)).mono ?_
  rintro e u1 ⟨q, rfl, hq, hb1⟩
  have HQ := Lib.hid hq
  clear hq
  have hS2 := (And.intro (keep_cell hb1 hS.1) (And.intro (keep_cell hb1 hS.2.1) (Below.after hS.2.2 hb1)))
  clear hS
  refine hK.out _ _ hS2 (fun hS => ?_)
  clear hS2 hK K
  try simp only [Act.put, List.setIfInBounds_toArray, List.set_cons_zero, List.set_cons_succ]
  refine wpAnyH_ready (rs := [5]) (by kernel_rfl) (by simp) ?_
  refine AllReadyH.cons (o := ?dqr1q5) ?hir1q5 (fun K hK => ?_) AllReadyH.nil
  case hir1q5 => simp only [List.getElem?_toArray, List.getElem?_cons_succ, List.getElem?_cons_zero]; rfl
  go_simp
  refine (cO.out _ q HQ.out).mono ?_
  rintro e u2 ⟨rfl, hb2⟩
  have hS2 := (And.intro (keep_cell hb2 hS.1) (And.intro (keep_cell hb2 hS.2.1) (Below.after hS.2.2 hb2)))
  clear hS
  refine hK.out _ _ hS2 (fun hS => ?_)
  clear hS2 hK K
  try simp only [Act.put, List.setIfInBounds_toArray, List.set_cons_zero, List.set_cons_succ]
  refine wpAnyH_take (i := 6) (oi := ?dqr1q6) (v := ?dvr1q6) ?hir1q6 (by kernel_rfl) (by kernel_rfl) (by kernel_rfl) ?hQr1q6 (Or.inl ⟨?hwr1q6, ?hyr1q6⟩) hS ?hrr1q6
  case hir1q6 => simp only [List.getElem?_toArray, List.getElem?_cons_succ, List.getElem?_cons_zero]; rfl
  case hQr1q6 => exact fun _ _ _ h => h
  case hwr1q6 => rfl
  case hyr1q6 => (intro w hSw; (try dsimp only at hSw); go_simp; (try with_reducible rfl))
  simp only [Act.put, List.setIfInBounds_toArray, List.set_cons_zero, List.set_cons_succ]
  refine wpAnyH_take (i := 7) (oi := ?dqr1q7) (v := ?dvr1q7) ?hir1q7 (by kernel_rfl) (by kernel_rfl) (by kernel_rfl) ?hQr1q7 (Or.inl ⟨?hwr1q7, ?hyr1q7⟩) hS ?hrr1q7
  case hir1q7 => simp only [List.getElem?_toArray, List.getElem?_cons_succ, List.getElem?_cons_zero]; rfl
  case hQr1q7 => exact fun _ _ _ h => h
  case hwr1q7 => rfl
  case hyr1q7 => (intro w hSw; (try dsimp only at hSw); go_simp; (try with_reducible rfl))
  simp only [Act.put, List.setIfInBounds_toArray, List.set_cons_zero, List.set_cons_succ]
  refine wpAnyH_done (by kernel_rfl) ?_ _
  have B5 := Lib.hid (Below.after B2.out hS.2.2)
  clear hS hb1 hb2 cL cO HQ x0 x1 G2 HS HW B2
  go_wp2
  go_ret
  exact ⟨rfl, B5.out⟩
set_option maxHeartbeats 4000000 in
/-- whether both sides of a node are as high in black, and, if it is red, none of them is -/
theorem rbEven_any (hN : NodeSays Nd) (w : World) (t : Tr) (p : Option Addr) (ht : TreeAt Nd w w.heap.size t p) : Calls Try.prog 77 #[.pointer p] w fun e w' => e = .returned (.bool (evenR t.tag.toNat (Tr.lt t).tag.toNat (Tr.rt t).tag.toNat)) ∧ Below w.heap.size w w' := by
  obtain ⟨c, hc⟩ : ∃ c, (Tr.lt t).tag.toNat % 2 = c := ⟨_, rfl⟩
  obtain ⟨d, hd⟩ : ∃ c, (Tr.lt t).tag.toNat / 2 = c := ⟨_, rfl⟩
  obtain ⟨c', hc'⟩ : ∃ c, (Tr.rt t).tag.toNat % 2 = c := ⟨_, rfl⟩
  obtain ⟨d', hd'⟩ : ∃ c, (Tr.rt t).tag.toNat / 2 = c := ⟨_, rfl⟩
  have cL := Lib.hid (fun W (h : Below w.heap.size w W) => TreeAt.leftT hN (ht.after hN h))
  have cR := Lib.hid (fun W (h : Below w.heap.size w W) => TreeAt.rightT hN (ht.after hN h))
  have cK := Lib.hid (fun W q (h : TreeAt Nd W W.heap.size (Tr.lt t) q) => kindOf_any hN W (Tr.lt t) q h c d hc hd)
  have cK' := Lib.hid (fun W q (h : TreeAt Nd W W.heap.size (Tr.rt t) q) => kindOf_any hN W (Tr.rt t) q h c' d' hc' hd')
  have cE := Lib.hid (fun W (h : Below w.heap.size w W) => rbRed_any hN W t p (ht.after hN h))
  have E := fun W => kind_eql c d c' d' W
  have hN' := Lib.hid hN
  obtain ⟨v, hv⟩ : ∃ v, evenR t.tag.toNat (Tr.lt t).tag.toNat (Tr.rt t).tag.toNat = v := ⟨_, rfl⟩
  have hv2 : v = if redR t = true then decide (c = c' ∧ d = d') && ((c : Int) == 0) else ((d : Int) == (d' : Int)) := by
    rw [← hv, evenR, hc, hd, hc', hd']
    by_cases hr : redR t = true
    · rw [if_pos hr]
      have h1 := red_iff.1 hr
      rw [Bool.eq_iff_iff, Bool.and_eq_true, decide_eq_true_iff, decide_eq_true_iff, beq_iff_eq]
      omega
    · rw [if_neg hr]
      rw [Bool.not_eq_true] at hr
      have h1 := red_no.1 hr
      rw [Bool.eq_iff_iff, decide_eq_true_iff, beq_iff_eq]
      omega
  rw [hv]
  obtain ⟨r, hr⟩ : ∃ r, redR t = r := ⟨_, rfl⟩
  rw [hr] at hv2 cE
  obtain ⟨b, hb⟩ : ∃ b, decide (c = c' ∧ d = d') = b := ⟨_, rfl⟩
  rw [hb] at hv2 E
  obtain ⟨z, hz⟩ : ∃ b, ((c : Int) == 0) = b := ⟨_, rfl⟩
  rw [hz] at hv2
  obtain ⟨y, hy⟩ : ∃ b, ((d : Int) == (d' : Int)) = b := ⟨_, rfl⟩
  rw [hy] at hv2
  have HV := Lib.hid hv2
  clear hv hr hb hc hd hc' hd' hN ht hv2
  go_enter Try.func77, Try.ntmps77
  go_wp2_with fail
  refine (cL.out w (Below.refl _ _)).mono ?_
  rintro e w1 ⟨q, rfl, hq, hb⟩
  have b1 := Lib.hid hb
  have Q1 := Lib.hid hq
  clear hb hq cL
  go_wp2_with fail
  refine (cK.out w1 q Q1.out).mono ?_
  rintro e w2 ⟨rfl, hb⟩
  have b2 := Lib.hid (Below.after b1.out hb)
  clear hb cK b1 Q1
  go_wp2_with fail
  refine (cR.out w2 b2.out).mono ?_
  rintro e w3 ⟨q', rfl, hq, hb⟩
  have b3 := Lib.hid (Below.after b2.out hb)
  have Q3 := Lib.hid hq
  clear hb hq cR b2
  go_wp2_with fail
  refine (cK'.out w3 q' Q3.out).mono ?_
  rintro e w4 ⟨rfl, hb⟩
  have b4 := Lib.hid (Below.after b3.out hb)
  clear hb cK' b3 Q3
  obtain ⟨sz, hsz⟩ : ∃ z, w4.heap.size = z := ⟨_, rfl⟩
  obtain ⟨sy, hsy⟩ : ∃ z, sz + 1 = z := ⟨_, rfl⟩
  obtain ⟨W5, hW5⟩ : ∃ W, w4.alloc (.cells #[.int .u64 (c : Int), .int .u64 (d : Int)] 61) = W := ⟨_, rfl⟩
  obtain ⟨W6, hW6⟩ : ∃ W, W5.alloc (.cells #[.int .u64 (c' : Int), .int .u64 (d' : Int)] 61) = W := ⟨_, rfl⟩
  have hs5 : W5.heap.size = sy := by rw [← hW5, World.size_alloc, hsz, hsy]
  have g5 : Has W5 sz 61 #[.int .u64 (c : Int), .int .u64 (d : Int)] := hsz ▸ hW5 ▸ Has.new w4 _ _
  have b56 : Below W5.heap.size W5 W6 := hW6 ▸ (Below.refl _ W5).alloc (Nat.le_refl _) _
  have g6 := g5.next b56
  have g7 : Has W6 sy 61 #[.int .u64 (c' : Int), .int .u64 (d' : Int)] := hs5 ▸ hW6 ▸ Has.new W5 _ _
  have B6 : Hid (Below w.heap.size w W6) := Below.after (Below.after b4.out (hW5 ▸ (Below.refl _ w4).alloc (Nat.le_refl _) _)) b56
  have G6 := Lib.hid g6
  have G7 := Lib.hid g7
  have HS := Lib.hid hsz
  have HY := Lib.hid hsy
  have HW5 := Lib.hid hW5
  have HW6 := Lib.hid hW6
  clear g5 g6 g7 b56 hsz hsy hW5 hW6 hs5 b4
  go_upto_region 2 with (fail)
  rw [HS.out, HY.out, HW5.out, HW6.out]
  go_wp2_with fail
  refine (cE.out W6 B6.out).mono ?_
  rintro e w7 ⟨rfl, hb⟩
  have b7 := Lib.hid (Below.after B6.out hb)
  have g6 := G6.out.next hb
  have g7 := G7.out.next hb
  have x0 := g6.cell 0
  have x1 := g6.cell 1
  have y0 := g7.cell 0
  have y1 := g7.cell 1
  simp only [List.getElem?_toArray, List.getElem?_cons_zero, List.getElem?_cons_succ] at x0 x1 y0 y1
  clear hb g6 g7 G6 G7 HS HY HW5 HW6 B6 cE
  cases r with
  | true =>
    cases b with
    | true =>
      go_wp2
      go_ret
      exact ⟨by rw [HV.out]; rfl, b7.out⟩
    | false =>
      go_wp2
      go_ret
      exact ⟨by rw [HV.out]; rfl, b7.out⟩
  | false =>
    go_wp2
    go_ret
    exact ⟨by rw [HV.out]; rfl, b7.out⟩
set_option maxHeartbeats 4000000 in
/-- what is wrong with a node by itself -/
theorem rbFault_any (hN : NodeSays Nd) (w : World) (l : Tr) (k v g : BitVec 64) (r : Tr) (p : Option Addr) (ht : TreeAt Nd w w.heap.size (.n l k v g r) p) : Calls Try.prog 66 #[.pointer p] w fun e w' => e = .returned (nI (rootR (.n l k v g r))) ∧ Below w.heap.size w w' := by
  have cW : Hid (Calls Try.prog 76 #[.pointer p] w fun e w' => e = .returned (.bool (wellR g.toNat l.tag.toNat)) ∧ Below w.heap.size w w') := rbWell_any hN w _ p ht
  have cE : Hid (∀ W, Below w.heap.size w W → Calls Try.prog 77 #[.pointer p] W fun e w' => e = .returned (.bool (evenR g.toNat l.tag.toNat r.tag.toNat)) ∧ Below W.heap.size W w') := fun W h => rbEven_any hN W _ p (ht.after hN h)
  rw [root_R]
  obtain ⟨a, ha⟩ : ∃ a, wellR g.toNat l.tag.toNat = a := ⟨_, rfl⟩
  obtain ⟨b, hb⟩ : ∃ a, evenR g.toNat l.tag.toNat r.tag.toNat = a := ⟨_, rfl⟩
  rw [ha] at cW ⊢
  rw [hb] at cE ⊢
  clear ha hb hN ht
  cases a with
  | false =>
    rw [if_pos rfl]
    clear cE
    go_enter Try.func66, Try.ntmps66
    go_wp2_with fail
    refine cW.out.mono ?_
    rintro e w1 ⟨rfl, hb⟩
    have b1 := Lib.hid hb
    clear hb cW
    go_wp2
    go_ret
    exact ⟨rfl, b1.out⟩
  | true =>
    rw [if_neg (by decide)]
    cases b with
    | false =>
      rw [if_pos rfl]
      go_enter Try.func66, Try.ntmps66
      go_wp2_with fail
      refine cW.out.mono ?_
      rintro e w1 ⟨rfl, hb⟩
      have b1 := Lib.hid hb
      clear hb cW
      go_wp2_with fail
      refine (cE.out w1 b1.out).mono ?_
      rintro e w2 ⟨rfl, hb⟩
      have b2 := Lib.hid (Below.after b1.out hb)
      clear hb cE b1
      go_wp2
      go_ret
      exact ⟨rfl, b2.out⟩
    | true =>
      rw [if_neg (by decide)]
      go_enter Try.func66, Try.ntmps66
      go_wp2_with fail
      refine cW.out.mono ?_
      rintro e w1 ⟨rfl, hb⟩
      have b1 := Lib.hid hb
      clear hb cW
      go_wp2_with fail
      refine (cE.out w1 b1.out).mono ?_
      rintro e w2 ⟨rfl, hb⟩
      have b2 := Lib.hid (Below.after b1.out hb)
      clear hb cE b1
      go_wp2
      go_ret
      exact ⟨rfl, b2.out⟩
end Go.Proofs.Ytifhnaelkjfmdab
