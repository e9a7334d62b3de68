/- Layer 10: the statement LookTurns, walked. Made by wip/gen/layer10.py. -/
import Derived.Test.YtadncdcblckpjaaL10Alive
import Derived.Test.YtadncdcblckpjaaL9Adds
import Derived.Test.YtadncdcblckpjaaGHeld
namespace Go.Proofs.Ytadncdcblckpjaa
open Go.RowKit Go.Proofs.Rowm Go.Proofs.Treem
variable {Nd : NdP}

set_option maxHeartbeats 2000000 in
theorem lookTurns_long (hN : NodeSays Nd) (hS : LookSays Nd) (A : Option Addr) (n c : Nat) (w : World) (h : LongAt w A n c true) : Calls Try.prog 5 #[.slice A n c] w fun e w' => e = .returned (.bool true) ∧ Below w.heap.size w w' := by
  have c0 := Lib.hid (h w (Below.refl _ _))
  have c1 := Lib.hid (alive10_any hN hS)
  clear h hN hS
  go_enter Try.func5, Try.ntmps5
  go_wp2_with (first
    | (go_at_call 6; (with_reducible refine c0.out.mono ?_); rintro e w' ⟨rfl, rfl⟩)
    | (go_at_call 7; refine (c1.out _).mono ?_; rintro e w1 ⟨rfl, hb⟩; have b1 := Lib.hid hb; clear hb)
    | fail)
  go_ret
  exact ⟨rfl, b1.out⟩

theorem size_told (hN : NodeSays Nd) {W : World} {t : Tr} {p : Option Addr} (n : Nat) (hn : t.size = n) (h5 : n ≤ 1000) (hT : TreeAt Nd W W.heap.size t p) : Calls Try.prog 26 #[.pointer p] W fun e w' => e = .returned (nI n) ∧ Below W.heap.size W w' := by
  have h := hT.look.size hN
  rw [hn] at h
  rw [show (nI n) = K (BitVec.ofNat 64 n) by show Value.int .i64 n = Value.int .i64 (BitVec.ofNat 64 n).toInt; rw [size_bits (by omega)]]
  exact h
set_option maxHeartbeats 8000000 in
theorem lookTurns_yes (hN : NodeSays Nd) (hS : LookSays Nd) (A : Option Addr) (n c : Nat) (l : List Bd) (t : Tr) (w : World) (h : LongAt w A n c false) (ht : TreeIn w A n c l t) : Calls Try.prog 5 #[.slice A n c] w fun e w' => e = .returned (.bool true) ∧ Below w.heap.size w w' := by
  have h4 := ht.few
  have h5 : n ≤ 1000 := by omega
  have hts : t.size ≤ 1000 := by rw [ht.size]; exact h5
  have cM := Lib.hid (ht.make hN)
  have c0 := Lib.hid (h w (Below.refl _ _))
  have lA := Lib.hid (alive10_any hN hS)
  have sA := Lib.hid (fun W p hT => hS.all W t p _ (Nat.le_refl _) hT hts)
  have sB := Lib.hid (fun W p hT => hS.back W t p _ (Nat.le_refl _) hT hts)
  have sHe := Lib.hid (fun W p hT => hS.height W t p hT hts)
  have sC := Lib.hid (fun W p hT => hS.count W t p hT hts)
  have sZ := Lib.hid (fun W p (hT : TreeAt Nd W W.heap.size t p) => size_told hN n ht.size h5 hT)
  have sP := Lib.hid (fun W p (hT : TreeAt Nd W W.heap.size t p) => look_pairs hS n ht.size h5 hT)
  have sK := Lib.hid (fun W p (hT : TreeAt Nd W W.heap.size t p) => look_keys hS n ht.size h5 hT)
  have hpl : Hid (t.pairs.length = n) := by show t.pairs.length = n; rw [pairs_len, ht.size]
  have hrl : Hid (t.pairs.reverse.length = n) := by show t.pairs.reverse.length = n; rw [List.length_reverse, hpl.out]
  have hkl0 : Hid ((t.pairs.map (·.1)).length = n) := by show (t.pairs.map (·.1)).length = n; rw [List.length_map, hpl.out]
  rw [ht.size] at sC
  have hN' := Lib.hid hN
  obtain ⟨gg, hgg⟩ : ∃ d, t.high = d := ⟨_, rfl⟩
  rw [hgg] at sHe
  have hg1 : gg ≤ n := by rw [← hgg, ← ht.size]; exact high_le t
  have hg2 : Hid (n < 2 ^ gg) := by show n < 2 ^ gg; rw [← hgg, ← ht.size]; exact size_lt t
  have sX : Hid (∀ (k : Nat) (x : BitVec 64), (∃ q ∈ t.pairs, q.1 = x) → ∃ d, 1 ≤ d ∧ d ≤ gg ∧ (∀ (W : World) (p : Option Addr), TreeAt Nd W W.heap.size t p → Calls Try.prog 10 #[.pointer p, K x] W fun e w' => e = .returned (.tuple #[nI d, .bool true]) ∧ Below W.heap.size W w') ∧ (∀ (W : World) (p : Option Addr), TreeAt Nd W W.heap.size t p → Calls Try.prog 24 #[.pointer p, K x] W fun e w' => e = .returned (.bool true) ∧ Below W.heap.size W w')) := fun k x hx => by
    have h1 := has_pairs x t hx
    have h2 := deep_yes x t h1
    refine ⟨t.deep x, h2.1, hgg ▸ h2.2, fun W p hT => ?_, fun W p hT => ?_⟩
    · have := hS.deep W t p x hT hts; rw [h1] at this; exact this
    · have := hS.has W t p x hT hts; rw [h1] at this; exact this
  clear h hN hS ht hts hgg
  go_enter Try.func5, Try.ntmps5
  go_wp2_with (go_at_call 6; (with_reducible refine c0.out.mono ?_); rintro e w' ⟨rfl, rfl⟩)
  refine (cM.out w (Below.refl _ _)).mono ?_
  rintro e w_1 ⟨p, rfl, hT, hb⟩
  have T_1n := Lib.hid hT
  clear hT
  have b_1 := Lib.hid hb
  clear hb
  go_wp2_with fail
  refine (sA.out w_1 p T_1n.out).mono ?_
  rintro e w_2 ⟨v1, rfl, hG, hb⟩
  have G_2n := Lib.hid hG
  clear hG
  have T_2 := Lib.hid (T_1n.out.after hN'.out hb)
  have b_2 := Lib.hid (Below.after b_1.out hb)
  clear hb T_1n b_1
  go_wp2_with fail
  refine (collect_all v1 _ n 1000 hpl.out h5 (by decide) w_2 G_2n.out).mono ?_
  rintro e w_3 ⟨A1, c1, rfl, -, -, -, hr, hb⟩
  have p_3n := Lib.hid hr
  clear hr
  have T_3 := Lib.hid (T_2.out.after hN'.out hb)
  have G_3 := Lib.hid (G_2n.out.next hb)
  have b_3 := Lib.hid (Below.after b_2.out hb)
  clear hb T_2 G_2n b_2
  clear G_3
  go_wp2_with fail
  refine (sK.out w_3 p T_3.out).mono ?_
  rintro e w_4 ⟨A2, c2, rfl, hr, hb⟩
  have k_4n := Lib.hid hr
  clear hr
  have T_4 := Lib.hid (T_3.out.after hN'.out hb)
  have p_4 := Lib.hid (p_3n.out.next hb)
  have b_4 := Lib.hid (Below.after b_3.out hb)
  clear hb T_3 p_3n b_3
  go_wp2_with fail
  refine (sHe.out w_4 p T_4.out).mono ?_
  rintro e w_5 ⟨rfl, hb⟩
  have T_5 := Lib.hid (T_4.out.after hN'.out hb)
  have p_5 := Lib.hid (p_4.out.next hb)
  have k_5 := Lib.hid (k_4n.out.next hb)
  have b_5 := Lib.hid (Below.after b_4.out hb)
  clear hb T_4 p_4 k_4n b_4
  go_wp2_with fail
  refine (turned_made A1 n c1 _ hpl.out h5 w_5 p_5.out).mono ?_
  rintro e w_6 ⟨A3, c3, rfl, -, -, -, hr, hb⟩
  have q_6n := Lib.hid hr
  clear hr
  have T_6 := Lib.hid (T_5.out.after hN'.out hb)
  have p_6 := Lib.hid (p_5.out.next hb)
  have k_6 := Lib.hid (k_5.out.next hb)
  have b_6 := Lib.hid (Below.after b_5.out hb)
  clear hb T_5 p_5 k_5 b_5
  go_wp2_with fail
  refine (sB.out w_6 p T_6.out).mono ?_
  rintro e w_7 ⟨v2, rfl, hG, hb⟩
  have G_7n := Lib.hid hG
  clear hG
  have T_7 := Lib.hid (T_6.out.after hN'.out hb)
  have p_7 := Lib.hid (p_6.out.next hb)
  have k_7 := Lib.hid (k_6.out.next hb)
  have q_7 := Lib.hid (q_6n.out.next hb)
  have b_7 := Lib.hid (Below.after b_6.out hb)
  clear hb T_6 p_6 k_6 q_6n b_6
  go_wp2_with fail
  refine (collect_all v2 _ n 1000 hrl.out h5 (by decide) w_7 G_7n.out).mono ?_
  rintro e w_8 ⟨A4, c4, rfl, -, -, -, hr, hb⟩
  have s_8n := Lib.hid hr
  clear hr
  have T_8 := Lib.hid (T_7.out.after hN'.out hb)
  have p_8 := Lib.hid (p_7.out.next hb)
  have k_8 := Lib.hid (k_7.out.next hb)
  have q_8 := Lib.hid (q_7.out.next hb)
  have G_8 := Lib.hid (G_7n.out.next hb)
  have b_8 := Lib.hid (Below.after b_7.out hb)
  clear hb T_7 p_7 k_7 q_7 G_7n b_7
  clear G_8
  go_wp2_with fail
  refine (samePairs_yes A3 A4 n c3 c4 _ hrl.out h5 w_8 q_8.out s_8n.out).mono ?_
  rintro e w_9 ⟨rfl, hb⟩
  have T_9 := Lib.hid (T_8.out.after hN'.out hb)
  have p_9 := Lib.hid (p_8.out.next hb)
  have k_9 := Lib.hid (k_8.out.next hb)
  have q_9 := Lib.hid (q_8.out.next hb)
  have s_9 := Lib.hid (s_8n.out.next hb)
  have b_9 := Lib.hid (Below.after b_8.out hb)
  clear hb T_8 p_8 k_8 q_8 s_8n b_8
  clear q_9
  clear s_9
  go_wp2_with fail
  refine (sP.out w_9 p T_9.out).mono ?_
  rintro e w_10 ⟨A5, c5, rfl, -, -, -, hr, hb⟩
  have q_10n := Lib.hid hr
  clear hr
  have T_10 := Lib.hid (T_9.out.after hN'.out hb)
  have p_10 := Lib.hid (p_9.out.next hb)
  have k_10 := Lib.hid (k_9.out.next hb)
  have b_10 := Lib.hid (Below.after b_9.out hb)
  clear hb T_9 p_9 k_9 b_9
  go_wp2_with fail
  refine (samePairs_yes A1 A5 n c1 c5 _ hpl.out h5 w_10 p_10.out q_10n.out).mono ?_
  rintro e w_11 ⟨rfl, hb⟩
  have T_11 := Lib.hid (T_10.out.after hN'.out hb)
  have p_11 := Lib.hid (p_10.out.next hb)
  have k_11 := Lib.hid (k_10.out.next hb)
  have q_11 := Lib.hid (q_10n.out.next hb)
  have b_11 := Lib.hid (Below.after b_10.out hb)
  clear hb T_10 p_10 k_10 q_10n b_10
  clear q_11
  go_wp2_with fail
  refine (sC.out w_11 p T_11.out).mono ?_
  rintro e w_12 ⟨rfl, hb⟩
  have T_12 := Lib.hid (T_11.out.after hN'.out hb)
  have p_12 := Lib.hid (p_11.out.next hb)
  have k_12 := Lib.hid (k_11.out.next hb)
  have b_12 := Lib.hid (Below.after b_11.out hb)
  clear hb T_11 p_11 k_11 b_11
  go_wp2_with fail
  refine (sZ.out w_12 p T_12.out).mono ?_
  rintro e w_13 ⟨rfl, hb⟩
  have T_13 := Lib.hid (T_12.out.after hN'.out hb)
  have p_13 := Lib.hid (p_12.out.next hb)
  have k_13 := Lib.hid (k_12.out.next hb)
  have b_13 := Lib.hid (Below.after b_12.out hb)
  clear hb T_12 p_12 k_12 b_12
  go_wp2_with fail
  refine (sZ.out w_13 p T_13.out).mono ?_
  rintro e w_14 ⟨rfl, hb⟩
  have T_14 := Lib.hid (T_13.out.after hN'.out hb)
  have p_14 := Lib.hid (p_13.out.next hb)
  have k_14 := Lib.hid (k_13.out.next hb)
  have b_14 := Lib.hid (Below.after b_13.out hb)
  clear hb T_13 p_13 k_13 b_13
  go_wp2_with fail
  go_loopw [7] (fun i wr => ∃ k : Nat, k ≤ n ∧ i = .int .i64 k ∧ Below w_14.heap.size w_14 wr) (fun i _ => n - (intOf i).toNat)
  case atStart => exact ⟨0, Nat.zero_le _, rfl, Below.refl _ _⟩
  case round =>
    obtain ⟨k, hk, rfl, hb⟩ := hrel
    have hb' := Lib.hid hb
    clear hb
    have hT0 := Lib.hid (T_14.out.after hN'.out hb'.out)
    by_cases hlt : k < n
    · have hkl : k < t.pairs.length := by rw [hpl.out]; exact hlt
      have hkk : k < (t.pairs.map (·.1)).length := by rw [hkl0.out]; exact hlt
      obtain ⟨x, hx⟩ : ∃ x, t.pairs[k].1 = x := ⟨_, rfl⟩
      obtain ⟨d, hd1, hd2, xD, xH⟩ := sX.out k x ⟨t.pairs[k], List.getElem_mem hkl, hx⟩
      have xDeep := Lib.hid xD
      have xHas := Lib.hid xH
      obtain ⟨ad1, hA1, hb1, g1, g1'⟩ := pair_at (p_14.out.next hb'.out) k hkl
      obtain ⟨ad2, hA2, hb2, g2⟩ := key_at (k_14.out.next hb'.out) k hkk
      rw [List.getElem_map] at g2
      rw [hx] at g1 g2
      subst hA1 hA2
      clear xD xH g1' hx hb1 hb2
      go_wp2_with fail
      refine (xDeep.out wr p hT0.out).mono ?_
      rintro e w3 ⟨rfl, hb3⟩
      have b3 := Lib.hid hb3
      have f1 := keep_cell hb3 g1
      have f2 := keep_cell hb3 g2
      have hT1 := Lib.hid (hT0.out.after hN'.out hb3)
      clear hb3 g1 g2 xDeep hT0
      have d1 : decide ((d : Int) < 1) = false := decide_eq_false (by omega)
      have d2 : decide ((gg : Int) < (d : Int)) = false := decide_eq_false (by omega)
      go_wp2_with fail
      refine wp_region_held_drew (S := fun u => u.cell? (ad2.add k) = some (K x) ∧ u.cell? (ad1.add (k * 2)) = some (K x) ∧ Below w3.heap.size w3 u) (by kernel_rfl) ⟨f2, f1, (Below.refl w3.heap.size w3).drew⟩ (fun hS => ?_)
      refine wpAnyH_take (i := 0) (oi := ?dqr1q0) (v := ?dvr1q0) ?hir1q0 (by kernel_rfl) (by kernel_rfl) (by kernel_rfl) ?hQr1q0 (Or.inl ⟨?hwr1q0, ?hyr1q0⟩) hS ?hrr1q0
      case hir1q0 => simp only [List.getElem?_toArray, List.getElem?_cons_zero]; rfl
      case hQr1q0 => exact fun _ _ _ h => h
      case hwr1q0 => rfl
      case hyr1q0 => (intro w hSw; (try dsimp only at hSw); go_simp; (try with_reducible rfl))
      simp only [Act.put, List.setIfInBounds_toArray, List.set_cons_zero, List.set_cons_succ]
      refine wpAnyH_take (i := 1) (oi := ?dqr1q1) (v := ?dvr1q1) ?hir1q1 (by kernel_rfl) (by kernel_rfl) (by kernel_rfl) ?hQr1q1 (Or.inl ⟨?hwr1q1, ?hyr1q1⟩) hS ?hrr1q1
      case hir1q1 => simp only [List.getElem?_toArray, List.getElem?_cons_succ, List.getElem?_cons_zero]; rfl
      case hQr1q1 => exact fun _ _ _ h => h
      case hwr1q1 => rfl
      case hyr1q1 => (intro w hSw; (try dsimp only at hSw); go_simp; (try with_reducible rfl))
      simp only [Act.put, List.setIfInBounds_toArray, List.set_cons_zero, List.set_cons_succ]
      refine wpAnyH_take (i := 2) (oi := ?dqr1q2) (v := ?dvr1q2) ?hir1q2 (by kernel_rfl) (by kernel_rfl) (by kernel_rfl) ?hQr1q2 (Or.inl ⟨?hwr1q2, ?hyr1q2⟩) hS ?hrr1q2
      case hir1q2 => simp only [List.getElem?_toArray, List.getElem?_cons_succ, List.getElem?_cons_zero]; rfl
      case hQr1q2 => exact fun _ _ _ h => h
      case hwr1q2 => rfl
      case hyr1q2 => (intro w hSw; (try dsimp only at hSw); go_simp; (try with_reducible rfl))
      simp only [Act.put, List.setIfInBounds_toArray, List.set_cons_zero, List.set_cons_succ]
      refine wpAnyH_take (i := 3) (oi := ?dqr1q3) (v := ?dvr1q3) ?hir1q3 (by kernel_rfl) (by kernel_rfl) (by kernel_rfl) ?hQr1q3 (Or.inl ⟨?hwr1q3, ?hyr1q3⟩) hS ?hrr1q3
      case hir1q3 => simp only [List.getElem?_toArray, List.getElem?_cons_succ, List.getElem?_cons_zero]; rfl
      case hQr1q3 => exact fun _ _ _ h => h
      case hwr1q3 => rfl
      case hyr1q3 => (intro w hSw; (try dsimp only at hSw); go_simp; (try with_reducible rfl))
      simp only [Act.put, List.setIfInBounds_toArray, List.set_cons_zero, List.set_cons_succ]
      refine wpAnyH_take (i := 4) (oi := ?dqr1q4) (v := ?dvr1q4) ?hir1q4 (by kernel_rfl) (by kernel_rfl) (by kernel_rfl) ?hQr1q4 (Or.inl ⟨?hwr1q4, ?hyr1q4⟩) hS ?hrr1q4
      case hir1q4 => simp only [List.getElem?_toArray, List.getElem?_cons_succ, List.getElem?_cons_zero]; rfl
      case hQr1q4 => exact fun _ _ _ h => h
      case hwr1q4 => rfl
      case hyr1q4 => (intro w hSw; (try dsimp only at hSw); go_simp; (try with_reducible rfl))
      simp only [Act.put, List.setIfInBounds_toArray, List.set_cons_zero, List.set_cons_succ]
      refine wpAnyH_take (i := 5) (oi := ?dqr1q5) (v := ?dvr1q5) ?hir1q5 (by kernel_rfl) (by kernel_rfl) (by kernel_rfl) ?hQr1q5 (Or.inl ⟨?hwr1q5, ?hyr1q5⟩) hS ?hrr1q5
      case hir1q5 => simp only [List.getElem?_toArray, List.getElem?_cons_succ, List.getElem?_cons_zero]; rfl
      case hQr1q5 => exact fun _ _ _ h => h
      case hwr1q5 => rfl
      case hyr1q5 => (intro w hSw; (try dsimp only at hSw); go_simp; (try with_reducible rfl))
      simp only [Act.put, List.setIfInBounds_toArray, List.set_cons_zero, List.set_cons_succ]
      refine wpAnyH_take (i := 6) (oi := ?dqr1q6) (v := ?dvr1q6) ?hir1q6 (by kernel_rfl) (by kernel_rfl) (by kernel_rfl) ?hQr1q6 (Or.inl ⟨?hwr1q6, ?hyr1q6⟩) hS ?hrr1q6
      case hir1q6 => simp only [List.getElem?_toArray, List.getElem?_cons_succ, List.getElem?_cons_zero]; rfl
      case hQr1q6 => exact fun _ _ _ h => h
      case hwr1q6 => rfl
      case hyr1q6 => (intro w hSw; (try dsimp only at hSw); go_simp; (try with_reducible rfl))
      simp only [Act.put, List.setIfInBounds_toArray, List.set_cons_zero, List.set_cons_succ]
      refine wpAnyH_take (i := 7) (oi := ?dqr1q7) (v := ?dvr1q7) ?hir1q7 (by kernel_rfl) (by kernel_rfl) (by kernel_rfl) ?hQr1q7 (Or.inl ⟨?hwr1q7, ?hyr1q7⟩) hS ?hrr1q7
      case hir1q7 => simp only [List.getElem?_toArray, List.getElem?_cons_succ, List.getElem?_cons_zero]; rfl
      case hQr1q7 => exact fun _ _ _ h => h
      case hwr1q7 => rfl
      case hyr1q7 => (intro w hSw; (try dsimp only at hSw); go_simp; (try with_reducible rfl))
      simp only [Act.put, List.setIfInBounds_toArray, List.set_cons_zero, List.set_cons_succ]
      refine wpAnyH_take (i := 8) (oi := ?dqr1q8) (v := ?dvr1q8) ?hir1q8 (by kernel_rfl) (by kernel_rfl) (by kernel_rfl) ?hQr1q8 (Or.inl ⟨?hwr1q8, ?hyr1q8⟩) hS ?hrr1q8
      case hir1q8 => simp only [List.getElem?_toArray, List.getElem?_cons_succ, List.getElem?_cons_zero]; rfl
      case hQr1q8 => exact fun _ _ _ h => h
      case hwr1q8 => rfl
      case hyr1q8 => (intro w hSw; (try dsimp only at hSw); go_simp; (try with_reducible rfl))
      simp only [Act.put, List.setIfInBounds_toArray, List.set_cons_zero, List.set_cons_succ]
      refine wpAnyH_take (i := 9) (oi := ?dqr1q9) (v := ?dvr1q9) ?hir1q9 (by kernel_rfl) (by kernel_rfl) (by kernel_rfl) ?hQr1q9 (Or.inl ⟨?hwr1q9, ?hyr1q9⟩) hS ?hrr1q9
      case hir1q9 => simp only [List.getElem?_toArray, List.getElem?_cons_succ, List.getElem?_cons_zero]; rfl
      case hQr1q9 => exact fun _ _ _ h => h
      case hwr1q9 => rfl
      case hyr1q9 => (intro w hSw; (try dsimp only at hSw); go_simp; (try with_reducible rfl))
      simp only [Act.put, List.setIfInBounds_toArray, List.set_cons_zero, List.set_cons_succ]
      refine wpAnyH_take (i := 10) (oi := ?dqr1q10) (v := ?dvr1q10) ?hir1q10 (by kernel_rfl) (by kernel_rfl) (by kernel_rfl) ?hQr1q10 (Or.inl ⟨?hwr1q10, ?hyr1q10⟩) hS ?hrr1q10
      case hir1q10 => simp only [List.getElem?_toArray, List.getElem?_cons_succ, List.getElem?_cons_zero]; rfl
      case hQr1q10 => exact fun _ _ _ h => h
      case hwr1q10 => rfl
      case hyr1q10 => (intro w hSw; (try dsimp only at hSw); go_simp; (try with_reducible rfl))
      simp only [Act.put, List.setIfInBounds_toArray, List.set_cons_zero, List.set_cons_succ]
      refine wpAnyH_take (i := 11) (oi := ?dqr1q11) (v := ?dvr1q11) ?hir1q11 (by kernel_rfl) (by kernel_rfl) (by kernel_rfl) ?hQr1q11 (Or.inl ⟨?hwr1q11, ?hyr1q11⟩) hS ?hrr1q11
      case hir1q11 => simp only [List.getElem?_toArray, List.getElem?_cons_succ, List.getElem?_cons_zero]; rfl
      case hQr1q11 => exact fun _ _ _ h => h
      case hwr1q11 => rfl
      case hyr1q11 => (intro w hSw; (try dsimp only at hSw); go_simp; (try with_reducible rfl))
      simp only [Act.put, List.setIfInBounds_toArray, List.set_cons_zero, List.set_cons_succ]
      refine wpAnyH_take (i := 12) (oi := ?dqr1q12) (v := ?dvr1q12) ?hir1q12 (by kernel_rfl) (by kernel_rfl) (by kernel_rfl) ?hQr1q12 (Or.inl ⟨?hwr1q12, ?hyr1q12⟩) hS ?hrr1q12
      case hir1q12 => simp only [List.getElem?_toArray, List.getElem?_cons_succ, List.getElem?_cons_zero]; rfl
      case hQr1q12 => exact fun _ _ _ h => h
      case hwr1q12 => rfl
      case hyr1q12 => (intro w hSw; (try dsimp only at hSw); go_simp; (try with_reducible rfl))
      simp only [Act.put, List.setIfInBounds_toArray, List.set_cons_zero, List.set_cons_succ]
      refine wpAnyH_take (i := 13) (oi := ?dqr1q13) (v := ?dvr1q13) ?hir1q13 (by kernel_rfl) (by kernel_rfl) (by kernel_rfl) ?hQr1q13 (Or.inl ⟨?hwr1q13, ?hyr1q13⟩) hS ?hrr1q13
      case hir1q13 => simp only [List.getElem?_toArray, List.getElem?_cons_succ, List.getElem?_cons_zero]; rfl
      case hQr1q13 => exact fun _ _ _ h => h
      case hwr1q13 => rfl
      case hyr1q13 => (intro w hSw; (try dsimp only at hSw); go_simp; (try with_reducible rfl))
      simp only [Act.put, List.setIfInBounds_toArray, List.set_cons_zero, List.set_cons_succ]
      refine wpAnyH_take (i := 14) (oi := ?dqr1q14) (v := ?dvr1q14) ?hir1q14 (by kernel_rfl) (by kernel_rfl) (by kernel_rfl) ?hQr1q14 (Or.inl ⟨?hwr1q14, ?hyr1q14⟩) hS ?hrr1q14
      case hir1q14 => simp only [List.getElem?_toArray, List.getElem?_cons_succ, List.getElem?_cons_zero]; rfl
      case hQr1q14 => exact fun _ _ _ h => h
      case hwr1q14 => rfl
      case hyr1q14 => (intro w hSw; (try dsimp only at hSw); go_simp; (try with_reducible rfl))
      simp only [Act.put, List.setIfInBounds_toArray, List.set_cons_zero, List.set_cons_succ]
      refine wpAnyH_take (i := 15) (oi := ?dqr1q15) (v := ?dvr1q15) ?hir1q15 (by kernel_rfl) (by kernel_rfl) (by kernel_rfl) ?hQr1q15 (Or.inl ⟨?hwr1q15, ?hyr1q15⟩) hS ?hrr1q15
      case hir1q15 => simp only [List.getElem?_toArray, List.getElem?_cons_succ, List.getElem?_cons_zero]; rfl
      case hQr1q15 => exact fun _ _ _ h => h
      case hwr1q15 => rfl
      case hyr1q15 => (intro w hSw; (try dsimp only at hSw); go_simp; (try with_reducible rfl))
      simp only [Act.put, List.setIfInBounds_toArray, List.set_cons_zero, List.set_cons_succ]
      refine wpAnyH_ready (rs := [16]) (by kernel_rfl) (by simp) ?_
      refine AllReadyH.cons (o := ?dqr1q16) ?hir1q16 (fun K hK => ?_) AllReadyH.nil
      case hir1q16 => simp only [List.getElem?_toArray, List.getElem?_cons_succ, List.getElem?_cons_zero]; rfl
      go_simp
      go_at_call 24
      refine (xHas.out _ p (hT1.out.after hN'.out hS.2.2)).mono ?_
      rintro e w5 ⟨rfl, hb⟩
      have b5 := Lib.hid hb
      clear hb
      have hS2 := And.intro (keep_cell b5.out hS.1) (And.intro (keep_cell b5.out hS.2.1) (Below.after hS.2.2 b5.out))
      clear hS
      refine hK.out _ _ hS2 (fun hS => ?_)
      clear hS2 hK K
      try simp only [Act.put, List.setIfInBounds_toArray, List.set_cons_zero, List.set_cons_succ]
      refine wpAnyH_take (i := 17) (oi := ?dqr1q17) (v := ?dvr1q17) ?hir1q17 (by kernel_rfl) (by kernel_rfl) (by kernel_rfl) ?hQr1q17 (Or.inl ⟨?hwr1q17, ?hyr1q17⟩) hS ?hrr1q17
      case hir1q17 => simp only [List.getElem?_toArray, List.getElem?_cons_succ, List.getElem?_cons_zero]; rfl
      case hQr1q17 => exact fun _ _ _ h => h
      case hwr1q17 => rfl
      case hyr1q17 => (intro w hSw; (try dsimp only at hSw); go_simp; (try with_reducible rfl))
      simp only [Act.put, List.setIfInBounds_toArray, List.set_cons_zero, List.set_cons_succ]
      refine wpAnyH_take (i := 18) (oi := ?dqr1q18) (v := ?dvr1q18) ?hir1q18 (by kernel_rfl) (by kernel_rfl) (by kernel_rfl) ?hQr1q18 (Or.inl ⟨?hwr1q18, ?hyr1q18⟩) hS ?hrr1q18
      case hir1q18 => simp only [List.getElem?_toArray, List.getElem?_cons_succ, List.getElem?_cons_zero]; rfl
      case hQr1q18 => exact fun _ _ _ h => h
      case hwr1q18 => rfl
      case hyr1q18 => (intro w hSw; (try dsimp only at hSw); go_simp; (try with_reducible rfl))
      simp only [Act.put, List.setIfInBounds_toArray, List.set_cons_zero, List.set_cons_succ]
      refine wpAnyH_take (i := 19) (oi := ?dqr1q19) (v := ?dvr1q19) ?hir1q19 (by kernel_rfl) (by kernel_rfl) (by kernel_rfl) ?hQr1q19 (Or.inl ⟨?hwr1q19, ?hyr1q19⟩) hS ?hrr1q19
      case hir1q19 => simp only [List.getElem?_toArray, List.getElem?_cons_succ, List.getElem?_cons_zero]; rfl
      case hQr1q19 => exact fun _ _ _ h => h
      case hwr1q19 => rfl
      case hyr1q19 => (intro w hSw; (try dsimp only at hSw); go_simp; (try with_reducible rfl))
      simp only [Act.put, List.setIfInBounds_toArray, List.set_cons_zero, List.set_cons_succ]
      refine wpAnyH_take (i := 20) (oi := ?dqr1q20) (v := ?dvr1q20) ?hir1q20 (by kernel_rfl) (by kernel_rfl) (by kernel_rfl) ?hQr1q20 (Or.inl ⟨?hwr1q20, ?hyr1q20⟩) hS ?hrr1q20
      case hir1q20 => simp only [List.getElem?_toArray, List.getElem?_cons_succ, List.getElem?_cons_zero]; rfl
      case hQr1q20 => exact fun _ _ _ h => h
      case hwr1q20 => rfl
      case hyr1q20 => (intro w hSw; (try dsimp only at hSw); go_simp; (try with_reducible rfl))
      simp only [Act.put, List.setIfInBounds_toArray, List.set_cons_zero, List.set_cons_succ]
      refine wpAnyH_take (i := 21) (oi := ?dqr1q21) (v := ?dvr1q21) ?hir1q21 (by kernel_rfl) (by kernel_rfl) (by kernel_rfl) ?hQr1q21 (Or.inl ⟨?hwr1q21, ?hyr1q21⟩) hS ?hrr1q21
      case hir1q21 => simp only [List.getElem?_toArray, List.getElem?_cons_succ, List.getElem?_cons_zero]; rfl
      case hQr1q21 => exact fun _ _ _ h => h
      case hwr1q21 => rfl
      case hyr1q21 => (intro w hSw; (try dsimp only at hSw); go_simp; (try with_reducible rfl))
      simp only [Act.put, List.setIfInBounds_toArray, List.set_cons_zero, List.set_cons_succ]
      refine wpAnyH_take (i := 22) (oi := ?dqr1q22) (v := ?dvr1q22) ?hir1q22 (by kernel_rfl) (by kernel_rfl) (by kernel_rfl) ?hQr1q22 (Or.inl ⟨?hwr1q22, ?hyr1q22⟩) hS ?hrr1q22
      case hir1q22 => simp only [List.getElem?_toArray, List.getElem?_cons_succ, List.getElem?_cons_zero]; rfl
      case hQr1q22 => exact fun _ _ _ h => h
      case hwr1q22 => rfl
      case hyr1q22 => (intro w hSw; (try dsimp only at hSw); go_simp; (try with_reducible rfl))
      simp only [Act.put, List.setIfInBounds_toArray, List.set_cons_zero, List.set_cons_succ]
      refine wpAnyH_take (i := 23) (oi := ?dqr1q23) (v := ?dvr1q23) ?hir1q23 (by kernel_rfl) (by kernel_rfl) (by kernel_rfl) ?hQr1q23 (Or.inl ⟨?hwr1q23, ?hyr1q23⟩) hS ?hrr1q23
      case hir1q23 => simp only [List.getElem?_toArray, List.getElem?_cons_succ, List.getElem?_cons_zero]; rfl
      case hQr1q23 => exact fun _ _ _ h => h
      case hwr1q23 => rfl
      case hyr1q23 => (intro w hSw; (try dsimp only at hSw); go_simp; (try with_reducible rfl))
      simp only [Act.put, List.setIfInBounds_toArray, List.set_cons_zero, List.set_cons_succ]
      refine wpAnyH_take (i := 24) (oi := ?dqr1q24) (v := ?dvr1q24) ?hir1q24 (by kernel_rfl) (by kernel_rfl) (by kernel_rfl) ?hQr1q24 (Or.inl ⟨?hwr1q24, ?hyr1q24⟩) hS ?hrr1q24
      case hir1q24 => simp only [List.getElem?_toArray, List.getElem?_cons_succ, List.getElem?_cons_zero]; rfl
      case hQr1q24 => exact fun _ _ _ h => h
      case hwr1q24 => rfl
      case hyr1q24 => (intro w hSw; (try dsimp only at hSw); go_simp; (try with_reducible rfl))
      simp only [Act.put, List.setIfInBounds_toArray, List.set_cons_zero, List.set_cons_succ]
      refine wpAnyH_take (i := 25) (oi := ?dqr1q25) (v := ?dvr1q25) ?hir1q25 (by kernel_rfl) (by kernel_rfl) (by kernel_rfl) ?hQr1q25 (Or.inl ⟨?hwr1q25, ?hyr1q25⟩) hS ?hrr1q25
      case hir1q25 => simp only [List.getElem?_toArray, List.getElem?_cons_succ, List.getElem?_cons_zero]; rfl
      case hQr1q25 => exact fun _ _ _ h => h
      case hwr1q25 => rfl
      case hyr1q25 => (intro w hSw; (try dsimp only at hSw); go_simp; (try with_reducible rfl))
      simp only [Act.put, List.setIfInBounds_toArray, List.set_cons_zero, List.set_cons_succ]
      refine wpAnyH_take (i := 26) (oi := ?dqr1q26) (v := ?dvr1q26) ?hir1q26 (by kernel_rfl) (by kernel_rfl) (by kernel_rfl) ?hQr1q26 (Or.inl ⟨?hwr1q26, ?hyr1q26⟩) hS ?hrr1q26
      case hir1q26 => simp only [List.getElem?_toArray, List.getElem?_cons_succ, List.getElem?_cons_zero]; rfl
      case hQr1q26 => exact fun _ _ _ h => h
      case hwr1q26 => rfl
      case hyr1q26 => (intro w hSw; (try dsimp only at hSw); go_simp; (try with_reducible rfl))
      simp only [Act.put, List.setIfInBounds_toArray, List.set_cons_zero, List.set_cons_succ]
      refine wpAnyH_take (i := 27) (oi := ?dqr1q27) (v := ?dvr1q27) ?hir1q27 (by kernel_rfl) (by kernel_rfl) (by kernel_rfl) ?hQr1q27 (Or.inl ⟨?hwr1q27, ?hyr1q27⟩) hS ?hrr1q27
      case hir1q27 => simp only [List.getElem?_toArray, List.getElem?_cons_succ, List.getElem?_cons_zero]; rfl
      case hQr1q27 => exact fun _ _ _ h => h
      case hwr1q27 => rfl
      case hyr1q27 => (intro w hSw; (try dsimp only at hSw); go_simp; (try with_reducible rfl))
      simp only [Act.put, List.setIfInBounds_toArray, List.set_cons_zero, List.set_cons_succ]
      refine wpAnyH_take (i := 28) (oi := ?dqr1q28) (v := ?dvr1q28) ?hir1q28 (by kernel_rfl) (by kernel_rfl) (by kernel_rfl) ?hQr1q28 (Or.inl ⟨?hwr1q28, ?hyr1q28⟩) hS ?hrr1q28
      case hir1q28 => simp only [List.getElem?_toArray, List.getElem?_cons_succ, List.getElem?_cons_zero]; rfl
      case hQr1q28 => exact fun _ _ _ h => h
      case hwr1q28 => rfl
      case hyr1q28 => (intro w hSw; (try dsimp only at hSw); go_simp; (try with_reducible rfl))
      simp only [Act.put, List.setIfInBounds_toArray, List.set_cons_zero, List.set_cons_succ]
      refine wpAnyH_take (i := 29) (oi := ?dqr1q29) (v := ?dvr1q29) ?hir1q29 (by kernel_rfl) (by kernel_rfl) (by kernel_rfl) ?hQr1q29 (Or.inl ⟨?hwr1q29, ?hyr1q29⟩) hS ?hrr1q29
      case hir1q29 => simp only [List.getElem?_toArray, List.getElem?_cons_succ, List.getElem?_cons_zero]; rfl
      case hQr1q29 => exact fun _ _ _ h => h
      case hwr1q29 => rfl
      case hyr1q29 => (intro w hSw; (try dsimp only at hSw); go_simp; (try with_reducible rfl))
      simp only [Act.put, List.setIfInBounds_toArray, List.set_cons_zero, List.set_cons_succ]
      refine wpAnyH_take (i := 30) (oi := ?dqr1q30) (v := ?dvr1q30) ?hir1q30 (by kernel_rfl) (by kernel_rfl) (by kernel_rfl) ?hQr1q30 (Or.inl ⟨?hwr1q30, ?hyr1q30⟩) hS ?hrr1q30
      case hir1q30 => simp only [List.getElem?_toArray, List.getElem?_cons_succ, List.getElem?_cons_zero]; rfl
      case hQr1q30 => exact fun _ _ _ h => h
      case hwr1q30 => rfl
      case hyr1q30 => (intro w hSw; (try dsimp only at hSw); go_simp; (try with_reducible rfl))
      simp only [Act.put, List.setIfInBounds_toArray, List.set_cons_zero, List.set_cons_succ]
      refine wpAnyH_take (i := 31) (oi := ?dqr1q31) (v := ?dvr1q31) ?hir1q31 (by kernel_rfl) (by kernel_rfl) (by kernel_rfl) ?hQr1q31 (Or.inl ⟨?hwr1q31, ?hyr1q31⟩) hS ?hrr1q31
      case hir1q31 => simp only [List.getElem?_toArray, List.getElem?_cons_succ, List.getElem?_cons_zero]; rfl
      case hQr1q31 => exact fun _ _ _ h => h
      case hwr1q31 => rfl
      case hyr1q31 => (intro w hSw; (try dsimp only at hSw); go_simp; (try with_reducible rfl))
      simp only [Act.put, List.setIfInBounds_toArray, List.set_cons_zero, List.set_cons_succ]
      refine wpAnyH_done (by kernel_rfl) ?_ _
      have b6 := Lib.hid (Below.after hb'.out (Below.after b3.out hS.2.2))
      clear hS
      go_wp2
      go_roundw
      case rel => exact ⟨k + 1, by omega, by go_num, b6.out⟩
      case measure => simp [intOf]; omega
    · have e1 : decide ((0 : Int) ≤ (gg : Int)) = true := decide_eq_true (by omega)
      have e2 : decide ((gg : Int) ≤ (n : Int)) = true := decide_eq_true (by omega)
      by_cases h20 : 20 < gg
      · have e3 : decide ((20 : Int) < (gg : Int)) = true := decide_eq_true (by omega)
        go_wp2_with (go_at_call 7; refine (lA.out _).mono ?_; rintro e w7 ⟨rfl, hb⟩; have b7 := Lib.hid (Below.after hb'.out hb); clear hb)
        go_ret
        exact ⟨rfl, Below.after b_14.out b7.out⟩
      · have e3 : decide ((20 : Int) < (gg : Int)) = false := decide_eq_false (by omega)
        obtain ⟨Q, hQ⟩ : ∃ Q : Nat, 2 ^ gg = Q := ⟨_, rfl⟩
        have hnQ : n < Q := by rw [← hQ]; exact hg2.out
        have hQ20 : Q ≤ 2 ^ 20 := by rw [← hQ]; exact Nat.pow_le_pow_right (by decide) (by omega)
        have e4 : wrap64 ((2 : Int) ^ gg) = (Q : Int) := by
          have h1 : ((2 : Int) ^ gg) = (Q : Int) := by rw [← hQ, Int.natCast_pow]; rfl
          rw [h1]; unfold wrap64; omega
        clear hQ hQ20
        go_wp2_with (go_at_call 7; refine (lA.out _).mono ?_; rintro e w7 ⟨rfl, hb⟩; have b7 := Lib.hid (Below.after hb'.out hb); clear hb)
        go_ret
        exact ⟨rfl, Below.after b_14.out b7.out⟩
end Go.Proofs.Ytadncdcblckpjaa
