/- Layer 10: the statement LookTells, walked. Made by wip/gen/layer10.py. -/
import Derived.Test.YtadncdcblckpjaaL10Alive
namespace Go.Proofs.Ytadncdcblckpjaa
open Go.RowKit Go.Proofs.Rowm Go.Proofs.Treem
variable {Nd : NdP}

set_option maxHeartbeats 2000000 in
theorem lookTells_long (hN : NodeSays Nd) (hS : LookSays Nd) (A : Option Addr) (n c : Nat) (key : BitVec 64) (w : World) (h : LongAt w A n c true) : Calls Try.prog 3 #[.slice A n c, K key] w fun e w' => e = .returned (.bool true) ∧ Below w.heap.size w w' := by
  have c0 := Lib.hid (h w (Below.refl _ _))
  have c1 := Lib.hid (alive10_any hN hS)
  clear h hN hS
  go_enter Try.func3, Try.ntmps3
  go_wp2_with (first
    | (go_at_call 6; (with_reducible refine c0.out.mono ?_); rintro e w' ⟨rfl, rfl⟩)
    | (go_at_call 7; refine (c1.out _).mono ?_; rintro e w1 ⟨rfl, hb⟩; have b1 := Lib.hid hb; clear hb)
    | fail)
  go_ret
  exact ⟨rfl, b1.out⟩

set_option maxHeartbeats 8000000 in
theorem lookTells_yes (hN : NodeSays Nd) (hS : LookSays Nd) (A : Option Addr) (n c : Nat) (l : List Bd) (t : Tr) (key : BitVec 64) (w : World) (h : LongAt w A n c false) (ht : TreeIn w A n c l t) : Calls Try.prog 3 #[.slice A n c, K key] w fun e w' => e = .returned (.bool true) ∧ Below w.heap.size w w' := by
  have h4 := ht.few
  have h5 : n ≤ 1000 := by omega
  have hts : t.size ≤ 1000 := by rw [ht.size]; exact h5
  have cM := Lib.hid (ht.make hN)
  have cP := Lib.hid ht.pairs
  have cK := Lib.hid ht.keys
  have cD := Lib.hid (ht.deep key)
  have cHa := Lib.hid (ht.has key)
  have cHe := Lib.hid ht.height
  have c0 := Lib.hid (h w (Below.refl _ _))
  have lA := Lib.hid (alive10_any hN hS)
  have sA := Lib.hid (fun W p hT => hS.all W t p _ (Nat.le_refl _) hT hts)
  have sB := Lib.hid (fun W p hT => hS.back W t p _ (Nat.le_refl _) hT hts)
  have sD := Lib.hid (fun W p hT => hS.deep W t p key hT hts)
  have sHe := Lib.hid (fun W p hT => hS.height W t p hT hts)
  have sC := Lib.hid (fun W p hT => hS.count W t p hT hts)
  have sHa := Lib.hid (fun W p hT => hS.has W t p key hT hts)
  have sP := Lib.hid (fun W p (hT : TreeAt Nd W W.heap.size t p) => look_pairs hS n ht.size h5 hT)
  have sK := Lib.hid (fun W p (hT : TreeAt Nd W W.heap.size t p) => look_keys hS n ht.size h5 hT)
  have hpl : Hid (t.pairs.length = n) := by show t.pairs.length = n; rw [pairs_len, ht.size]
  have hrl : Hid (t.pairs.reverse.length = n) := by show t.pairs.reverse.length = n; rw [List.length_reverse, hpl.out]
  have hkl : Hid ((t.pairs.map (·.1)).length = n) := by show (t.pairs.map (·.1)).length = n; rw [List.length_map, hpl.out]
  rw [ht.size] at sC
  have hN' := Lib.hid hN
  obtain ⟨dd, hdd⟩ : ∃ d, t.deep key = d := ⟨_, rfl⟩
  obtain ⟨hh, hhh⟩ : ∃ d, t.has key = d := ⟨_, rfl⟩
  obtain ⟨gg, hgg⟩ : ∃ d, t.high = d := ⟨_, rfl⟩
  rw [hdd, hhh] at cD sD
  rw [hhh] at cHa sHa
  rw [hgg] at cHe sHe
  clear h hN hS ht hts hdd hhh hgg
  go_enter Try.func3, Try.ntmps3
  go_wp2_with (go_at_call 6; (with_reducible refine c0.out.mono ?_); rintro e w' ⟨rfl, rfl⟩)
  refine (cM.out w (Below.refl _ _)).mono ?_
  rintro e w_1 ⟨p, rfl, hT, hb⟩
  have T_1n := Lib.hid hT
  clear hT
  have b_1 := Lib.hid hb
  clear hb
  go_wp2_with fail
  refine (cP.out w_1 b_1.out).mono ?_
  rintro e w_2 ⟨A1, c1, rfl, -, -, -, hr, hb⟩
  have p_2n := Lib.hid hr
  clear hr
  have T_2 := Lib.hid (T_1n.out.after hN'.out hb)
  have b_2 := Lib.hid (Below.after b_1.out hb)
  clear hb T_1n b_1
  go_wp2_with fail
  refine (sD.out w_2 p T_2.out).mono ?_
  rintro e w_3 ⟨rfl, hb⟩
  have T_3 := Lib.hid (T_2.out.after hN'.out hb)
  have p_3 := Lib.hid (p_2n.out.next hb)
  have b_3 := Lib.hid (Below.after b_2.out hb)
  clear hb T_2 p_2n b_2
  go_wp2_with fail
  refine (cD.out w_3 b_3.out).mono ?_
  rintro e w_4 ⟨rfl, hb⟩
  have T_4 := Lib.hid (T_3.out.after hN'.out hb)
  have p_4 := Lib.hid (p_3.out.next hb)
  have b_4 := Lib.hid (Below.after b_3.out hb)
  clear hb T_3 p_3 b_3
  go_wp2_with fail
  refine (sA.out w_4 p T_4.out).mono ?_
  rintro e w_5 ⟨v1, rfl, hG, hb⟩
  have G_5n := Lib.hid hG
  clear hG
  have T_5 := Lib.hid (T_4.out.after hN'.out hb)
  have p_5 := Lib.hid (p_4.out.next hb)
  have b_5 := Lib.hid (Below.after b_4.out hb)
  clear hb T_4 p_4 b_4
  go_wp2_with fail
  refine (collect_all v1 _ n 1000 hpl.out h5 (by decide) w_5 G_5n.out).mono ?_
  rintro e w_6 ⟨A2, c2, rfl, -, -, -, hr, hb⟩
  have q_6n := Lib.hid hr
  clear hr
  have T_6 := Lib.hid (T_5.out.after hN'.out hb)
  have p_6 := Lib.hid (p_5.out.next hb)
  have G_6 := Lib.hid (G_5n.out.next hb)
  have b_6 := Lib.hid (Below.after b_5.out hb)
  clear hb T_5 p_5 G_5n b_5
  clear G_6
  go_wp2_with fail
  refine (samePairs_yes A2 A1 n c2 c1 _ hpl.out h5 w_6 q_6n.out p_6.out).mono ?_
  rintro e w_7 ⟨rfl, hb⟩
  have T_7 := Lib.hid (T_6.out.after hN'.out hb)
  have p_7 := Lib.hid (p_6.out.next hb)
  have q_7 := Lib.hid (q_6n.out.next hb)
  have b_7 := Lib.hid (Below.after b_6.out hb)
  clear hb T_6 p_6 q_6n b_6
  clear q_7
  go_wp2_with fail
  refine (sB.out w_7 p T_7.out).mono ?_
  rintro e w_8 ⟨v2, rfl, hG, hb⟩
  have G_8n := Lib.hid hG
  clear hG
  have T_8 := Lib.hid (T_7.out.after hN'.out hb)
  have p_8 := Lib.hid (p_7.out.next hb)
  have b_8 := Lib.hid (Below.after b_7.out hb)
  clear hb T_7 p_7 b_7
  go_wp2_with fail
  refine (collect_all v2 _ n 1000 hrl.out h5 (by decide) w_8 G_8n.out).mono ?_
  rintro e w_9 ⟨A3, c3, rfl, -, -, -, hr, hb⟩
  have q_9n := Lib.hid hr
  clear hr
  have T_9 := Lib.hid (T_8.out.after hN'.out hb)
  have p_9 := Lib.hid (p_8.out.next hb)
  have G_9 := Lib.hid (G_8n.out.next hb)
  have b_9 := Lib.hid (Below.after b_8.out hb)
  clear hb T_8 p_8 G_8n b_8
  clear G_9
  go_wp2_with fail
  refine (turned_made A1 n c1 _ hpl.out h5 w_9 p_9.out).mono ?_
  rintro e w_10 ⟨A4, c4, rfl, -, -, -, hr, hb⟩
  have s_10n := Lib.hid hr
  clear hr
  have T_10 := Lib.hid (T_9.out.after hN'.out hb)
  have p_10 := Lib.hid (p_9.out.next hb)
  have q_10 := Lib.hid (q_9n.out.next hb)
  have b_10 := Lib.hid (Below.after b_9.out hb)
  clear hb T_9 p_9 q_9n b_9
  go_wp2_with fail
  refine (samePairs_yes A3 A4 n c3 c4 _ hrl.out h5 w_10 q_10.out s_10n.out).mono ?_
  rintro e w_11 ⟨rfl, hb⟩
  have T_11 := Lib.hid (T_10.out.after hN'.out hb)
  have p_11 := Lib.hid (p_10.out.next hb)
  have q_11 := Lib.hid (q_10.out.next hb)
  have s_11 := Lib.hid (s_10n.out.next hb)
  have b_11 := Lib.hid (Below.after b_10.out hb)
  clear hb T_10 p_10 q_10 s_10n b_10
  clear q_11
  clear s_11
  go_wp2_with fail
  refine (sP.out w_11 p T_11.out).mono ?_
  rintro e w_12 ⟨A5, c5, rfl, -, -, -, hr, hb⟩
  have q_12n := Lib.hid hr
  clear hr
  have T_12 := Lib.hid (T_11.out.after hN'.out hb)
  have p_12 := Lib.hid (p_11.out.next hb)
  have b_12 := Lib.hid (Below.after b_11.out hb)
  clear hb T_11 p_11 b_11
  go_wp2_with fail
  refine (samePairs_yes A5 A1 n c5 c1 _ hpl.out h5 w_12 q_12n.out p_12.out).mono ?_
  rintro e w_13 ⟨rfl, hb⟩
  have T_13 := Lib.hid (T_12.out.after hN'.out hb)
  have p_13 := Lib.hid (p_12.out.next hb)
  have q_13 := Lib.hid (q_12n.out.next hb)
  have b_13 := Lib.hid (Below.after b_12.out hb)
  clear hb T_12 p_12 q_12n b_12
  clear q_13
  clear p_13
  go_wp2_with fail
  refine (sK.out w_13 p T_13.out).mono ?_
  rintro e w_14 ⟨A6, c6, rfl, hr, hb⟩
  have q_14n := Lib.hid hr
  clear hr
  have T_14 := Lib.hid (T_13.out.after hN'.out hb)
  have b_14 := Lib.hid (Below.after b_13.out hb)
  clear hb T_13 b_13
  go_wp2_with fail
  refine (cK.out w_14 b_14.out).mono ?_
  rintro e w_15 ⟨A7, c7, rfl, hr, hb⟩
  have s_15n := Lib.hid hr
  clear hr
  have T_15 := Lib.hid (T_14.out.after hN'.out hb)
  have q_15 := Lib.hid (q_14n.out.next hb)
  have b_15 := Lib.hid (Below.after b_14.out hb)
  clear hb T_14 q_14n b_14
  go_wp2_with fail
  refine (sameKeys_yes A6 A7 n c6 c7 _ hkl.out h5 w_15 q_15.out s_15n.out).mono ?_
  rintro e w_16 ⟨rfl, hb⟩
  have T_16 := Lib.hid (T_15.out.after hN'.out hb)
  have q_16 := Lib.hid (q_15.out.next hb)
  have s_16 := Lib.hid (s_15n.out.next hb)
  have b_16 := Lib.hid (Below.after b_15.out hb)
  clear hb T_15 q_15 s_15n b_15
  clear q_16
  clear s_16
  go_wp2_with fail
  refine (sHe.out w_16 p T_16.out).mono ?_
  rintro e w_17 ⟨rfl, hb⟩
  have T_17 := Lib.hid (T_16.out.after hN'.out hb)
  have b_17 := Lib.hid (Below.after b_16.out hb)
  clear hb T_16 b_16
  go_wp2_with fail
  refine (cHe.out w_17 b_17.out).mono ?_
  rintro e w_18 ⟨rfl, hb⟩
  have T_18 := Lib.hid (T_17.out.after hN'.out hb)
  have b_18 := Lib.hid (Below.after b_17.out hb)
  clear hb T_17 b_17
  go_wp2_with fail
  refine (sC.out w_18 p T_18.out).mono ?_
  rintro e w_19 ⟨rfl, hb⟩
  have T_19 := Lib.hid (T_18.out.after hN'.out hb)
  have b_19 := Lib.hid (Below.after b_18.out hb)
  clear hb T_18 b_18
  go_wp2_with fail
  refine (sHa.out w_19 p T_19.out).mono ?_
  rintro e w_20 ⟨rfl, hb⟩
  have T_20 := Lib.hid (T_19.out.after hN'.out hb)
  have b_20 := Lib.hid (Below.after b_19.out hb)
  clear hb T_19 b_19
  go_wp2_with (go_at_call 25; refine (cHa.out _ b_20.out).mono ?_; rintro e w' ⟨rfl, rfl⟩)
  refine (lA.out w_20).mono ?_
  rintro e w_21 ⟨rfl, hb⟩
  have T_21 := Lib.hid (T_20.out.after hN'.out hb)
  have b_21 := Lib.hid (Below.after b_20.out hb)
  clear hb T_20 b_20
  go_wp2
  go_ret
  exact ⟨rfl, b_21.out⟩
end Go.Proofs.Ytadncdcblckpjaa
