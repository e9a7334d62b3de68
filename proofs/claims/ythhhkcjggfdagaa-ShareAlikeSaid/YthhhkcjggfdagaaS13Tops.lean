/- Layer 13, as landed: Tops; what package share answers. -/
import Derived.Test.YthhhkcjggfdagaaS13Meet
namespace Go.Proofs.Ythhhkcjggfdagaa
open Go.RowKit Go.Shelf Go.Proofs.Treem Go.Proofs.Cardm
attribute [local go_sem] Oper.semAt_some
set_option maxRecDepth 100000
variable {Nd : NdP}

theorem meet_goes (hN : NodeSays Nd) (w0 : World) (L : List Addr) (hc : card L ≤ 2000) (gF gW gL gN r gM q base B C : Nat) (free : TypeId → Bool) (f1 : free 62 = false) (f2 : free 25 = false) (f3 : free 30 = false) (f4 : free 48 = false)
    (h1 : B ≤ gF) (h2 : B ≤ gW) (h3 : B ≤ gL) (h4 : B ≤ gN) (h5 : B ≤ r) (h6 : B ≤ gM) (h7 : B ≤ q) (h8 : B ≤ base) (h9 : r < C) (h10 : q < C) (h11 : base ≤ gL) :
    GoesOn Nd w0 21 #[.pointer (some ⟨gF, 0, none⟩), .pointer (some ⟨gW, 0, none⟩), .pointer (some ⟨gL, 0, none⟩)] B C mine13 free (U13 Nd w0 L) meetStep (fun m => card L - m.first.length) (EnvM w0 L gF gW gL gN r gM q base) where
  enters := enters_of Try.func21 (by kernel_rfl) rfl
  calls := fun m Ft W a x l rr ⟨v, hFt, hM⟩ hU hk => by
    have hgood : GoodN w0 (some a) := GoodN.root hN (T := .n a x l rr) hU.1
    have hb : base ≤ W.heap.size := by have := (Array.getElem?_eq_some_iff.1 hM.l).1; omega
    refine (meet13_any w0 L hc gF gW gL gN r gM q base m v W hM hb a (hU.2 a (AT.mem_n.2 (.inl rfl))) hgood).mono ?_
    rintro e W' ⟨he, v', hM', hk', hv⟩
    refine ⟨he, _, ⟨v', rfl, hM'⟩, hFt ▸ hk', fun k hx => ?_⟩
    rw [hFt]
    rcases hx with hx | hx | hx | hx | hx | hx | hx | hx
    · exact .inl (by simp [footM, hx])
    · exact .inl (by simp [footM, hx])
    · exact .inl (by simp [footM, hx])
    · exact .inl (by simp [footM, hx])
    · exact .inl (by simp [footM, hx])
    · exact .inl (by simp [footM, hx])
    · exact .inl (by simp [footM, hx])
    · rcases hv with hv | hv
      · exact .inl (by simp [footM, ← hv, hx])
      · exact .inr (hv k hx)
  foot := fun m Ft W ⟨v, hFt, hM⟩ k hk => by
    rw [hFt] at hk
    rcases hk with rfl | rfl | rfl | rfl | rfl | rfl | rfl | hk
    · exact ⟨h1, _, hM.f, .inr ⟨_, _, _, rfl, rfl, f4, by decide⟩⟩
    · exact ⟨h2, _, hM.w, .inr ⟨_, _, _, rfl, rfl, f4, by decide⟩⟩
    · exact ⟨h3, _, hM.l, .inr ⟨_, _, _, rfl, rfl, f3, by decide⟩⟩
    · exact ⟨h4, _, hM.s1.box, .inr ⟨_, _, _, rfl, rfl, f1, by decide⟩⟩
    · exact ⟨h5, _, hM.s1.set, .inl ⟨rfl, h9⟩⟩
    · exact ⟨h6, _, hM.s2.box, .inr ⟨_, _, _, rfl, rfl, f1, by decide⟩⟩
    · exact ⟨h7, _, hM.s2.set, .inl ⟨rfl, h10⟩⟩
    · rcases hM.ow.2 with ⟨rfl, _⟩ | ⟨g, cap, cur, rfl, hbg, hg, _⟩
      · simp [Value.ownBlock] at hk
      · obtain rfl : g = k := by simpa [Value.ownBlock] using hk
        exact ⟨by omega, _, hg, .inr ⟨_, _, _, rfl, rfl, f2, by decide⟩⟩
  frame := fun m Ft W W' ⟨v, hFt, hM⟩ hr => ⟨v, hFt, hM.frame hr.nk (fun k hk => hr.same k (by rw [hFt]; exact hk))⟩
  less := fun m Ft W a x l rr ⟨v, hFt, hM⟩ hU => by
    have hgood : GoodN w0 (some a) := GoodN.root hN (T := .n a x l rr) hU.1
    have h12 := (hM.s1.put hgood ⟨a, hU.2 a (AT.mem_n.2 (.inl rfl)), rfl⟩).len
    unfold meetStep
    by_cases hx : some a ∈ m.first
    · simp [insP, hx]
    · simp only [insP, hx, if_false, List.length_append, List.length_cons, List.length_nil] at h12
      by_cases hy : some a ∈ m.fresh
      · simp [insP, hx, hy]; omega
      · simp [insP, hx, hy]; omega
theorem goM_out (T : AT) (m : Met) : (goL meetStep [T] m).2 = (goV meetStep T m).2 := by rw [goL_one]
set_option maxHeartbeats 8000000 in
theorem tops13_any (hN : NodeSays Nd) (w : World) (T : AT) (os : List AT) (A : Option Addr) (n c : Nat) (hT : Stand Nd w T) (ho : ∀ U ∈ os, Stand Nd w U) (hA : LieP w w.heap.size A n c (os.map AT.ptr)) (hn : n ≤ 2000) (hc : card (addrsOf os ++ T.addrs) ≤ 2000) :
    Calls Try.prog 11 #[.pointer T.ptr, .slice A n c] w fun e w' => ∃ v, e = .returned v ∧ w'.ownsRow w.heap.size 25 1 v (topsOf (addrsOf os) T).length (((topsOf (addrsOf os) T).map AT.ptr).map Value.pointer) ∧ Below w.heap.size w w' := by
  obtain ⟨L, hL⟩ : ∃ L, addrsOf os ++ T.addrs = L := ⟨_, rfl⟩
  have uT : U13 Nd w L T := ⟨hT.lies, fun b hb => hL ▸ List.mem_append_right _ hb⟩
  have uo : ∀ V ∈ os, U13 Nd w L V := fun V hV => ⟨(ho V hV).lies, fun b hb => hL ▸ List.mem_append_left _ (List.mem_flatMap.2 ⟨V, hV, hb⟩)⟩
  obtain ⟨v1, v2, -⟩ := note_is hN (us := os) (S := []) (L0 := []) (vis_nil w w.heap.size) (fun a => by simp) (fun V hV => (ho V hV).lies)
  have hout := meet_tops hN hT.lies v2
  rw [List.nil_append] at hout
  obtain ⟨S, hS⟩ : ∃ S, (goL noteStep os []).2 = S := ⟨_, rfl⟩
  rw [hS] at hout
  obtain ⟨fin, hFin⟩ : ∃ t, (goL meetStep [T] ⟨[], S, []⟩).2 = t := ⟨_, rfl⟩
  rw [hFin] at hout
  obtain ⟨N, hNC⟩ : ∃ N, topsOf (addrsOf os) T = N := ⟨_, rfl⟩
  rw [hNC] at hout ⊢
  rw [hL] at hc
  obtain ⟨gL, hgL⟩ : ∃ g, w.heap.size = g := ⟨_, rfl⟩
  obtain ⟨w1, hw1⟩ : ∃ v, w.alloc (.cells #[.slice none 0 0] 30) = v := ⟨_, rfl⟩
  have b1 : Below w.heap.size w w1 := hw1 ▸ (Below.refl _ w).alloc (Nat.le_refl _) _
  have z1 : w1.heap.size = gL + 1 := by rw [← hw1, ← hgL]; simp
  have x1 : Boxed w1 gL 30 (.slice none 0 0) := hgL ▸ hw1 ▸ Boxed.new w _ _
  have cA := noter_any hN w w1 b1 L hc [] (fun U hU => by cases hU) none 0 0 (by omega) ⟨rfl, Nat.le_refl _, Nat.zero_le _, fun _ => rfl, Row.none_ _ _ _⟩
  have cB : Hid (∀ w2, Below w1.heap.size w1 w2 → Calls Try.prog 20 #[.slice A n c] w2 (Noter w L os w2)) := fun w2 hb => noter_any hN w w2 (Below.after b1 hb) L hc os uo A n c hn (hA.after (Below.after b1 hb))
  -- what goes over the nodes, once all lies there
  have cF : Hid (∀ (w3 w4 w5 w6 : World) (gF gN r gM q : Nat), SetN w L gN r [] w3 → SetN w L gM q S w3 → gL < gN → gL < r → gN < gM → gN < q → r < gM → r < q → gM < w3.heap.size → q < w3.heap.size → w3.heap.size = gF → Below w1.heap.size w1 w3 →
      (w3.alloc (.cells #[noterV gN] 48)).alloc (.cells #[noterV gM] 48) = w4 → w4.alloc (.cells #[.pointer T.ptr] 25) = w5 →
      (w5.alloc (.cells #[.func (.func 21) #[] #[.pointer (some ⟨gF, 0, none⟩), .pointer (some ⟨gF + 1, 0, none⟩), .pointer (some ⟨gL, 0, none⟩)]] 48)).alloc (.cells #[.slice (some ⟨gF + 2, 0, none⟩) 1 1] 30) = w6 →
      Calls Try.prog 22 #[.func (.func 29) #[] #[.pointer (some ⟨w5.heap.size + 1, 0, none⟩), .pointer (some ⟨w5.heap.size, 0, none⟩)]] w6 fun e w' => (∃ v, e = .returned v) ∧ (∃ v, Boxed w' gL 30 v ∧ w'.ownsRow w.heap.size 25 1 v fin.out.length (fin.out.map Value.pointer)) ∧ Below w.heap.size w w') := fun w3 w4 w5 w6 gF gN r gM q s1 s2 q1 q2 q3 q4 q5 q6 q7 q8 q9 hb3 e4 e5 e6 => by
    have b4 : Below w3.heap.size w3 w4 := e4 ▸ ((Below.refl _ w3).alloc (Nat.le_refl _) _).alloc (by simp) _
    have b5 : Below w4.heap.size w4 w5 := e5 ▸ (Below.refl _ w4).alloc (Nat.le_refl _) _
    have b6 : Below w5.heap.size w5 w6 := e6 ▸ ((Below.refl _ w5).alloc (Nat.le_refl _) _).alloc (by simp) _
    have b46 := Below.after b5 b6
    have b36 := Below.after b4 b46
    have z4 : w4.heap.size = gF + 2 := by rw [← e4, ← q9]; simp
    have z5 : w5.heap.size = gF + 3 := by rw [← e5]; simp [z4]
    have z6 : w6.heap.size = gF + 5 := by rw [← e6]; simp [z5]
    have bw6 : Below w.heap.size w w6 := Below.after b1 (Below.after hb3 b36)
    have hF : Boxed w4 gF 48 (noterV gN) := q9 ▸ e4 ▸ Has.alloc (show Has _ _ _ _ from Boxed.new w3 _ _) _
    have hW : Boxed w4 (gF + 1) 48 (noterV gM) := by
      have := Boxed.new (w3.alloc (.cells #[noterV gN] 48)) 48 (noterV gM)
      rw [e4, World.size_alloc, q9] at this
      exact this
    have k36 : NK w3 w6 := .of_below b36
    have hM : MeetAt w L gF (gF + 1) gL gN r gM q w.heap.size ⟨[], S, []⟩ (.slice none 0 0) w6 :=
      ⟨Has.next (show Has _ _ _ _ from hF) b46, Has.next (show Has _ _ _ _ from hW) b46, s1.frame k36 (b36.block _ (by omega)) (b36.block _ (by omega)), s2.frame k36 (b36.block _ (by omega)) (b36.block _ (by omega)), Has.next (show Has _ _ _ _ from x1) (Below.after hb3 b36), ⟨rfl, .inl ⟨rfl, rfl⟩⟩, Nat.le_refl _, by omega, by omega⟩
    have hg6 : Boxed w6 w5.heap.size 48 (.func (.func 21) #[] #[.pointer (some ⟨gF, 0, none⟩), .pointer (some ⟨gF + 1, 0, none⟩), .pointer (some ⟨gL, 0, none⟩)]) := e6 ▸ Has.alloc (show Has _ _ _ _ from Boxed.new w5 _ _) _
    have ht6 : Boxed w6 (w5.heap.size + 1) 30 (.slice (some ⟨gF + 2, 0, none⟩) 1 1) := by
      have := Boxed.new (w5.alloc (.cells #[.func (.func 21) #[] #[.pointer (some ⟨gF, 0, none⟩), .pointer (some ⟨gF + 1, 0, none⟩), .pointer (some ⟨gL, 0, none⟩)]] 48)) 30 (.slice (some ⟨gF + 2, 0, none⟩) 1 1)
      rw [e6, World.size_alloc] at this
      exact this
    have hl6 : Has w6 (gF + 2) 25 #[.pointer T.ptr] := by
      have := Has.new w4 25 #[.pointer T.ptr]
      rw [e5, z4] at this
      exact Has.next this b6
    have hnf : ∀ k, gF + 2 ≤ k → ¬ footM gF (gF + 1) gL gN r gM q (.slice none 0 0) k := fun k hk hx => by
      rcases hx with hx | hx | hx | hx | hx | hx | hx | hx
      · omega
      · omega
      · omega
      · omega
      · omega
      · omega
      · omega
      · simp [Value.ownBlock] at hx
    have goes := meet_goes hN w L hc gF (gF + 1) gL gN r gM q w.heap.size w.heap.size w6.heap.size (fun _ => false) rfl rfl rfl rfl (by omega) (by omega) (by omega) (by omega) (by omega) (by omega) (by omega) (Nat.le_refl _) (by omega) (by omega) (by omega)
    have hseq := fun k => nodes13_from (Nd := Nd) hN w6 goes rfl rfl rfl rfl rfl U13.sides (fun T h => h.1) [T] (fun V hV => by rw [List.mem_singleton.1 hV]; exact uT) (w5.heap.size + 1) w5.heap.size (some ⟨gF + 2, 0, none⟩) 1 1 rfl (by omega) (by omega) ⟨[], S, []⟩ _ ⟨_, rfl, hM⟩ (by simp; omega) (.of_below bw6) ht6 hg6 (hnf _ (by omega)) (hnf _ (by omega))
      (fun k V hk => by
        match k with
        | 0 =>
          obtain rfl : T = V := by simpa using hk
          exact ⟨_, rfl, hnf _ (Nat.le_refl _), ⟨_, _, _, hl6, rfl⟩, hl6.cell 0⟩
        | k + 1 => simp at hk) k
    rw [hFin] at hseq
    refine (goOver_any (B := w.heap.size) (mine := mine13) w6 (by omega) (enters_of Try.func29 (by kernel_rfl) rfl) hseq ?_).mono ?_
    · rintro xs V l o o' hl ho' hcc ⟨e1, Ft, v, hFt, hMv⟩
      refine ⟨e1, Ft, v, hFt, hMv.frame (.of_grown (grownBy_putObj' V l o') (fun k e cs hx => by cases e; rw [ho'] at hx; cases hx; cases hcc)) (fun k hk => World.putObj_heap_other ?_)⟩
      rcases hk with hx | hx | hx | hx | hx | hx | hx | hx
      · omega
      · omega
      · omega
      · omega
      · omega
      · omega
      · omega
      · intro e
        subst e
        rcases hMv.ow.2 with ⟨rfl, _⟩ | ⟨g, cap, cur, rfl, hbg, hg, _⟩
        · simp [Value.ownBlock] at hx
        · obtain rfl : g = k := by simpa [Value.ownBlock] using hx
          rw [ho'] at hg
          cases hg
          cases hcc
    · rintro e w' ⟨hv, ⟨xs, e1, Ft, v, hFt, hMv⟩, hturn⟩
      exact ⟨hv, ⟨v, hMv.l, hMv.ow⟩, bw6.trans (hturn.below (Nat.le_refl _) (by omega))⟩
  have cA' := Lib.hid cA
  have HL := Lib.hid hgL
  have HW := Lib.hid hw1
  have Z1 := Lib.hid z1
  have B1 := Lib.hid b1
  have HS := Lib.hid hS
  have HN := Lib.hid hout
  clear cA hgL hw1 z1 b1 x1 hS hout v1 v2 uT uo hL hc hT ho hA hNC hN hFin
  go_enter Try.func11, Try.ntmps11
  go_upto_region 2 with (fail)
  rw [HW.out, HL.out]
  go_wp2_with fail
  refine cA'.out.mono ?_
  rintro e w2 ⟨gN, r, rfl, h1, h2, h3, h4, hs1, hb2⟩
  have hs1 : SetN w L gN r [] w2 := hs1
  have S1 := Lib.hid hs1
  have H1 := Lib.hid (And.intro h1 (And.intro h2 (And.intro h3 h4)))
  have B2 := Lib.hid hb2
  clear h1 h2 h3 h4 hs1 hb2 cA'
  go_wp2_with fail
  refine (cB.out w2 B2.out).mono ?_
  rintro e w3 ⟨gM, q, rfl, h1, h2, h3, h4, hs2, hb3⟩
  rw [HS.out] at hs2
  have S2 := Lib.hid hs2
  have H2 := Lib.hid (And.intro h1 (And.intro h2 (And.intro h3 h4)))
  have S13 := Lib.hid (S1.out.frame (.of_below hb3) (hb3.block _ H1.out.2.2.2) (hb3.block _ H1.out.2.2.1))
  have B3 := Lib.hid (Below.after B2.out hb3)
  obtain ⟨gF, hgF⟩ : ∃ g, w3.heap.size = g := ⟨_, rfl⟩
  have HF := Lib.hid hgF
  clear h1 h2 h3 h4 hs2 hb3 cB hgF
  go_upto_region 4 with (fail)
  obtain ⟨w4, e4⟩ : ∃ v, (w3.alloc (.cells #[noterV gN] 48)).alloc (.cells #[noterV gM] 48) = v := ⟨_, rfl⟩
  obtain ⟨w5, e5⟩ : ∃ v, w4.alloc (.cells #[.pointer T.ptr] 25) = v := ⟨_, rfl⟩
  have z4 : w4.heap.size = gF + 2 := by have := HF.out; rw [← e4, ← this]; simp
  have E4 := Lib.hid e4
  have E5 := Lib.hid e5
  have Z4 := Lib.hid z4
  rw [E4.out, HF.out]
  clear e4 e5 z4
  go_wp2_with fail
  rw [E5.out, Z4.out]
  refine (nodes13_any _ _ _ 1 1 w5).mono ?_
  rintro e w6 ⟨rfl, e6⟩
  have cG := cF.out w3 w4 w5 w6 gF gN r gM q S13.out S2.out (by have := H1.out; have := Z1.out; omega) (by have := H1.out; have := Z1.out; omega) (by have := H1.out; have := H2.out; omega) (by have := H1.out; have := H2.out; omega) (by have := H1.out; have := H2.out; omega) (by have := H1.out; have := H2.out; omega) H2.out.2.2.2 H2.out.2.2.1 HF.out B3.out E4.out E5.out e6
  have cG' := Lib.hid cG
  obtain ⟨z5, hz5⟩ : ∃ z, w5.heap.size = z := ⟨_, rfl⟩
  rw [hz5] at cG' ⊢
  clear cF cG e6 hz5
  go_wp2_with fail
  refine cG'.out.mono ?_
  rintro e w7 ⟨⟨u, rfl⟩, ⟨v, hl, how⟩, hb⟩
  rw [HN.out] at how
  have xL := hl.cell
  have how' := Lib.hid how
  have hb' := Lib.hid hb
  clear how hb hl cG'
  obtain ⟨A', c', rfl, -, -, -⟩ := own_slice how'.out
  go_wp2_with fail
  go_ret
  refine ⟨_, rfl, ?_, hb'.out⟩
  have := how'.out
  simpa using this
/-- what package share answers -/
theorem share_says (hN : NodeSays Nd) : ShareSays Nd where
  nodes := fun w T hT hc => nodes_all hN w T hT hc
  isIn := fun w T V hT hV hc => in13_any hN w T V hT hV hc
  new := fun w T os A n c hT ho hA hn hc => new13_any hN w T os A n c hT ho hA hn hc
  same := fun w T U hT hU hc => same13_any hN w T U hT hU hc
  tops := fun w T os A n c hT ho hA hn hc => tops13_any hN w T os A n c hT ho hA hn hc
end Go.Proofs.Ythhhkcjggfdagaa
