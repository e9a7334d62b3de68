/- The document's own answers of layer 11: Line. -/
import Derived.Test.YtlhnjgmjkoafpaaDoorL11Ok
import Derived.Deep.RegionHeld3
import Derived.Deep.RegionLaw
namespace Go.Proofs.YtlhnjgmjkoafpaaDoor
open Go.RowKit Go.Proofs.Treem

set_option maxHeartbeats 4000000 in
theorem refLine11 {T : World → Prop} (hS : TextSays T) : ∀ (t : Tr) (A : Option Addr) (n c B : Nat) (l : List Bd), l.map strip = t.pre → t.size = n → n ≤ 5000 → ∀ w : World, B ≤ w.heap.size → T w → LieB w B A n c l →
    Calls Tryd.prog 15 #[.slice A n c] w fun e w' => e = .returned (sV t.line) ∧ Below w.heap.size w w' := by
  intro t
  induction t with
  | e =>
    intro A n c B l hl hn h5 w hB hT h
    obtain rfl : n = 0 := hn.symm
    go_enter Tryd.func15, Tryd.ntmps15
    go_wp2
    go_ret
    exact ⟨rfl, Below.refl _ _⟩
  | n tl k v g tr ihl ihr =>
    intro A n c B l hl hn h5 w hB hT h
    obtain ⟨i, hi⟩ : ∃ i, tl.size = i := ⟨_, rfl⟩
    obtain ⟨j, hj⟩ : ∃ j, tr.size = j := ⟨_, rfl⟩
    have hn2 : n = 1 + i + j := by rw [← hn, Tr.size, hi, hj]
    have hparts := Lib.hid (parts9_any A n c B l tl tr k v g hl w hB h h5)
    rw [hi, hj] at hparts
    have hL := Lib.hid (fun A c B la hla w hB hT h => ihl A i c B la hla hi (by omega) w hB hT h)
    have hR := Lib.hid (fun A c B la hla w hB hT h => ihr A j c B la hla hj (by omega) w hB hT h)
    have ll := line_len tl
    have lr := line_len tr
    obtain ⟨sl, hsl⟩ : ∃ s, tl.line = s := ⟨_, rfl⟩
    obtain ⟨sr, hsr⟩ : ∃ s, tr.line = s := ⟨_, rfl⟩
    rw [hsl] at ll
    rw [hsr] at lr
    have ll' : sl.length ≤ 400001 := by omega
    have lr' : sr.length ≤ 400001 := by omega
    have hans : (Tr.n tl k v g tr).line = 40 :: (sl ++ 32 :: (num k ++ 58 :: (num v ++ (tagL g ++ 32 :: (sr ++ [41]))))) := by rw [Tr.line, hsl, hsr]
    rw [hans]
    rw [hsl] at hL
    rw [hsr] at hR
    have d1 : ((n : Int) == 0) = false := by simp; omega
    have hS' := Lib.hid hS
    have hT' := Lib.hid hT
    clear h hl ihl ihr hi hj hn hn2 hsl hsr hans hS hT h5 ll lr
    go_enter Tryd.func15, Tryd.ntmps15
    go_wp2_with fail
    refine hparts.out.mono ?_
    rintro e w1 ⟨A1, c1, A2, c2, x, la, lb, rfl, rfl, hx, hla, hlb, K1, K2, hb⟩
    clear hparts
    have hxk : Hid (x.key = k) := congrArg St.key hx
    have hxv : Hid (x.val = v) := congrArg St.val hx
    have hxg : Hid (x.tag = g) := congrArg St.tag hx
    have b1 := Lib.hid hb
    have hla' := Lib.hid hla
    have hlb' := Lib.hid hlb
    have K1' := Lib.hid K1
    have K2' := Lib.hid K2
    clear hb hx hla hlb K1 K2
    go_wp2_with fail
    obtain ⟨W2, hW2⟩ : ∃ W2, w1.alloc (.cells #[K x.key, K x.val, K x.sum, K x.size, G64 x.tag, .bool x.left, .bool x.right] 44) = W2 := ⟨_, rfl⟩
    have gx : Hid (Has W2 w1.heap.size 44 #[K x.key, K x.val, K x.sum, K x.size, G64 x.tag, .bool x.left, .bool x.right]) := hW2 ▸ Has.new w1 _ _
    have b2 : Hid (Below w.heap.size w W2) := hW2 ▸ b1.out.alloc b1.out.size _
    rw [hW2]
    clear hW2 b1
    obtain ⟨p, hp⟩ : ∃ p, w1.heap.size = p := ⟨_, rfl⟩
    rw [hp] at gx ⊢
    clear hp
    rw [hxk.out, hxv.out, hxg.out] at gx
    have hcall := Lib.hid (fun (W : World) (hW : Below w.heap.size w W) => hL.out A1 c1 B la hla'.out W (Nat.le_trans hB hW.size) (hS'.out.next hT'.out hW) (K1'.out.next (hW.mono hB)))
    have hcallR := Lib.hid (fun (W : World) (hW : Below w.heap.size w W) => hR.out A2 c2 B lb hlb'.out W (Nat.le_trans hB hW.size) (hS'.out.next hT'.out hW) (K2'.out.next (hW.mono hB)))
    have hk := Lib.hid (fun (W : World) (hW : Below w.heap.size w W) => hS'.out.int W k (hS'.out.next hT'.out hW))
    have hv := Lib.hid (fun (W : World) (hW : Below w.heap.size w W) => hS'.out.int W v (hS'.out.next hT'.out hW))
    have hg := Lib.hid (fun (W : World) (hW : Below w.heap.size w W) => hS'.out.uint W g (hS'.out.next hT'.out hW))
    obtain ⟨y0, y1, y2, y3, y4, y5, y6⟩ := gx.out.seven
    clear y2 y3 y4 y5 y6
    obtain ⟨sk, hsk⟩ : ∃ s, num k = s := ⟨_, rfl⟩
    obtain ⟨sv, hsv⟩ : ∃ s, num v = s := ⟨_, rfl⟩
    have lk := num_len k
    have lv := num_len v
    have lg := unum_len g
    rw [hsk] at hk lk
    rw [hsv] at hv lv
    obtain ⟨s1, h1⟩ : ∃ s, [40] ++ sl = s := ⟨_, rfl⟩
    obtain ⟨s2, h2⟩ : ∃ s, s1 ++ [32] = s := ⟨_, rfl⟩
    obtain ⟨s3, h3⟩ : ∃ s, s2 ++ sk = s := ⟨_, rfl⟩
    obtain ⟨s4, h4⟩ : ∃ s, s3 ++ [58] = s := ⟨_, rfl⟩
    obtain ⟨s5, h5⟩ : ∃ s, s4 ++ sv = s := ⟨_, rfl⟩
    have l1 : s1.length ≤ 400010 := by rw [← h1]; simp; omega
    have l2 : s2.length ≤ 400020 := by rw [← h2]; simp; omega
    have l3 : s3.length ≤ 400050 := by rw [← h3]; simp; omega
    have l4 : s4.length ≤ 400060 := by rw [← h4]; simp; omega
    have l5 : s5.length ≤ 400090 := by rw [← h5]; simp; omega
    have a1 := str_add Tryd.prog [40] sl s1 h1 (by omega)
    have a2 := str_add Tryd.prog s1 [32] s2 h2 (by omega)
    have a3 := str_add Tryd.prog s2 sk s3 h3 (by omega)
    have a4 := str_add Tryd.prog s3 [58] s4 h4 (by omega)
    have a5 := str_add Tryd.prog s4 sv s5 h5 (by omega)
    have h5e : Hid (s5 = 40 :: (sl ++ 32 :: (sk ++ 58 :: sv))) := by show s5 = _; rw [← h5, ← h4, ← h3, ← h2, ← h1]; simp
    clear h1 h2 h3 h4 h5 l1 l2 l3 l4
    refine wp_region_held_drew (S := fun u => u.cell? ⟨p, 0, none⟩ = some (K k) ∧ u.cell? ⟨p, 1, none⟩ = some (K v) ∧ Below W2.heap.size W2 u) (by kernel_rfl) ⟨y0, y1, (Below.refl W2.heap.size W2).drew⟩ (fun hS => ?_)
    refine wpAnyH_take (i := 0) (oi := ?dqr1q0) (v := ?dvr1q0) ?hir1q0 (by kernel_rfl) (by kernel_rfl) (by kernel_rfl) ?hQr1q0 (Or.inl ⟨?hwr1q0, ?hyr1q0⟩) hS ?hrr1q0
    case hir1q0 => simp only [List.getElem?_toArray, List.getElem?_cons_zero]; rfl
    case hQr1q0 => exact fun _ _ _ h => h
    case hwr1q0 => rfl
    case hyr1q0 => (intro w hSw; (try dsimp only at hSw); go_simp; (try with_reducible rfl))
    simp only [Act.put, List.setIfInBounds_toArray, List.set_cons_zero, List.set_cons_succ]
    refine wpAnyH_take (i := 4) (oi := ?dqr1q4) (v := ?dvr1q4) ?hir1q4 (by kernel_rfl) (by kernel_rfl) (by kernel_rfl) ?hQr1q4 (Or.inl ⟨?hwr1q4, ?hyr1q4⟩) hS ?hrr1q4
    case hir1q4 => simp only [List.getElem?_toArray, List.getElem?_cons_succ, List.getElem?_cons_zero]; rfl
    case hQr1q4 => exact fun _ _ _ h => h
    case hwr1q4 => rfl
    case hyr1q4 => (intro w hSw; (try dsimp only at hSw); go_simp; (try with_reducible rfl))
    simp only [Act.put, List.setIfInBounds_toArray, List.set_cons_zero, List.set_cons_succ]
    refine wpAnyH_take (i := 5) (oi := ?dqr1q5) (v := ?dvr1q5) ?hir1q5 (by kernel_rfl) (by kernel_rfl) (by kernel_rfl) ?hQr1q5 (Or.inl ⟨?hwr1q5, ?hyr1q5⟩) hS ?hrr1q5
    case hir1q5 => simp only [List.getElem?_toArray, List.getElem?_cons_succ, List.getElem?_cons_zero]; rfl
    case hQr1q5 => exact fun _ _ _ h => h
    case hwr1q5 => rfl
    case hyr1q5 => (intro w hSw; (try dsimp only at hSw); go_simp; (try with_reducible rfl))
    simp only [Act.put, List.setIfInBounds_toArray, List.set_cons_zero, List.set_cons_succ]
    refine wpAnyH_take (i := 9) (oi := ?dqr1q9) (v := ?dvr1q9) ?hir1q9 (by kernel_rfl) (by kernel_rfl) (by kernel_rfl) ?hQr1q9 (Or.inl ⟨?hwr1q9, ?hyr1q9⟩) hS ?hrr1q9
    case hir1q9 => simp only [List.getElem?_toArray, List.getElem?_cons_succ, List.getElem?_cons_zero]; rfl
    case hQr1q9 => exact fun _ _ _ h => h
    case hwr1q9 => rfl
    case hyr1q9 => (intro w hSw; (try dsimp only at hSw); go_simp; (try with_reducible rfl))
    simp only [Act.put, List.setIfInBounds_toArray, List.set_cons_zero, List.set_cons_succ]
    refine wpAnyH_take (i := 10) (oi := ?dqr1q10) (v := ?dvr1q10) ?hir1q10 (by kernel_rfl) (by kernel_rfl) (by kernel_rfl) ?hQr1q10 (Or.inl ⟨?hwr1q10, ?hyr1q10⟩) hS ?hrr1q10
    case hir1q10 => simp only [List.getElem?_toArray, List.getElem?_cons_succ, List.getElem?_cons_zero]; rfl
    case hQr1q10 => exact fun _ _ _ h => h
    case hwr1q10 => rfl
    case hyr1q10 => (intro w hSw; (try dsimp only at hSw); go_simp; (try with_reducible rfl))
    simp only [Act.put, List.setIfInBounds_toArray, List.set_cons_zero, List.set_cons_succ]
    refine wpAnyH_ready (rs := [1]) (by kernel_rfl) (by simp) ?_
    refine AllReadyH.cons (o := ?dqr1q1) ?hir1q1 (fun K hK => ?_) AllReadyH.nil
    case hir1q1 => simp only [List.getElem?_toArray, List.getElem?_cons_succ, List.getElem?_cons_zero]; rfl
    go_simp
    go_at_call 15
    refine (hcall.out _ (Below.after b2.out hS.2.2)).mono ?_
    rintro e u3 ⟨rfl, hb⟩
    have hS2 := And.intro (keep_cell hb hS.1) (And.intro (keep_cell hb hS.2.1) (Below.after hS.2.2 hb))
    clear hS
    refine hK.out _ _ hS2 (fun hS => ?_)
    clear hS2 hK K
    try simp only [Act.put, List.setIfInBounds_toArray, List.set_cons_zero, List.set_cons_succ]
    refine wpAnyH_take (i := 2) (oi := ?dqr1q2) (v := ?dvr1q2) ?hir1q2 (by kernel_rfl) (by kernel_rfl) (by kernel_rfl) ?hQr1q2 (Or.inl ⟨?hwr1q2, ?hyr1q2⟩) hS ?hrr1q2
    case hir1q2 => simp only [List.getElem?_toArray, List.getElem?_cons_succ, List.getElem?_cons_zero]; rfl
    case hQr1q2 => exact fun _ _ _ h => h
    case hwr1q2 => rfl
    case hyr1q2 => (intro w hSw; (try dsimp only at hSw); go_simp; (try with_reducible rfl))
    simp only [Act.put, List.setIfInBounds_toArray, List.set_cons_zero, List.set_cons_succ]
    refine wpAnyH_take (i := 3) (oi := ?dqr1q3) (v := ?dvr1q3) ?hir1q3 (by kernel_rfl) (by kernel_rfl) (by kernel_rfl) ?hQr1q3 (Or.inl ⟨?hwr1q3, ?hyr1q3⟩) hS ?hrr1q3
    case hir1q3 => simp only [List.getElem?_toArray, List.getElem?_cons_succ, List.getElem?_cons_zero]; rfl
    case hQr1q3 => exact fun _ _ _ h => h
    case hwr1q3 => rfl
    case hyr1q3 => (intro w hSw; (try dsimp only at hSw); go_simp; (try with_reducible rfl))
    simp only [Act.put, List.setIfInBounds_toArray, List.set_cons_zero, List.set_cons_succ]
    refine wpAnyH_ready (rs := [6]) (by kernel_rfl) (by simp) ?_
    refine AllReadyH.cons (o := ?dqr1q6) ?hir1q6 (fun K hK => ?_) AllReadyH.nil
    case hir1q6 => simp only [List.getElem?_toArray, List.getElem?_cons_succ, List.getElem?_cons_zero]; rfl
    go_simp
    go_at_call 32
    refine (hk.out _ (Below.after b2.out hS.2.2)).mono ?_
    rintro e u3 ⟨rfl, hb⟩
    have hS2 := And.intro (keep_cell hb hS.1) (And.intro (keep_cell hb hS.2.1) (Below.after hS.2.2 hb))
    clear hS
    refine hK.out _ _ hS2 (fun hS => ?_)
    clear hS2 hK K
    try simp only [Act.put, List.setIfInBounds_toArray, List.set_cons_zero, List.set_cons_succ]
    refine wpAnyH_take (i := 7) (oi := ?dqr1q7) (v := ?dvr1q7) ?hir1q7 (by kernel_rfl) (by kernel_rfl) (by kernel_rfl) ?hQr1q7 (Or.inl ⟨?hwr1q7, ?hyr1q7⟩) hS ?hrr1q7
    case hir1q7 => simp only [List.getElem?_toArray, List.getElem?_cons_succ, List.getElem?_cons_zero]; rfl
    case hQr1q7 => exact fun _ _ _ h => h
    case hwr1q7 => rfl
    case hyr1q7 => (intro w hSw; (try dsimp only at hSw); go_simp; (try with_reducible rfl))
    simp only [Act.put, List.setIfInBounds_toArray, List.set_cons_zero, List.set_cons_succ]
    refine wpAnyH_take (i := 8) (oi := ?dqr1q8) (v := ?dvr1q8) ?hir1q8 (by kernel_rfl) (by kernel_rfl) (by kernel_rfl) ?hQr1q8 (Or.inl ⟨?hwr1q8, ?hyr1q8⟩) hS ?hrr1q8
    case hir1q8 => simp only [List.getElem?_toArray, List.getElem?_cons_succ, List.getElem?_cons_zero]; rfl
    case hQr1q8 => exact fun _ _ _ h => h
    case hwr1q8 => rfl
    case hyr1q8 => (intro w hSw; (try dsimp only at hSw); go_simp; (try with_reducible rfl))
    simp only [Act.put, List.setIfInBounds_toArray, List.set_cons_zero, List.set_cons_succ]
    refine wpAnyH_ready (rs := [11]) (by kernel_rfl) (by simp) ?_
    refine AllReadyH.cons (o := ?dqr1q11) ?hir1q11 (fun K hK => ?_) AllReadyH.nil
    case hir1q11 => simp only [List.getElem?_toArray, List.getElem?_cons_succ, List.getElem?_cons_zero]; rfl
    go_simp
    go_at_call 32
    refine (hv.out _ (Below.after b2.out hS.2.2)).mono ?_
    rintro e u3 ⟨rfl, hb⟩
    have hS2 := And.intro (keep_cell hb hS.1) (And.intro (keep_cell hb hS.2.1) (Below.after hS.2.2 hb))
    clear hS
    refine hK.out _ _ hS2 (fun hS => ?_)
    clear hS2 hK K
    try simp only [Act.put, List.setIfInBounds_toArray, List.set_cons_zero, List.set_cons_succ]
    refine wpAnyH_take (i := 12) (oi := ?dqr1q12) (v := ?dvr1q12) ?hir1q12 (by kernel_rfl) (by kernel_rfl) (by kernel_rfl) ?hQr1q12 (Or.inl ⟨?hwr1q12, ?hyr1q12⟩) hS ?hrr1q12
    case hir1q12 => simp only [List.getElem?_toArray, List.getElem?_cons_succ, List.getElem?_cons_zero]; rfl
    case hQr1q12 => exact fun _ _ _ h => h
    case hwr1q12 => rfl
    case hyr1q12 => (intro w hSw; (try dsimp only at hSw); go_simp; (try with_reducible rfl))
    simp only [Act.put, List.setIfInBounds_toArray, List.set_cons_zero, List.set_cons_succ]
    refine wpAnyH_take (i := 13) (oi := ?dqr1q13) (v := ?dvr1q13) ?hir1q13 (by kernel_rfl) (by kernel_rfl) (by kernel_rfl) ?hQr1q13 (Or.inl ⟨?hwr1q13, ?hyr1q13⟩) hS ?hrr1q13
    case hir1q13 => simp only [List.getElem?_toArray, List.getElem?_cons_succ, List.getElem?_cons_zero]; rfl
    case hQr1q13 => exact fun _ _ _ h => h
    case hwr1q13 => rfl
    case hyr1q13 => (intro w hSw; (try dsimp only at hSw); go_simp; (try with_reducible rfl))
    simp only [Act.put, List.setIfInBounds_toArray, List.set_cons_zero, List.set_cons_succ]
    refine wpAnyH_done (by kernel_rfl) ?_ _
    have b3 := Lib.hid (Below.after b2.out hS.2.2)
    have gx3 := Lib.hid (Has.next gx.out hS.2.2)
    obtain ⟨z0, z1, z2, z3, z4, z5, z6⟩ := gx3.out.seven
    clear hS y0 y1 z0 z1 z2 z3 z5 z6 hcall hk hv
    by_cases hg0 : g = 0#64
    · have e0 : ((g.toNat : Int) == 0) = true := by rw [hg0]; rfl
      have hans : Hid (tagL g = []) := by show _ = _; rw [tagL, if_pos hg0]
      obtain ⟨s6, h6⟩ : ∃ s, s5 ++ [32] = s := ⟨_, rfl⟩
      obtain ⟨s7, h7⟩ : ∃ s, s6 ++ sr = s := ⟨_, rfl⟩
      obtain ⟨s8, h8⟩ : ∃ s, s7 ++ [41] = s := ⟨_, rfl⟩
      have l6 : s6.length ≤ 400100 := by rw [← h6]; simp; omega
      have l7 : s7.length ≤ 800110 := by rw [← h7]; simp; omega
      have l8 : s8.length ≤ 800120 := by rw [← h8]; simp; omega
      have a6 := str_add Tryd.prog s5 [32] s6 h6 (by omega)
      have a7 := str_add Tryd.prog s6 sr s7 h7 (by omega)
      have a8 := str_add Tryd.prog s7 [41] s8 h8 (by omega)
      have h8e : Hid (s8 = 40 :: (sl ++ 32 :: (sk ++ 58 :: (sv ++ (tagL g ++ 32 :: (sr ++ [41])))))) := by show s8 = _; rw [hans.out, ← h8, ← h7, ← h6, h5e.out]; simp
      clear h6 h7 h8 l6 l7 l8 l5 a1 a2 a3 a4 a5 hans hg0
      go_wp2_with fail
      refine (hcallR.out u3 b3.out).mono ?_
      rintro e u4 ⟨rfl, hb4⟩
      have b4 := Lib.hid (Below.after b3.out hb4)
      clear hb4
      go_wp2
      go_ret
      exact ⟨by rw [hsk, hsv, ← h8e.out]; rfl, b4.out⟩
    · have e0 : ((g.toNat : Int) == 0) = false := by
        rw [beq_eq_false_iff_ne]
        intro e
        exact hg0 (BitVec.eq_of_toNat_eq (by simpa using e))
      obtain ⟨sg, hsg⟩ : ∃ s, unum g = s := ⟨_, rfl⟩
      have hans : Hid (tagL g = 35 :: sg) := by show _ = _; rw [tagL, if_neg hg0, hsg]
      rw [hsg] at hg lg
      obtain ⟨r1, q1⟩ : ∃ s, s5 ++ [35] = s := ⟨_, rfl⟩
      obtain ⟨r2, q2⟩ : ∃ s, r1 ++ sg = s := ⟨_, rfl⟩
      obtain ⟨s6, h6⟩ : ∃ s, r2 ++ [32] = s := ⟨_, rfl⟩
      obtain ⟨s7, h7⟩ : ∃ s, s6 ++ sr = s := ⟨_, rfl⟩
      obtain ⟨s8, h8⟩ : ∃ s, s7 ++ [41] = s := ⟨_, rfl⟩
      have m1 : r1.length ≤ 400100 := by rw [← q1]; simp; omega
      have m2 : r2.length ≤ 400130 := by rw [← q2]; simp; omega
      have l6 : s6.length ≤ 400140 := by rw [← h6]; simp; omega
      have l7 : s7.length ≤ 800150 := by rw [← h7]; simp; omega
      have l8 : s8.length ≤ 800160 := by rw [← h8]; simp; omega
      have c1 := str_add Tryd.prog s5 [35] r1 q1 (by omega)
      have c2 := str_add Tryd.prog r1 sg r2 q2 (by omega)
      have a6 := str_add Tryd.prog r2 [32] s6 h6 (by omega)
      have a7 := str_add Tryd.prog s6 sr s7 h7 (by omega)
      have a8 := str_add Tryd.prog s7 [41] s8 h8 (by omega)
      have h8e : Hid (s8 = 40 :: (sl ++ 32 :: (sk ++ 58 :: (sv ++ (tagL g ++ 32 :: (sr ++ [41])))))) := by show s8 = _; rw [hans.out, ← h8, ← h7, ← h6, ← q2, ← q1, h5e.out]; simp
      clear h6 h7 h8 l6 l7 l8 l5 a1 a2 a3 a4 a5 hans hg0 q1 q2 m1 m2 hsg
      go_wp2_with fail
      refine (hg.out u3 b3.out).mono ?_
      rintro e u4 ⟨rfl, hb4⟩
      have b4 := Lib.hid (Below.after b3.out hb4)
      clear hb4
      go_wp2_with fail
      refine (hcallR.out u4 b4.out).mono ?_
      rintro e u5 ⟨rfl, hb5⟩
      have b5 := Lib.hid (Below.after b4.out hb5)
      clear hb5
      go_wp2
      go_ret
      exact ⟨by rw [hsk, hsv, ← h8e.out]; rfl, b5.out⟩
end Go.Proofs.YtlhnjgmjkoafpaaDoor
