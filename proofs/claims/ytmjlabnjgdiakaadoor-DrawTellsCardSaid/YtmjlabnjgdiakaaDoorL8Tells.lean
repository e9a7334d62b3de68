/- Layer 8: the law DrawTells, walked. -/
import Derived.Test.YtmjlabnjgdiakaaDoorL8Two
import Derived.Test.YtmjlabnjgdiakaaDoorGHeld
namespace Go.Proofs.YtmjlabnjgdiakaaDoor
open Go.RowKit Go.Proofs.Mixm
set_option maxRecDepth 100000
variable {Dr : DrP}

set_option maxHeartbeats 2000000 in
theorem drawTells_many1 (hD : DrawSays Dr) (A B : Option Addr) (n c m d : Nat) (o : Nat) (hn : 200 < n) (w : World) (h0 : 0 < w.heap.size) (hs : Steps w) :
    Calls Tryd.prog 3 #[.slice A n c, .slice B m d, .int .u8 o] w fun e w' => e = .returned (.bool true) ∧ Below w.heap.size w w' := by
  have hA := Lib.hid (alive8_any hD w h0 hs)
  have d1 : decide ((200 : Int) < (n : Int)) = true := decide_eq_true (by omega)
  have d2 : (200 : Int) < (n : Int) := by omega
  clear hs hD
  go_enter Tryd.func3, Tryd.ntmps3
  go_wp2_with (go_at_call 5; (with_reducible refine hA.out.mono ?_); rintro e w' ⟨rfl, hb⟩; have b1 := Lib.hid hb; clear hb)
  go_ret
  exact ⟨rfl, b1.out⟩
set_option maxHeartbeats 2000000 in
theorem drawTells_many2 (hD : DrawSays Dr) (A B : Option Addr) (n c m d : Nat) (o : Nat) (hn : n ≤ 200) (hm : 200 < m) (w : World) (h0 : 0 < w.heap.size) (hs : Steps w) :
    Calls Tryd.prog 3 #[.slice A n c, .slice B m d, .int .u8 o] w fun e w' => e = .returned (.bool true) ∧ Below w.heap.size w w' := by
  have hA := Lib.hid (alive8_any hD w h0 hs)
  have d1 : decide ((200 : Int) < (n : Int)) = false := decide_eq_false (by omega)
  have d2 : ¬ (200 : Int) < (n : Int) := by omega
  have d3 : decide ((200 : Int) < (m : Int)) = true := decide_eq_true (by omega)
  have d4 : (200 : Int) < (m : Int) := by omega
  clear hs hD
  go_enter Tryd.func3, Tryd.ntmps3
  go_wp2_with (go_at_call 5; (with_reducible refine hA.out.mono ?_); rintro e w' ⟨rfl, hb⟩; have b1 := Lib.hid hb; clear hb)
  go_ret
  exact ⟨rfl, b1.out⟩

set_option maxHeartbeats 16000000 in
theorem drawTells_few (hD : DrawSays Dr) (A B : Option Addr) (n c m d : Nat) (l ks : List (BitVec 64)) (o kk : Nat) (ho : o ≤ 255) (hkk : o % (m + 1) = kk) (hn : n ≤ 200) (hm : m ≤ 200) (w : World) (h0 : 0 < w.heap.size) (hs : Steps w) (hA : LieU w w.heap.size A n c (l.map V)) (hB : LieU w w.heap.size B m d (ks.map K)) :
    Calls Tryd.prog 3 #[.slice A n c, .slice B m d, .int .u8 o] w fun e w' => e = .returned (.bool true) ∧ Below w.heap.size w w' := by
  have d1 : decide ((200 : Int) < (n : Int)) = false := decide_eq_false (by omega)
  have d2 : ¬ (200 : Int) < (n : Int) := by omega
  have d3 : decide ((200 : Int) < (m : Int)) = false := decide_eq_false (by omega)
  have d4 : ¬ (200 : Int) < (m : Int) := by omega
  have km : kk ≤ m := by have h := Nat.mod_lt o (Nat.succ_pos m); rw [Nat.succ_eq_add_one, hkk] at h; omega
  have r2 : (o : Int) % ((m : Int) + 1) = (kk : Int) := by rw [← hkk]; simp
  have r1 : (o : Int).tmod ((m : Int) + 1) = (kk : Int) := by rw [Int.tmod_eq_emod_of_nonneg (by omega)]; exact r2
  have r3 : ¬ ((m : Int) + 1 = 0) := by omega
  have r4 : (((m : Int) + 1) == 0) = false := by simp; omega
  have hln : Hid (l.length = n) := by have := hA.len; rwa [List.length_map] at this
  have hlm : Hid (ks.length = m) := by have := hB.len; rwa [List.length_map] at this
  have hfn : l.length ≤ 3000 := by rw [hln.out]; omega
  have l3 : ∀ k, (l.drop k).length ≤ 3000 := fun k => by rw [List.length_drop]; omega
  have hD' := Lib.hid hD
  have hs' := Lib.hid hs
  have hA' := Lib.hid hA
  have hB' := Lib.hid hB
  have l3' := Lib.hid l3
  clear hD hs hA hB hkk l3
  go_enter Tryd.func3, Tryd.ntmps3
  go_wp2_with fail
  refine (own8_any A n c _ l w hA'.out).mono ?_
  rintro e w1 ⟨v1, rfl, ho1, hb⟩
  obtain ⟨A1, c1, rfl, _, _, _⟩ := own_slice ho1
  have b1 := Lib.hid hb
  have u1 := Lib.hid (lieu_own hln.out (by omega) ho1)
  clear ho1 hb
  go_wp2_with fail
  refine (hD'.out.new w1 A1 n c1 l u1.out).mono ?_
  rintro e w2 ⟨a, S, rfl, hS, ha, hd, hb⟩
  have b2 := Lib.hid (Below.after b1.out hb)
  have hS2 : Hid (∀ i, S i → w.heap.size ≤ i) := fun i hi => Nat.le_trans b1.out.size (hS i hi)
  have hd2 := Lib.hid hd
  have u2 := Lib.hid (hA'.out.next b2.out)
  clear hS ha hd hb u1
  go_wp2_with fail
  refine (rnew8 A n c _ l w2 u2.out).mono ?_
  rintro e w3 ⟨ra, R, rfl, hR, hr, hb⟩
  obtain ⟨g, rfl⟩ : ∃ g, ra = ⟨g, 0, none⟩ := by obtain ⟨g, _, _, _, e, _⟩ := hr; exact ⟨g, e⟩
  have t3 : Hid (Two Dr w R a ⟨g, 0, none⟩ (l.drop 0) (l.drop 0) w3) := ⟨S, hD'.out.keep hd2.out (fun i hi => hb.block i (hD'.out.lt hd2.out i hi)), hr, fun i hi => ⟨hS2.out i hi, fun h => by have := hD'.out.lt hd2.out i hi; have := (hR i h).1; omega⟩, fun i hi => ⟨Nat.le_trans b2.out.size (hR i hi).1, (hR i hi).2⟩, Below.after b2.out hb⟩
  clear hR hr hb b1 b2 u2 hS2 hd2
  go_wp2
  go_loopw [10] (fun i wr => ∃ k : Nat, k ≤ kk ∧ i = .int .i64 k ∧ Two Dr w R a ⟨g, 0, none⟩ (l.drop k) (l.drop k) wr) (fun i _ => kk - (intOf i).toNat)
  case atStart => exact ⟨0, Nat.zero_le _, rfl, t3.out⟩
  case round =>
    obtain ⟨k, hk, rfl, ht⟩ := hrel
    have t0 := Lib.hid ht
    clear ht t3
    by_cases hlt : k < kk
    · have hkm : k < ks.length := by rw [hlm.out]; omega
      obtain ⟨ad, rfl, had, hcell⟩ := hB'.out.row k (K ks[k]) (by rw [List.getElem?_map, List.getElem?_eq_getElem hkm]; rfl)
      have hcell' := Lib.hid hcell
      have kkm : (k : Int) < (m : Int) := by omega
      obtain ⟨y, hy⟩ : ∃ y, ks[k] = y := ⟨_, rfl⟩
      rw [hy] at hcell'
      have had' := Lib.hid had
      obtain ⟨z, hz⟩ : ∃ z, Drawm.out y (l.drop k) = z := ⟨_, rfl⟩
      have lk := l3'.out k
      obtain ⟨L, hL⟩ : ∃ L, l.drop k = L := ⟨_, rfl⟩
      have hL2 : L.tail = l.drop (k + 1) := by rw [← hL]; exact Drawm.tail_drop l k
      rw [hL] at hz lk t0
      have cD := Lib.hid (fun W (h : Two Dr w R a ⟨g, 0, none⟩ L L W) => hz ▸ two_d hD'.out y h0 hs'.out lk h)
      have cR := Lib.hid (fun W (h : Two Dr w R a ⟨g, 0, none⟩ L.tail L W) => hz ▸ two_r hD'.out y lk h)
      have lt : L.tail.length ≤ 3000 := by rw [List.length_tail]; omega
      have cL := Lib.hid (fun W (h : Two Dr w R a ⟨g, 0, none⟩ L.tail L.tail W) => two_left hD'.out lt h)
      have hL2' := Lib.hid hL2
      clear hz hy hL hL2 hcell had hkm lt
      go_wp2_with fail
      have td := Lib.hid (t0.out.next hD'.out (Below.refl wr.heap.size wr).drew)
      refine wp_region_held_drew (S := fun x => x.cell? (ad.add k) = some (K y)) (by kernel_rfl) (keep_cell td.out.bel hcell'.out) (fun hS => ?_)
      refine wpAnyH_take (i := 0) (oi := ?dqr1q0) (v := ?dvr1q0) ?hir1q0 (by kernel_rfl) (by kernel_rfl) (by kernel_rfl) ?hQr1q0 (Or.inl ⟨?hwr1q0, ?hyr1q0⟩) hS ?hrr1q0
      case hir1q0 => simp only [List.getElem?_toArray, List.getElem?_cons_zero]; rfl
      case hQr1q0 => exact fun _ _ _ h => h
      case hwr1q0 => rfl
      case hyr1q0 => (intro w hSw; (try dsimp only at hSw); go_simp; (try with_reducible rfl))
      simp only [Act.put, List.setIfInBounds_toArray, List.set_cons_zero, List.set_cons_succ]
      refine wpAnyH_take (i := 1) (oi := ?dqr1q1) (v := ?dvr1q1) ?hir1q1 (by kernel_rfl) (by kernel_rfl) (by kernel_rfl) ?hQr1q1 (Or.inl ⟨?hwr1q1, ?hyr1q1⟩) hS ?hrr1q1
      case hir1q1 => simp only [List.getElem?_toArray, List.getElem?_cons_succ, List.getElem?_cons_zero]; rfl
      case hQr1q1 => exact fun _ _ _ h => h
      case hwr1q1 => rfl
      case hyr1q1 => (intro w hSw; (try dsimp only at hSw); go_simp; (try with_reducible rfl))
      simp only [Act.put, List.setIfInBounds_toArray, List.set_cons_zero, List.set_cons_succ]
      refine wpAnyH_take (i := 2) (oi := ?dqr1q2) (v := ?dvr1q2) ?hir1q2 (by kernel_rfl) (by kernel_rfl) (by kernel_rfl) ?hQr1q2 (Or.inl ⟨?hwr1q2, ?hyr1q2⟩) hS ?hrr1q2
      case hir1q2 => simp only [List.getElem?_toArray, List.getElem?_cons_succ, List.getElem?_cons_zero]; rfl
      case hQr1q2 => exact fun _ _ _ h => h
      case hwr1q2 => rfl
      case hyr1q2 => (intro w hSw; (try dsimp only at hSw); go_simp; (try with_reducible rfl))
      simp only [Act.put, List.setIfInBounds_toArray, List.set_cons_zero, List.set_cons_succ]
      refine wpAnyH_take (i := 3) (oi := ?dqr1q3) (v := ?dvr1q3) ?hir1q3 (by kernel_rfl) (by kernel_rfl) (by kernel_rfl) ?hQr1q3 (Or.inl ⟨?hwr1q3, ?hyr1q3⟩) hS ?hrr1q3
      case hir1q3 => simp only [List.getElem?_toArray, List.getElem?_cons_succ, List.getElem?_cons_zero]; rfl
      case hQr1q3 => exact fun _ _ _ h => h
      case hwr1q3 => rfl
      case hyr1q3 => (intro w hSw; (try dsimp only at hSw); go_simp; (try with_reducible rfl))
      simp only [Act.put, List.setIfInBounds_toArray, List.set_cons_zero, List.set_cons_succ]
      refine wpAnyH_take (i := 4) (oi := ?dqr1q4) (v := ?dvr1q4) ?hir1q4 (by kernel_rfl) (by kernel_rfl) (by kernel_rfl) ?hQr1q4 (Or.inl ⟨?hwr1q4, ?hyr1q4⟩) hS ?hrr1q4
      case hir1q4 => simp only [List.getElem?_toArray, List.getElem?_cons_succ, List.getElem?_cons_zero]; rfl
      case hQr1q4 => exact fun _ _ _ h => h
      case hwr1q4 => rfl
      case hyr1q4 => (intro w hSw; (try dsimp only at hSw); go_simp; (try with_reducible rfl))
      simp only [Act.put, List.setIfInBounds_toArray, List.set_cons_zero, List.set_cons_succ]
      refine wpAnyH_take (i := 6) (oi := ?dqr1q6) (v := ?dvr1q6) ?hir1q6 (by kernel_rfl) (by kernel_rfl) (by kernel_rfl) ?hQr1q6 (Or.inl ⟨?hwr1q6, ?hyr1q6⟩) hS ?hrr1q6
      case hir1q6 => simp only [List.getElem?_toArray, List.getElem?_cons_succ, List.getElem?_cons_zero]; rfl
      case hQr1q6 => exact fun _ _ _ h => h
      case hwr1q6 => rfl
      case hyr1q6 => (intro w hSw; (try dsimp only at hSw); go_simp; (try with_reducible rfl))
      simp only [Act.put, List.setIfInBounds_toArray, List.set_cons_zero, List.set_cons_succ]
      refine wpAnyH_take (i := 7) (oi := ?dqr1q7) (v := ?dvr1q7) ?hir1q7 (by kernel_rfl) (by kernel_rfl) (by kernel_rfl) ?hQr1q7 (Or.inl ⟨?hwr1q7, ?hyr1q7⟩) hS ?hrr1q7
      case hir1q7 => simp only [List.getElem?_toArray, List.getElem?_cons_succ, List.getElem?_cons_zero]; rfl
      case hQr1q7 => exact fun _ _ _ h => h
      case hwr1q7 => rfl
      case hyr1q7 => (intro w hSw; (try dsimp only at hSw); go_simp; (try with_reducible rfl))
      simp only [Act.put, List.setIfInBounds_toArray, List.set_cons_zero, List.set_cons_succ]
      refine wpAnyH_take (i := 8) (oi := ?dqr1q8) (v := ?dvr1q8) ?hir1q8 (by kernel_rfl) (by kernel_rfl) (by kernel_rfl) ?hQr1q8 (Or.inl ⟨?hwr1q8, ?hyr1q8⟩) hS ?hrr1q8
      case hir1q8 => simp only [List.getElem?_toArray, List.getElem?_cons_succ, List.getElem?_cons_zero]; rfl
      case hQr1q8 => exact fun _ _ _ h => h
      case hwr1q8 => rfl
      case hyr1q8 => (intro w hSw; (try dsimp only at hSw); go_simp; (try with_reducible rfl))
      simp only [Act.put, List.setIfInBounds_toArray, List.set_cons_zero, List.set_cons_succ]
      refine wpAnyH_take (i := 9) (oi := ?dqr1q9) (v := ?dvr1q9) ?hir1q9 (by kernel_rfl) (by kernel_rfl) (by kernel_rfl) ?hQr1q9 (Or.inl ⟨?hwr1q9, ?hyr1q9⟩) hS ?hrr1q9
      case hir1q9 => simp only [List.getElem?_toArray, List.getElem?_cons_succ, List.getElem?_cons_zero]; rfl
      case hQr1q9 => exact fun _ _ _ h => h
      case hwr1q9 => rfl
      case hyr1q9 => (intro w hSw; (try dsimp only at hSw); go_simp; (try with_reducible rfl))
      simp only [Act.put, List.setIfInBounds_toArray, List.set_cons_zero, List.set_cons_succ]
      refine wpAnyH_take (i := 10) (oi := ?dqr1q10) (v := ?dvr1q10) ?hir1q10 (by kernel_rfl) (by kernel_rfl) (by kernel_rfl) ?hQr1q10 (Or.inl ⟨?hwr1q10, ?hyr1q10⟩) hS ?hrr1q10
      case hir1q10 => simp only [List.getElem?_toArray, List.getElem?_cons_succ, List.getElem?_cons_zero]; rfl
      case hQr1q10 => exact fun _ _ _ h => h
      case hwr1q10 => rfl
      case hyr1q10 => (intro w hSw; (try dsimp only at hSw); go_simp; (try with_reducible rfl))
      simp only [Act.put, List.setIfInBounds_toArray, List.set_cons_zero, List.set_cons_succ]
      refine wpAnyH_ready (rs := [5]) (by kernel_rfl) (by simp) ?_
      refine AllReadyH.cons (o := ?dqr1q5) ?hir1q5 (fun K hK => ?_) AllReadyH.nil
      case hir1q5 => simp only [List.getElem?_toArray, List.getElem?_cons_succ, List.getElem?_cons_zero]; rfl
      go_simp
      go_at_call 9
      refine (cD.out _ td.out).mono ?_
      rintro e w5 ⟨rfl, ht, _⟩
      have t5 := Lib.hid ht
      clear ht
      have hS2 := keep_cell t5.out.bel hcell'.out
      clear hS
      refine hK.out _ _ hS2 (fun hS => ?_)
      clear hS2 hK K
      try simp only [Act.put, List.setIfInBounds_toArray, List.set_cons_zero, List.set_cons_succ]
      refine wpAnyH_ready (rs := [11]) (by kernel_rfl) (by simp) ?_
      refine AllReadyH.cons (o := ?dqr1q11) ?hir1q11 (fun K hK => ?_) AllReadyH.nil
      case hir1q11 => simp only [List.getElem?_toArray, List.getElem?_cons_succ, List.getElem?_cons_zero]; rfl
      go_simp
      go_at_call 10
      refine (cR.out _ t5.out).mono ?_
      rintro e w6 ⟨rfl, ht, _⟩
      have t6 := Lib.hid ht
      clear ht
      have hS2 := keep_cell t6.out.bel hcell'.out
      clear hS
      refine hK.out _ _ hS2 (fun hS => ?_)
      clear hS2 hK K
      try simp only [Act.put, List.setIfInBounds_toArray, List.set_cons_zero, List.set_cons_succ]
      refine wpAnyH_take (i := 12) (oi := ?dqr1q12) (v := ?dvr1q12) ?hir1q12 (by kernel_rfl) (by kernel_rfl) (by kernel_rfl) ?hQr1q12 (Or.inl ⟨?hwr1q12, ?hyr1q12⟩) hS ?hrr1q12
      case hir1q12 => simp only [List.getElem?_toArray, List.getElem?_cons_succ, List.getElem?_cons_zero]; rfl
      case hQr1q12 => exact fun _ _ _ h => h
      case hwr1q12 => rfl
      case hyr1q12 => (intro w hSw; (try dsimp only at hSw); go_simp; (try with_reducible rfl))
      simp only [Act.put, List.setIfInBounds_toArray, List.set_cons_zero, List.set_cons_succ]
      refine wpAnyH_take (i := 13) (oi := ?dqr1q13) (v := ?dvr1q13) ?hir1q13 (by kernel_rfl) (by kernel_rfl) (by kernel_rfl) ?hQr1q13 (Or.inl ⟨?hwr1q13, ?hyr1q13⟩) hS ?hrr1q13
      case hir1q13 => simp only [List.getElem?_toArray, List.getElem?_cons_succ, List.getElem?_cons_zero]; rfl
      case hQr1q13 => exact fun _ _ _ h => h
      case hwr1q13 => rfl
      case hyr1q13 => (intro w hSw; (try dsimp only at hSw); go_simp; (try with_reducible rfl))
      simp only [Act.put, List.setIfInBounds_toArray, List.set_cons_zero, List.set_cons_succ]
      obtain ⟨A9, n9, c9, f9, e9⟩ := two_cell t6.out
      have cL1 := cL.out w6 t6.out
      rw [e9] at cL1
      have cL2 := Lib.hid cL1
      clear cL1 e9 cL
      refine wpAnyH_up (S' := fun x => x.cell? (ad.add k) = some (K y) ∧ x.cell? ⟨g, 0, none⟩ = some (.slice A9 n9 c9)) (fun _ h => h.1) ?_
      have hS := And.intro hS f9
      clear f9
      refine wpAnyH_take (i := 14) (oi := ?dqr1q14) (v := ?dvr1q14) ?hir1q14 (by kernel_rfl) (by kernel_rfl) (by kernel_rfl) ?hQr1q14 (Or.inl ⟨?hwr1q14, ?hyr1q14⟩) hS ?hrr1q14
      case hir1q14 => simp only [List.getElem?_toArray, List.getElem?_cons_succ, List.getElem?_cons_zero]; rfl
      case hQr1q14 => exact fun _ _ _ h => h
      case hwr1q14 => rfl
      case hyr1q14 => (intro w hSw; (try dsimp only at hSw); go_simp; (try with_reducible rfl))
      simp only [Act.put, List.setIfInBounds_toArray, List.set_cons_zero, List.set_cons_succ]
      refine wpAnyH_take (i := 16) (oi := ?dqr1q16) (v := ?dvr1q16) ?hir1q16 (by kernel_rfl) (by kernel_rfl) (by kernel_rfl) ?hQr1q16 (Or.inl ⟨?hwr1q16, ?hyr1q16⟩) hS ?hrr1q16
      case hir1q16 => simp only [List.getElem?_toArray, List.getElem?_cons_succ, List.getElem?_cons_zero]; rfl
      case hQr1q16 => exact fun _ _ _ h => h
      case hwr1q16 => rfl
      case hyr1q16 => (intro w hSw; (try dsimp only at hSw); go_simp; (try with_reducible rfl))
      simp only [Act.put, List.setIfInBounds_toArray, List.set_cons_zero, List.set_cons_succ]
      refine wpAnyH_take (i := 17) (oi := ?dqr1q17) (v := ?dvr1q17) ?hir1q17 (by kernel_rfl) (by kernel_rfl) (by kernel_rfl) ?hQr1q17 (Or.inl ⟨?hwr1q17, ?hyr1q17⟩) hS ?hrr1q17
      case hir1q17 => simp only [List.getElem?_toArray, List.getElem?_cons_succ, List.getElem?_cons_zero]; rfl
      case hQr1q17 => exact fun _ _ _ h => h
      case hwr1q17 => rfl
      case hyr1q17 => (intro w hSw; (try dsimp only at hSw); go_simp; (try with_reducible rfl))
      simp only [Act.put, List.setIfInBounds_toArray, List.set_cons_zero, List.set_cons_succ]
      refine wpAnyH_take (i := 18) (oi := ?dqr1q18) (v := ?dvr1q18) ?hir1q18 (by kernel_rfl) (by kernel_rfl) (by kernel_rfl) ?hQr1q18 (Or.inl ⟨?hwr1q18, ?hyr1q18⟩) hS ?hrr1q18
      case hir1q18 => simp only [List.getElem?_toArray, List.getElem?_cons_succ, List.getElem?_cons_zero]; rfl
      case hQr1q18 => exact fun _ _ _ h => h
      case hwr1q18 => rfl
      case hyr1q18 => (intro w hSw; (try dsimp only at hSw); go_simp; (try with_reducible rfl))
      simp only [Act.put, List.setIfInBounds_toArray, List.set_cons_zero, List.set_cons_succ]
      refine wpAnyH_take (i := 19) (oi := ?dqr1q19) (v := ?dvr1q19) ?hir1q19 (by kernel_rfl) (by kernel_rfl) (by kernel_rfl) ?hQr1q19 (Or.inl ⟨?hwr1q19, ?hyr1q19⟩) hS ?hrr1q19
      case hir1q19 => simp only [List.getElem?_toArray, List.getElem?_cons_succ, List.getElem?_cons_zero]; rfl
      case hQr1q19 => exact fun _ _ _ h => h
      case hwr1q19 => rfl
      case hyr1q19 => (intro w hSw; (try dsimp only at hSw); go_simp; (try with_reducible rfl))
      simp only [Act.put, List.setIfInBounds_toArray, List.set_cons_zero, List.set_cons_succ]
      refine wpAnyH_take (i := 20) (oi := ?dqr1q20) (v := ?dvr1q20) ?hir1q20 (by kernel_rfl) (by kernel_rfl) (by kernel_rfl) ?hQr1q20 (Or.inl ⟨?hwr1q20, ?hyr1q20⟩) hS ?hrr1q20
      case hir1q20 => simp only [List.getElem?_toArray, List.getElem?_cons_succ, List.getElem?_cons_zero]; rfl
      case hQr1q20 => exact fun _ _ _ h => h
      case hwr1q20 => rfl
      case hyr1q20 => (intro w hSw; (try dsimp only at hSw); go_simp; (try with_reducible rfl))
      simp only [Act.put, List.setIfInBounds_toArray, List.set_cons_zero, List.set_cons_succ]
      refine wpAnyH_ready (rs := [15]) (by kernel_rfl) (by simp) ?_
      refine AllReadyH.cons (o := ?dqr1q15) ?hir1q15 (fun K hK => ?_) AllReadyH.nil
      case hir1q15 => simp only [List.getElem?_toArray, List.getElem?_cons_succ, List.getElem?_cons_zero]; rfl
      go_simp
      go_at_call 11
      refine cL2.out.mono ?_
      rintro e w7 ⟨rfl, ht, hb⟩
      have t7 := Lib.hid ht
      clear ht
      have hS2 := And.intro (keep_cell t7.out.bel hcell'.out) (keep_cell hb hS.2)
      clear hS
      refine hK.out _ _ hS2 (fun hS => ?_)
      clear hS2 hK K
      try simp only [Act.put, List.setIfInBounds_toArray, List.set_cons_zero, List.set_cons_succ]
      refine wpAnyH_take (i := 21) (oi := ?dqr1q21) (v := ?dvr1q21) ?hir1q21 (by kernel_rfl) (by kernel_rfl) (by kernel_rfl) ?hQr1q21 (Or.inl ⟨?hwr1q21, ?hyr1q21⟩) hS ?hrr1q21
      case hir1q21 => simp only [List.getElem?_toArray, List.getElem?_cons_succ, List.getElem?_cons_zero]; rfl
      case hQr1q21 => exact fun _ _ _ h => h
      case hwr1q21 => rfl
      case hyr1q21 => (intro w hSw; (try dsimp only at hSw); go_simp; (try with_reducible rfl))
      simp only [Act.put, List.setIfInBounds_toArray, List.set_cons_zero, List.set_cons_succ]
      refine wpAnyH_take (i := 22) (oi := ?dqr1q22) (v := ?dvr1q22) ?hir1q22 (by kernel_rfl) (by kernel_rfl) (by kernel_rfl) ?hQr1q22 (Or.inl ⟨?hwr1q22, ?hyr1q22⟩) hS ?hrr1q22
      case hir1q22 => simp only [List.getElem?_toArray, List.getElem?_cons_succ, List.getElem?_cons_zero]; rfl
      case hQr1q22 => exact fun _ _ _ h => h
      case hwr1q22 => rfl
      case hyr1q22 => (intro w hSw; (try dsimp only at hSw); go_simp; (try with_reducible rfl))
      simp only [Act.put, List.setIfInBounds_toArray, List.set_cons_zero, List.set_cons_succ]
      refine wpAnyH_done (by kernel_rfl) ?_ _
      clear hS
      go_wp2
      go_roundw
      case rel => exact ⟨k + 1, by omega, by go_num, hL2'.out ▸ t7.out⟩
      case measure => simp [intOf]; omega
    · obtain rfl : k = kk := by omega
      obtain ⟨S1, hd, hr, hS, hR, hB⟩ := t0.out
      have hd' := Lib.hid hd
      have hr' := Lib.hid hr
      have hS' := Lib.hid hS
      have hR' := Lib.hid hR
      have bB := Lib.hid hB
      clear hd hr hS hR hB t0
      go_wp2_with fail
      refine (hD'.out.copy _ S1 a (l.drop k) (l3'.out k) hd'.out).mono ?_
      rintro e wc ⟨a2, T, rfl, hT, _, hc, hb⟩
      have dc := Lib.hid hc
      have dd := Lib.hid (hD'.out.keep hd'.out (fun i hi => hb.block i (hD'.out.lt hd'.out i hi)))
      have dr := Lib.hid (rdr_keep hr'.out (fun i hi => hb.block i (hR'.out i hi).2))
      have hR2 : Hid (∀ i, R i → w.heap.size ≤ i ∧ i < wr.heap.size) := hR'.out
      have hTT : Hid (∀ i, T i → w.heap.size ≤ i ∧ i < wc.heap.size ∧ ¬ R i ∧ ¬ S1 i) := fun i hi => by
        have h1 := hT i hi
        have h2 := bB.out.size
        exact ⟨by omega, hD'.out.lt hc i hi, fun h => by have := (hR2.out i h).2; omega, fun h => by have := hD'.out.lt hd'.out i h; omega⟩
      have hSS : Hid (∀ i, S1 i → w.heap.size ≤ i ∧ i < wr.heap.size ∧ ¬ R i) := fun i hi => ⟨(hS'.out i hi).1, hD'.out.lt hd'.out i hi, (hS'.out i hi).2⟩
      have hz : wr.heap.size ≤ wc.heap.size := hb.size
      have bc := Lib.hid (Below.after bB.out hb)
      clear hT hc hb hd' hr' hS' hR' bB
      obtain ⟨i0, hi, hz0, hz1, hz2⟩ := info8
      go_wp2
      go_loopw [13, 12] (fun i v wl => ∃ j : Nat, k + j ≤ m ∧ i = .int .i64 (k + j : Nat) ∧ RDr wl R ⟨g, 0, none⟩ (l.drop (k + j)) ∧ wl.ownsRow wc.heap.size 30 1 v j ((Drawm.many ((ks.drop k).take j) (l.drop k)).map V) ∧ But R wc wl) (fun i _ _ => m - (intOf i).toNat)
      case atStart => exact ⟨0, km, rfl, dr.out, World.ownsRow_nil _ _ _ _, But.refl _ _⟩
      case round =>
        obtain ⟨j, hj, rfl, hr, ho, hb⟩ := hrel
        have r0 := Lib.hid hr
        have o0 := Lib.hid ho
        have b0 := Lib.hid hb
        clear hr ho hb
        by_cases hlt : k + j < m
        · have hkm : k + j < ks.length := by rw [hlm.out]; exact hlt
          have bW := Lib.hid (bc.out.trans (b0.out.below bc.out.size (fun i hi => (hR2.out i hi).1)))
          obtain ⟨ad, rfl, had, hcell⟩ := hB'.out.row (k + j) (K ks[k + j]) (by rw [List.getElem?_map, List.getElem?_eq_getElem hkm]; rfl)
          have c0 := keep_cell bW.out hcell
          obtain ⟨y, hy⟩ : ∃ y, ks[k + j] = y := ⟨_, rfl⟩
          obtain ⟨z, hz⟩ : ∃ z, Drawm.out y (l.drop (k + j)) = z := ⟨_, rfl⟩
          have hset : Hid (Drawm.many ((ks.drop k).take (j + 1)) (l.drop k) = Drawm.many ((ks.drop k).take j) (l.drop k) ++ [z]) := by
            show Drawm.many ((ks.drop k).take (j + 1)) (l.drop k) = Drawm.many ((ks.drop k).take j) (l.drop k) ++ [z]
            rw [Drawm.many_next (ks.drop k) (l.drop k) j (by rw [List.length_drop]; omega), List.getElem_drop, hy, List.drop_drop, hz]
          have cR := rnext_any R ⟨g, 0, none⟩ y (l.drop (k + j)) (l3'.out _) wr r0.out
          rw [hz, Drawm.tail_drop l (k + j)] at cR
          have cR' := Lib.hid cR
          rw [hy] at c0
          obtain ⟨X, hX⟩ : ∃ X, Drawm.many ((ks.drop k).take j) (l.drop k) = X := ⟨_, rfl⟩
          rw [hX] at o0 hset
          have hx1 : (k : Int) + (j : Int) < (k : Int) + (m - k : Int) := by omega
          have hx2 : ((k + j : Nat) : Int) < (m : Int) := by omega
          have hx3 : (k : Int) + (j : Int) < (m : Int) := by omega
          have hx4 : k + j < m := hlt
          clear hX hz hy hcell had hkm cR hlt
          go_wp2_with (first
            | (go_at_call 10; refine cR'.out.mono ?_; rintro e w5 ⟨rfl, hr5, hb5⟩; have r5 := Lib.hid hr5; have b5 := Lib.hid (b0.out.trans hb5 (fun i hi => .inl hi)); have o5 := Lib.hid (own_block o0.out (fun i hi hlt _ => hb5.block i hlt (fun h => by have := (hR2.out i h).2; omega))); have z5 := Lib.hid (Nat.le_trans b0.out.size hb5.size); clear hr5 hb5)
            | (at_builtin; refine wpList_append_row rfl _ _ 22 rfl wc.heap.size 30 i0 (.int .u64 0) 1 8 Tryd.underlying22 hi hz0 hz1 hz2 rfl (by decide) _ j _ rfl (o5.out.alloc _) (some ⟨w5.heap.size, 0, none⟩) 1 1 ([z].map V) rfl (by simp) (Nat.le_refl _) rfl _ (Has.new w5 30 #[V z]).row (nums_one [z]) (by unfold maxLen; omega) (by omega) (by have := z5.out; simp; omega) ?_))
          intro v' w6 hown hgrow
          have o6 := Lib.hid hown
          have b6 : Hid (Below wc.heap.size w5 w6) := ((Below.refl wc.heap.size w5).alloc z5.out (.cells #[V z] 30)).grown hgrow (by have := z5.out; simp; omega) (fun r e => (o5.out.lt r e).1)
          have r6 := Lib.hid (rdr_keep r5.out (fun i hi => b6.out.block i (by have := (hR2.out i hi).2; omega)))
          have b7 := Lib.hid (b5.out.trans (But.of_base b6.out) (fun i hi => .inr hi))
          clear hown hgrow
          go_wp2
          go_roundw
          case rel => exact ⟨j + 1, by omega, by go_num, r6.out, by rw [hset.out, List.map_append]; exact o6.out, b7.out⟩
          case measure => simp [intOf]; omega
        · obtain ⟨q, rfl⟩ : ∃ q, m = k + q := ⟨m - k, by omega⟩
          obtain rfl : j = q := by omega
          have hall : (ks.drop k).take j = ks.drop k := List.take_of_length_le (by rw [List.length_drop, hlm.out]; omega)
          rw [hall] at o0
          obtain ⟨X, hX⟩ : ∃ X, Drawm.many (ks.drop k) (l.drop k) = X := ⟨_, rfl⟩
          have hXl : Hid (X.length = j) := by show X.length = j; rw [← hX, Drawm.many_len, List.length_drop, hlm.out]; omega
          rw [hX] at o0
          obtain ⟨KA, hcut, hkeys⟩ := keys_from hB'.out
          have hkeys' := Lib.hid hkeys
          have bl := Lib.hid (bc.out.trans (b0.out.below bc.out.size (fun i hi => (hR2.out i hi).1)))
          have zl : wc.heap.size ≤ wr.heap.size := b0.out.size
          have dd1 := Lib.hid (hD'.out.keep dd.out (fun i hi => b0.out.block i (by have := (hSS.out i hi).2.1; omega) (hSS.out i hi).2.2))
          have dc1 := Lib.hid (hD'.out.keep dc.out (fun i hi => b0.out.block i (hTT.out i hi).2.1 (hTT.out i hi).2.2.1))
          have cM1 := hD'.out.many wr w.heap.size S1 a KA j (d - k) (ks.drop k) (l.drop k) bl.out.size (fun i hi => (hSS.out i hi).1) h0 (steps_at h0 hs'.out bl.out) (hkeys'.out.next bl.out) (l3'.out k) dd1.out
          have cM2 := Lib.hid (fun W (h : Below w.heap.size w W) (hd : Dr W T a2 (l.drop k)) => hX ▸ hD'.out.many W w.heap.size T a2 KA j (d - k) (ks.drop k) (l.drop k) h.size (fun i hi => (hTT.out i hi).1) h0 (steps_at h0 hs'.out h) (hkeys'.out.next h) (l3'.out k) hd)
          rw [hX] at cM1
          have cM1' := Lib.hid cM1
          have hl9 : Hid (((l.drop k).drop j) = l.drop (k + j)) := by show ((l.drop k).drop j) = l.drop (k + j); rw [List.drop_drop]
          rw [hl9.out] at cM1'
          have cM2' := Lib.hid (fun W (h : Below w.heap.size w W) (hd : Dr W T a2 (l.drop k)) => hl9.out ▸ cM2.out W h hd)
          have lr := l3'.out (k + j)
          obtain ⟨Lz, hLz⟩ : ∃ L, l.drop (k + j) = L := ⟨_, rfl⟩
          rw [hLz] at cM1' cM2' r0 lr
          clear hX hall cM1 cM2 hl9 hLz hkeys hi hz0 hz1 hz2
          go_wp2_with fail
          refine cM1'.out.mono ?_
          rintro e w7 ⟨S7, v7, rfl, hS7, hd7, ho7, hb7, hbut⟩
          have s7 := Lib.hid hS7
          have dd7 := Lib.hid hd7
          have o7 := Lib.hid ho7
          have bt7 := Lib.hid hbut
          clear hS7 hd7 ho7 hb7 hbut
          have b7 := Lib.hid (bl.out.trans (bt7.out.below bl.out.size (fun i hi => (hSS.out i hi).1)))
          have r7 := Lib.hid (rdr_keep r0.out (fun i hi => bt7.out.block i (by have := (hR2.out i hi).2; omega) (fun h => (hSS.out i h).2.2 hi)))
          have dc7 := Lib.hid (hD'.out.keep dc1.out (fun i hi => bt7.out.block i (by have := (hTT.out i hi).2.1; omega) (hTT.out i hi).2.2.2))
          have w7o := Lib.hid (own_block o0.out (fun i hi hlt _ => bt7.out.block i hlt (fun h => by have := (hSS.out i h).2.1; omega)))
          have cM3 := Lib.hid (cM2'.out w7 b7.out dc7.out)
          clear cM2' cM1'
          go_wp2_with fail
          refine cM3.out.mono ?_
          rintro e w8 ⟨T8, v8, rfl, hT8, hd8, ho8, hb8, hbut⟩
          have dc8 := Lib.hid hd8
          have o8 := Lib.hid ho8
          have bt8 := Lib.hid hbut
          clear hT8 hd8 ho8 hb8 hbut
          have z7 : wr.heap.size ≤ w7.heap.size := bt7.out.size
          have b8 := Lib.hid (b7.out.trans (bt8.out.below b7.out.size (fun i hi => (hTT.out i hi).1)))
          have r8 := Lib.hid (rdr_keep r7.out (fun i hi => bt8.out.block i (by have := (hR2.out i hi).2; omega) (fun h => (hTT.out i h).2.2.1 hi)))
          have dd8 := Lib.hid (hD'.out.keep dd7.out (fun i hi => bt8.out.block i (hD'.out.lt dd7.out i hi) (fun h => (s7.out i hi).elim (hTT.out i h).2.2.2 (fun h2 => by have := (hTT.out i h).2.1; omega))))
          have w8o := Lib.hid (own_block w7o.out (fun i hi hlt _ => bt8.out.block i hlt (fun h => by have := (hTT.out i h).2.1; omega)))
          have o78 := Lib.hid (own_block o7.out (fun i hi hlt _ => bt8.out.block i hlt (fun h => by have := (hTT.out i h).2.1; omega)))
          obtain ⟨Aw, cw, rfl, _, _, _⟩ := own_slice w8o.out
          obtain ⟨Ax, cx, rfl, _, _, _⟩ := own_slice o78.out
          obtain ⟨Ay, cy, rfl, _, _, _⟩ := own_slice o8.out
          have uW := Lib.hid (lieu_own hXl.out (by omega) w8o.out)
          have uX := Lib.hid (lieu_own hXl.out (by omega) o78.out)
          have uY := Lib.hid (lieu_own hXl.out (by omega) o8.out)
          obtain ⟨A9, n9, c9, f9, e9⟩ := rdr_cell r8.out
          have cS1 := Lib.hid (fun x (h : Below w8.heap.size w8 x) => same8_yes Ax Aw j cx cw X x ((uX.out.next h).more h.size) ((uW.out.next h).more h.size))
          have cS2 := Lib.hid (fun x (h : Below w8.heap.size w8 x) => same8_yes Ay Aw j cy cw X x ((uY.out.next h).more h.size) ((uW.out.next h).more h.size))
          have cL1 := Lib.hid (fun x (h : Below w8.heap.size w8 x) => e9 ▸ hD'.out.left x S7 a Lz lr (hD'.out.keep dd8.out (fun i hi => h.block i (hD'.out.lt dd8.out i hi))))
          have cL2 := Lib.hid (fun x (h : Below w8.heap.size w8 x) => e9 ▸ hD'.out.left x T8 a2 Lz lr (hD'.out.keep dc8.out (fun i hi => h.block i (hD'.out.lt dc8.out i hi))))
          have hko : K (BitVec.ofNat 64 o) = .int .i64 (IntKind.i64.wrap (o : Int)) := by
            have : (BitVec.ofNat 64 o).toInt = (o : Int) := by rw [BitVec.toInt_eq_toNat_of_lt (by rw [BitVec.toNat_ofNat]; omega), BitVec.toNat_ofNat]; omega
            rw [K, this, IntWalk.i64_in _ ⟨by omega, by omega⟩]
          have cN := Lib.hid (fun x (h : Below w8.heap.size w8 x) => hko ▸ nothing8_any hD'.out (BitVec.ofNat 64 o) x (Nat.lt_of_lt_of_le h0 (b8.out.trans (h.mono b8.out.size)).size) (steps_at h0 hs'.out (b8.out.trans (h.mono b8.out.size))))
          have cA := Lib.hid (fun x (h : Below w8.heap.size w8 x) => alive8_any hD'.out x (Nat.lt_of_lt_of_le h0 (b8.out.trans (h.mono b8.out.size)).size) (steps_at h0 hs'.out (b8.out.trans (h.mono b8.out.size))))
          clear e9 hko uW uX uY o78 o8 o7 w7o w8o dc8 dd8 r8 r7 dc7 cM3 bt7 bt8 dd1 dc1 s7 dd7 b7
          go_wp2_with fail
          refine wp_region_held_drew (S := fun x => x.cell? ⟨g, 0, none⟩ = some (.slice A9 n9 c9) ∧ Below w8.heap.size w8 x) (by kernel_rfl) ⟨f9, (Below.refl w8.heap.size w8).drew⟩ (fun hS => ?_)
          refine wpAnyH_take (i := 0) (oi := ?dqr2q0) (v := ?dvr2q0) ?hir2q0 (by kernel_rfl) (by kernel_rfl) (by kernel_rfl) ?hQr2q0 (Or.inl ⟨?hwr2q0, ?hyr2q0⟩) hS ?hrr2q0
          case hir2q0 => simp only [List.getElem?_toArray, List.getElem?_cons_zero]; rfl
          case hQr2q0 => exact fun _ _ _ h => h
          case hwr2q0 => rfl
          case hyr2q0 => (intro w hSw; (try dsimp only at hSw); go_simp; (try with_reducible rfl))
          simp only [Act.put, List.setIfInBounds_toArray, List.set_cons_zero, List.set_cons_succ]
          refine wpAnyH_take (i := 1) (oi := ?dqr2q1) (v := ?dvr2q1) ?hir2q1 (by kernel_rfl) (by kernel_rfl) (by kernel_rfl) ?hQr2q1 (Or.inl ⟨?hwr2q1, ?hyr2q1⟩) hS ?hrr2q1
          case hir2q1 => simp only [List.getElem?_toArray, List.getElem?_cons_succ, List.getElem?_cons_zero]; rfl
          case hQr2q1 => exact fun _ _ _ h => h
          case hwr2q1 => rfl
          case hyr2q1 => (intro w hSw; (try dsimp only at hSw); go_simp; (try with_reducible rfl))
          simp only [Act.put, List.setIfInBounds_toArray, List.set_cons_zero, List.set_cons_succ]
          refine wpAnyH_ready (rs := [2]) (by kernel_rfl) (by simp) ?_
          refine AllReadyH.cons (o := ?dqr2q2) ?hir2q2 (fun K hK => ?_) AllReadyH.nil
          case hir2q2 => simp only [List.getElem?_toArray, List.getElem?_cons_succ, List.getElem?_cons_zero]; rfl
          go_simp
          go_at_call 14
          refine (cS1.out _ hS.2).mono ?_
          rintro e w' ⟨rfl, hb⟩
          have hS2 := held_next (w := w8) hS hb
          clear hS
          refine hK.out _ _ hS2 (fun hS => ?_)
          clear hS2 hK K
          try simp only [Act.put, List.setIfInBounds_toArray, List.set_cons_zero, List.set_cons_succ]
          refine wpAnyH_take (i := 3) (oi := ?dqr2q3) (v := ?dvr2q3) ?hir2q3 (by kernel_rfl) (by kernel_rfl) (by kernel_rfl) ?hQr2q3 (Or.inl ⟨?hwr2q3, ?hyr2q3⟩) hS ?hrr2q3
          case hir2q3 => simp only [List.getElem?_toArray, List.getElem?_cons_succ, List.getElem?_cons_zero]; rfl
          case hQr2q3 => exact fun _ _ _ h => h
          case hwr2q3 => rfl
          case hyr2q3 => (intro w hSw; (try dsimp only at hSw); go_simp; (try with_reducible rfl))
          simp only [Act.put, List.setIfInBounds_toArray, List.set_cons_zero, List.set_cons_succ]
          refine wpAnyH_take (i := 4) (oi := ?dqr2q4) (v := ?dvr2q4) ?hir2q4 (by kernel_rfl) (by kernel_rfl) (by kernel_rfl) ?hQr2q4 (Or.inl ⟨?hwr2q4, ?hyr2q4⟩) hS ?hrr2q4
          case hir2q4 => simp only [List.getElem?_toArray, List.getElem?_cons_succ, List.getElem?_cons_zero]; rfl
          case hQr2q4 => exact fun _ _ _ h => h
          case hwr2q4 => rfl
          case hyr2q4 => (intro w hSw; (try dsimp only at hSw); go_simp; (try with_reducible rfl))
          simp only [Act.put, List.setIfInBounds_toArray, List.set_cons_zero, List.set_cons_succ]
          refine wpAnyH_take (i := 5) (oi := ?dqr2q5) (v := ?dvr2q5) ?hir2q5 (by kernel_rfl) (by kernel_rfl) (by kernel_rfl) ?hQr2q5 (Or.inl ⟨?hwr2q5, ?hyr2q5⟩) hS ?hrr2q5
          case hir2q5 => simp only [List.getElem?_toArray, List.getElem?_cons_succ, List.getElem?_cons_zero]; rfl
          case hQr2q5 => exact fun _ _ _ h => h
          case hwr2q5 => rfl
          case hyr2q5 => (intro w hSw; (try dsimp only at hSw); go_simp; (try with_reducible rfl))
          simp only [Act.put, List.setIfInBounds_toArray, List.set_cons_zero, List.set_cons_succ]
          refine wpAnyH_ready (rs := [6]) (by kernel_rfl) (by simp) ?_
          refine AllReadyH.cons (o := ?dqr2q6) ?hir2q6 (fun K hK => ?_) AllReadyH.nil
          case hir2q6 => simp only [List.getElem?_toArray, List.getElem?_cons_succ, List.getElem?_cons_zero]; rfl
          go_simp
          go_at_call 14
          refine (cS2.out _ hS.2).mono ?_
          rintro e w' ⟨rfl, hb⟩
          have hS2 := held_next (w := w8) hS hb
          clear hS
          refine hK.out _ _ hS2 (fun hS => ?_)
          clear hS2 hK K
          try simp only [Act.put, List.setIfInBounds_toArray, List.set_cons_zero, List.set_cons_succ]
          refine wpAnyH_take (i := 7) (oi := ?dqr2q7) (v := ?dvr2q7) ?hir2q7 (by kernel_rfl) (by kernel_rfl) (by kernel_rfl) ?hQr2q7 (Or.inl ⟨?hwr2q7, ?hyr2q7⟩) hS ?hrr2q7
          case hir2q7 => simp only [List.getElem?_toArray, List.getElem?_cons_succ, List.getElem?_cons_zero]; rfl
          case hQr2q7 => exact fun _ _ _ h => h
          case hwr2q7 => rfl
          case hyr2q7 => (intro w hSw; (try dsimp only at hSw); go_simp; (try with_reducible rfl))
          simp only [Act.put, List.setIfInBounds_toArray, List.set_cons_zero, List.set_cons_succ]
          refine wpAnyH_take (i := 8) (oi := ?dqr2q8) (v := ?dvr2q8) ?hir2q8 (by kernel_rfl) (by kernel_rfl) (by kernel_rfl) ?hQr2q8 (Or.inl ⟨?hwr2q8, ?hyr2q8⟩) hS ?hrr2q8
          case hir2q8 => simp only [List.getElem?_toArray, List.getElem?_cons_succ, List.getElem?_cons_zero]; rfl
          case hQr2q8 => exact fun _ _ _ h => h
          case hwr2q8 => rfl
          case hyr2q8 => (intro w hSw; (try dsimp only at hSw); go_simp; (try with_reducible rfl))
          simp only [Act.put, List.setIfInBounds_toArray, List.set_cons_zero, List.set_cons_succ]
          refine wpAnyH_take (i := 9) (oi := ?dqr2q9) (v := ?dvr2q9) ?hir2q9 (by kernel_rfl) (by kernel_rfl) (by kernel_rfl) ?hQr2q9 (Or.inl ⟨?hwr2q9, ?hyr2q9⟩) hS ?hrr2q9
          case hir2q9 => simp only [List.getElem?_toArray, List.getElem?_cons_succ, List.getElem?_cons_zero]; rfl
          case hQr2q9 => exact fun _ _ _ h => h
          case hwr2q9 => rfl
          case hyr2q9 => (intro w hSw; (try dsimp only at hSw); go_simp; (try with_reducible rfl))
          simp only [Act.put, List.setIfInBounds_toArray, List.set_cons_zero, List.set_cons_succ]
          refine wpAnyH_take (i := 11) (oi := ?dqr2q11) (v := ?dvr2q11) ?hir2q11 (by kernel_rfl) (by kernel_rfl) (by kernel_rfl) ?hQr2q11 (Or.inl ⟨?hwr2q11, ?hyr2q11⟩) hS ?hrr2q11
          case hir2q11 => simp only [List.getElem?_toArray, List.getElem?_cons_succ, List.getElem?_cons_zero]; rfl
          case hQr2q11 => exact fun _ _ _ h => h
          case hwr2q11 => rfl
          case hyr2q11 => (intro w hSw; (try dsimp only at hSw); go_simp; (try with_reducible rfl))
          simp only [Act.put, List.setIfInBounds_toArray, List.set_cons_zero, List.set_cons_succ]
          refine wpAnyH_take (i := 12) (oi := ?dqr2q12) (v := ?dvr2q12) ?hir2q12 (by kernel_rfl) (by kernel_rfl) (by kernel_rfl) ?hQr2q12 (Or.inl ⟨?hwr2q12, ?hyr2q12⟩) hS ?hrr2q12
          case hir2q12 => simp only [List.getElem?_toArray, List.getElem?_cons_succ, List.getElem?_cons_zero]; rfl
          case hQr2q12 => exact fun _ _ _ h => h
          case hwr2q12 => rfl
          case hyr2q12 => (intro w hSw; (try dsimp only at hSw); go_simp; (try with_reducible rfl))
          simp only [Act.put, List.setIfInBounds_toArray, List.set_cons_zero, List.set_cons_succ]
          refine wpAnyH_take (i := 13) (oi := ?dqr2q13) (v := ?dvr2q13) ?hir2q13 (by kernel_rfl) (by kernel_rfl) (by kernel_rfl) ?hQr2q13 (Or.inl ⟨?hwr2q13, ?hyr2q13⟩) hS ?hrr2q13
          case hir2q13 => simp only [List.getElem?_toArray, List.getElem?_cons_succ, List.getElem?_cons_zero]; rfl
          case hQr2q13 => exact fun _ _ _ h => h
          case hwr2q13 => rfl
          case hyr2q13 => (intro w hSw; (try dsimp only at hSw); go_simp; (try with_reducible rfl))
          simp only [Act.put, List.setIfInBounds_toArray, List.set_cons_zero, List.set_cons_succ]
          refine wpAnyH_take (i := 14) (oi := ?dqr2q14) (v := ?dvr2q14) ?hir2q14 (by kernel_rfl) (by kernel_rfl) (by kernel_rfl) ?hQr2q14 (Or.inl ⟨?hwr2q14, ?hyr2q14⟩) hS ?hrr2q14
          case hir2q14 => simp only [List.getElem?_toArray, List.getElem?_cons_succ, List.getElem?_cons_zero]; rfl
          case hQr2q14 => exact fun _ _ _ h => h
          case hwr2q14 => rfl
          case hyr2q14 => (intro w hSw; (try dsimp only at hSw); go_simp; (try with_reducible rfl))
          simp only [Act.put, List.setIfInBounds_toArray, List.set_cons_zero, List.set_cons_succ]
          refine wpAnyH_take (i := 15) (oi := ?dqr2q15) (v := ?dvr2q15) ?hir2q15 (by kernel_rfl) (by kernel_rfl) (by kernel_rfl) ?hQr2q15 (Or.inl ⟨?hwr2q15, ?hyr2q15⟩) hS ?hrr2q15
          case hir2q15 => simp only [List.getElem?_toArray, List.getElem?_cons_succ, List.getElem?_cons_zero]; rfl
          case hQr2q15 => exact fun _ _ _ h => h
          case hwr2q15 => rfl
          case hyr2q15 => (intro w hSw; (try dsimp only at hSw); go_simp; (try with_reducible rfl))
          simp only [Act.put, List.setIfInBounds_toArray, List.set_cons_zero, List.set_cons_succ]
          refine wpAnyH_ready (rs := [10]) (by kernel_rfl) (by simp) ?_
          refine AllReadyH.cons (o := ?dqr2q10) ?hir2q10 (fun K hK => ?_) AllReadyH.nil
          case hir2q10 => simp only [List.getElem?_toArray, List.getElem?_cons_succ, List.getElem?_cons_zero]; rfl
          go_simp
          go_at_call 11
          refine (cL1.out _ hS.2).mono ?_
          rintro e w' ⟨rfl, hb⟩
          have hS2 := held_next (w := w8) hS hb
          clear hS
          refine hK.out _ _ hS2 (fun hS => ?_)
          clear hS2 hK K
          try simp only [Act.put, List.setIfInBounds_toArray, List.set_cons_zero, List.set_cons_succ]
          refine wpAnyH_take (i := 16) (oi := ?dqr2q16) (v := ?dvr2q16) ?hir2q16 (by kernel_rfl) (by kernel_rfl) (by kernel_rfl) ?hQr2q16 (Or.inl ⟨?hwr2q16, ?hyr2q16⟩) hS ?hrr2q16
          case hir2q16 => simp only [List.getElem?_toArray, List.getElem?_cons_succ, List.getElem?_cons_zero]; rfl
          case hQr2q16 => exact fun _ _ _ h => h
          case hwr2q16 => rfl
          case hyr2q16 => (intro w hSw; (try dsimp only at hSw); go_simp; (try with_reducible rfl))
          simp only [Act.put, List.setIfInBounds_toArray, List.set_cons_zero, List.set_cons_succ]
          refine wpAnyH_take (i := 17) (oi := ?dqr2q17) (v := ?dvr2q17) ?hir2q17 (by kernel_rfl) (by kernel_rfl) (by kernel_rfl) ?hQr2q17 (Or.inl ⟨?hwr2q17, ?hyr2q17⟩) hS ?hrr2q17
          case hir2q17 => simp only [List.getElem?_toArray, List.getElem?_cons_succ, List.getElem?_cons_zero]; rfl
          case hQr2q17 => exact fun _ _ _ h => h
          case hwr2q17 => rfl
          case hyr2q17 => (intro w hSw; (try dsimp only at hSw); go_simp; (try with_reducible rfl))
          simp only [Act.put, List.setIfInBounds_toArray, List.set_cons_zero, List.set_cons_succ]
          refine wpAnyH_take (i := 18) (oi := ?dqr2q18) (v := ?dvr2q18) ?hir2q18 (by kernel_rfl) (by kernel_rfl) (by kernel_rfl) ?hQr2q18 (Or.inl ⟨?hwr2q18, ?hyr2q18⟩) hS ?hrr2q18
          case hir2q18 => simp only [List.getElem?_toArray, List.getElem?_cons_succ, List.getElem?_cons_zero]; rfl
          case hQr2q18 => exact fun _ _ _ h => h
          case hwr2q18 => rfl
          case hyr2q18 => (intro w hSw; (try dsimp only at hSw); go_simp; (try with_reducible rfl))
          simp only [Act.put, List.setIfInBounds_toArray, List.set_cons_zero, List.set_cons_succ]
          refine wpAnyH_take (i := 19) (oi := ?dqr2q19) (v := ?dvr2q19) ?hir2q19 (by kernel_rfl) (by kernel_rfl) (by kernel_rfl) ?hQr2q19 (Or.inl ⟨?hwr2q19, ?hyr2q19⟩) hS ?hrr2q19
          case hir2q19 => simp only [List.getElem?_toArray, List.getElem?_cons_succ, List.getElem?_cons_zero]; rfl
          case hQr2q19 => exact fun _ _ _ h => h
          case hwr2q19 => rfl
          case hyr2q19 => (intro w hSw; (try dsimp only at hSw); go_simp; (try with_reducible rfl))
          simp only [Act.put, List.setIfInBounds_toArray, List.set_cons_zero, List.set_cons_succ]
          refine wpAnyH_take (i := 21) (oi := ?dqr2q21) (v := ?dvr2q21) ?hir2q21 (by kernel_rfl) (by kernel_rfl) (by kernel_rfl) ?hQr2q21 (Or.inl ⟨?hwr2q21, ?hyr2q21⟩) hS ?hrr2q21
          case hir2q21 => simp only [List.getElem?_toArray, List.getElem?_cons_succ, List.getElem?_cons_zero]; rfl
          case hQr2q21 => exact fun _ _ _ h => h
          case hwr2q21 => rfl
          case hyr2q21 => (intro w hSw; (try dsimp only at hSw); go_simp; (try with_reducible rfl))
          simp only [Act.put, List.setIfInBounds_toArray, List.set_cons_zero, List.set_cons_succ]
          refine wpAnyH_take (i := 22) (oi := ?dqr2q22) (v := ?dvr2q22) ?hir2q22 (by kernel_rfl) (by kernel_rfl) (by kernel_rfl) ?hQr2q22 (Or.inl ⟨?hwr2q22, ?hyr2q22⟩) hS ?hrr2q22
          case hir2q22 => simp only [List.getElem?_toArray, List.getElem?_cons_succ, List.getElem?_cons_zero]; rfl
          case hQr2q22 => exact fun _ _ _ h => h
          case hwr2q22 => rfl
          case hyr2q22 => (intro w hSw; (try dsimp only at hSw); go_simp; (try with_reducible rfl))
          simp only [Act.put, List.setIfInBounds_toArray, List.set_cons_zero, List.set_cons_succ]
          refine wpAnyH_take (i := 23) (oi := ?dqr2q23) (v := ?dvr2q23) ?hir2q23 (by kernel_rfl) (by kernel_rfl) (by kernel_rfl) ?hQr2q23 (Or.inl ⟨?hwr2q23, ?hyr2q23⟩) hS ?hrr2q23
          case hir2q23 => simp only [List.getElem?_toArray, List.getElem?_cons_succ, List.getElem?_cons_zero]; rfl
          case hQr2q23 => exact fun _ _ _ h => h
          case hwr2q23 => rfl
          case hyr2q23 => (intro w hSw; (try dsimp only at hSw); go_simp; (try with_reducible rfl))
          simp only [Act.put, List.setIfInBounds_toArray, List.set_cons_zero, List.set_cons_succ]
          refine wpAnyH_take (i := 24) (oi := ?dqr2q24) (v := ?dvr2q24) ?hir2q24 (by kernel_rfl) (by kernel_rfl) (by kernel_rfl) ?hQr2q24 (Or.inl ⟨?hwr2q24, ?hyr2q24⟩) hS ?hrr2q24
          case hir2q24 => simp only [List.getElem?_toArray, List.getElem?_cons_succ, List.getElem?_cons_zero]; rfl
          case hQr2q24 => exact fun _ _ _ h => h
          case hwr2q24 => rfl
          case hyr2q24 => (intro w hSw; (try dsimp only at hSw); go_simp; (try with_reducible rfl))
          simp only [Act.put, List.setIfInBounds_toArray, List.set_cons_zero, List.set_cons_succ]
          refine wpAnyH_take (i := 25) (oi := ?dqr2q25) (v := ?dvr2q25) ?hir2q25 (by kernel_rfl) (by kernel_rfl) (by kernel_rfl) ?hQr2q25 (Or.inl ⟨?hwr2q25, ?hyr2q25⟩) hS ?hrr2q25
          case hir2q25 => simp only [List.getElem?_toArray, List.getElem?_cons_succ, List.getElem?_cons_zero]; rfl
          case hQr2q25 => exact fun _ _ _ h => h
          case hwr2q25 => rfl
          case hyr2q25 => (intro w hSw; (try dsimp only at hSw); go_simp; (try with_reducible rfl))
          simp only [Act.put, List.setIfInBounds_toArray, List.set_cons_zero, List.set_cons_succ]
          refine wpAnyH_ready (rs := [20]) (by kernel_rfl) (by simp) ?_
          refine AllReadyH.cons (o := ?dqr2q20) ?hir2q20 (fun K hK => ?_) AllReadyH.nil
          case hir2q20 => simp only [List.getElem?_toArray, List.getElem?_cons_succ, List.getElem?_cons_zero]; rfl
          go_simp
          go_at_call 11
          refine (cL2.out _ hS.2).mono ?_
          rintro e w' ⟨rfl, hb⟩
          have hS2 := held_next (w := w8) hS hb
          clear hS
          refine hK.out _ _ hS2 (fun hS => ?_)
          clear hS2 hK K
          try simp only [Act.put, List.setIfInBounds_toArray, List.set_cons_zero, List.set_cons_succ]
          refine wpAnyH_take (i := 26) (oi := ?dqr2q26) (v := ?dvr2q26) ?hir2q26 (by kernel_rfl) (by kernel_rfl) (by kernel_rfl) ?hQr2q26 (Or.inl ⟨?hwr2q26, ?hyr2q26⟩) hS ?hrr2q26
          case hir2q26 => simp only [List.getElem?_toArray, List.getElem?_cons_succ, List.getElem?_cons_zero]; rfl
          case hQr2q26 => exact fun _ _ _ h => h
          case hwr2q26 => rfl
          case hyr2q26 => (intro w hSw; (try dsimp only at hSw); go_simp; (try with_reducible rfl))
          simp only [Act.put, List.setIfInBounds_toArray, List.set_cons_zero, List.set_cons_succ]
          refine wpAnyH_take (i := 27) (oi := ?dqr2q27) (v := ?dvr2q27) ?hir2q27 (by kernel_rfl) (by kernel_rfl) (by kernel_rfl) ?hQr2q27 (Or.inl ⟨?hwr2q27, ?hyr2q27⟩) hS ?hrr2q27
          case hir2q27 => simp only [List.getElem?_toArray, List.getElem?_cons_succ, List.getElem?_cons_zero]; rfl
          case hQr2q27 => exact fun _ _ _ h => h
          case hwr2q27 => rfl
          case hyr2q27 => (intro w hSw; (try dsimp only at hSw); go_simp; (try with_reducible rfl))
          simp only [Act.put, List.setIfInBounds_toArray, List.set_cons_zero, List.set_cons_succ]
          refine wpAnyH_take (i := 28) (oi := ?dqr2q28) (v := ?dvr2q28) ?hir2q28 (by kernel_rfl) (by kernel_rfl) (by kernel_rfl) ?hQr2q28 (Or.inl ⟨?hwr2q28, ?hyr2q28⟩) hS ?hrr2q28
          case hir2q28 => simp only [List.getElem?_toArray, List.getElem?_cons_succ, List.getElem?_cons_zero]; rfl
          case hQr2q28 => exact fun _ _ _ h => h
          case hwr2q28 => rfl
          case hyr2q28 => (intro w hSw; (try dsimp only at hSw); go_simp; (try with_reducible rfl))
          simp only [Act.put, List.setIfInBounds_toArray, List.set_cons_zero, List.set_cons_succ]
          refine wpAnyH_take (i := 29) (oi := ?dqr2q29) (v := ?dvr2q29) ?hir2q29 (by kernel_rfl) (by kernel_rfl) (by kernel_rfl) ?hQr2q29 (Or.inl ⟨?hwr2q29, ?hyr2q29⟩) hS ?hrr2q29
          case hir2q29 => simp only [List.getElem?_toArray, List.getElem?_cons_succ, List.getElem?_cons_zero]; rfl
          case hQr2q29 => exact fun _ _ _ h => h
          case hwr2q29 => rfl
          case hyr2q29 => (intro w hSw; (try dsimp only at hSw); go_simp; (try with_reducible rfl))
          simp only [Act.put, List.setIfInBounds_toArray, List.set_cons_zero, List.set_cons_succ]
          refine wpAnyH_take (i := 30) (oi := ?dqr2q30) (v := ?dvr2q30) ?hir2q30 (by kernel_rfl) (by kernel_rfl) (by kernel_rfl) ?hQr2q30 (Or.inl ⟨?hwr2q30, ?hyr2q30⟩) hS ?hrr2q30
          case hir2q30 => simp only [List.getElem?_toArray, List.getElem?_cons_succ, List.getElem?_cons_zero]; rfl
          case hQr2q30 => exact fun _ _ _ h => h
          case hwr2q30 => rfl
          case hyr2q30 => (intro w hSw; (try dsimp only at hSw); go_simp; (try with_reducible rfl))
          simp only [Act.put, List.setIfInBounds_toArray, List.set_cons_zero, List.set_cons_succ]
          refine wpAnyH_ready (rs := [31]) (by kernel_rfl) (by simp) ?_
          refine AllReadyH.cons (o := ?dqr2q31) ?hir2q31 (fun K hK => ?_) AllReadyH.nil
          case hir2q31 => simp only [List.getElem?_toArray, List.getElem?_cons_succ, List.getElem?_cons_zero]; rfl
          go_simp
          go_at_call 15
          refine (cN.out _ hS.2).mono ?_
          rintro e w' ⟨rfl, hb⟩
          have hS2 := held_next (w := w8) hS hb
          clear hS
          refine hK.out _ _ hS2 (fun hS => ?_)
          clear hS2 hK K
          try simp only [Act.put, List.setIfInBounds_toArray, List.set_cons_zero, List.set_cons_succ]
          refine wpAnyH_take (i := 32) (oi := ?dqr2q32) (v := ?dvr2q32) ?hir2q32 (by kernel_rfl) (by kernel_rfl) (by kernel_rfl) ?hQr2q32 (Or.inl ⟨?hwr2q32, ?hyr2q32⟩) hS ?hrr2q32
          case hir2q32 => simp only [List.getElem?_toArray, List.getElem?_cons_succ, List.getElem?_cons_zero]; rfl
          case hQr2q32 => exact fun _ _ _ h => h
          case hwr2q32 => rfl
          case hyr2q32 => (intro w hSw; (try dsimp only at hSw); go_simp; (try with_reducible rfl))
          simp only [Act.put, List.setIfInBounds_toArray, List.set_cons_zero, List.set_cons_succ]
          refine wpAnyH_take (i := 33) (oi := ?dqr2q33) (v := ?dvr2q33) ?hir2q33 (by kernel_rfl) (by kernel_rfl) (by kernel_rfl) ?hQr2q33 (Or.inl ⟨?hwr2q33, ?hyr2q33⟩) hS ?hrr2q33
          case hir2q33 => simp only [List.getElem?_toArray, List.getElem?_cons_succ, List.getElem?_cons_zero]; rfl
          case hQr2q33 => exact fun _ _ _ h => h
          case hwr2q33 => rfl
          case hyr2q33 => (intro w hSw; (try dsimp only at hSw); go_simp; (try with_reducible rfl))
          simp only [Act.put, List.setIfInBounds_toArray, List.set_cons_zero, List.set_cons_succ]
          refine wpAnyH_ready (rs := [34]) (by kernel_rfl) (by simp) ?_
          refine AllReadyH.cons (o := ?dqr2q34) ?hir2q34 (fun K hK => ?_) AllReadyH.nil
          case hir2q34 => simp only [List.getElem?_toArray, List.getElem?_cons_succ, List.getElem?_cons_zero]; rfl
          go_simp
          go_at_call 5
          refine (cA.out _ hS.2).mono ?_
          rintro e w' ⟨rfl, hb⟩
          have hS2 := held_next (w := w8) hS hb
          clear hS
          refine hK.out _ _ hS2 (fun hS => ?_)
          clear hS2 hK K
          try simp only [Act.put, List.setIfInBounds_toArray, List.set_cons_zero, List.set_cons_succ]
          refine wpAnyH_take (i := 35) (oi := ?dqr2q35) (v := ?dvr2q35) ?hir2q35 (by kernel_rfl) (by kernel_rfl) (by kernel_rfl) ?hQr2q35 (Or.inl ⟨?hwr2q35, ?hyr2q35⟩) hS ?hrr2q35
          case hir2q35 => simp only [List.getElem?_toArray, List.getElem?_cons_succ, List.getElem?_cons_zero]; rfl
          case hQr2q35 => exact fun _ _ _ h => h
          case hwr2q35 => rfl
          case hyr2q35 => (intro w hSw; (try dsimp only at hSw); go_simp; (try with_reducible rfl))
          simp only [Act.put, List.setIfInBounds_toArray, List.set_cons_zero, List.set_cons_succ]
          refine wpAnyH_take (i := 36) (oi := ?dqr2q36) (v := ?dvr2q36) ?hir2q36 (by kernel_rfl) (by kernel_rfl) (by kernel_rfl) ?hQr2q36 (Or.inl ⟨?hwr2q36, ?hyr2q36⟩) hS ?hrr2q36
          case hir2q36 => simp only [List.getElem?_toArray, List.getElem?_cons_succ, List.getElem?_cons_zero]; rfl
          case hQr2q36 => exact fun _ _ _ h => h
          case hwr2q36 => rfl
          case hyr2q36 => (intro w hSw; (try dsimp only at hSw); go_simp; (try with_reducible rfl))
          simp only [Act.put, List.setIfInBounds_toArray, List.set_cons_zero, List.set_cons_succ]
          refine wpAnyH_done (by kernel_rfl) ?_ _
          have b9 := Lib.hid (b8.out.trans (hS.2.mono b8.out.size))
          clear hS
          go_wp2
          go_ret
          exact ⟨rfl, b9.out⟩
end Go.Proofs.YtmjlabnjgdiakaaDoor
