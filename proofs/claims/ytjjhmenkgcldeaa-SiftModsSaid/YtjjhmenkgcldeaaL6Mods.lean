/- The statement SiftMods of layer 6, walked. -/
import Derived.Test.YtjjhmenkgcldeaaL6Alive
namespace Go.Proofs.Ytjjhmenkgcldeaa
open Go.RowKit Go.Shelf Go.Proofs.Rowm Go.Proofs.Siftm

theorem s4m_next {w x y : World} {a b c d : Addr} {u1 u2 u3 u4 : Value} (h : x.cell? a = some u1 ∧ x.cell? b = some u2 ∧ x.cell? c = some u3 ∧ x.cell? d = some u4 ∧ Below w.heap.size w x) (hb : Below x.heap.size x y) :
    y.cell? a = some u1 ∧ y.cell? b = some u2 ∧ y.cell? c = some u3 ∧ y.cell? d = some u4 ∧ Below w.heap.size w y :=
  ⟨keep_cell hb h.1, keep_cell hb h.2.1, keep_cell hb h.2.2.1, keep_cell hb h.2.2.2.1, Below.after h.2.2.2.2 hb⟩
theorem small_int (b : Int) (h1 : -1000 ≤ b) (h2 : b ≤ 1000) : ∃ bb : BitVec 64, bb.toInt = b :=
  ⟨BitVec.ofInt 64 b, by rw [BitVec.toInt_ofInt]; exact Int.bmod_eq_of_le (by omega) (by omega)⟩
/-- how many were taken ahead of b -/
def cnt (r b : Int) : Int := if r < b then 1 else 0
theorem cnt_next {r b : Int} (h : r ≠ b) : cnt r (b + 1) = cnt r b := by
  unfold cnt
  by_cases h1 : r < b
  · rw [if_pos h1, if_pos (by omega)]
  · rw [if_neg h1, if_neg (by omega)]
theorem cnt_at {r b : Int} (h : r = b) : cnt r b = 0 := by unfold cnt; rw [if_neg (by omega)]
theorem cnt_behind {r b : Int} (h : r = b) : cnt r (b + 1) = 1 := by unfold cnt; rw [if_pos (by omega)]
theorem cnt_low {r b : Int} (h : b ≤ r) : cnt r b = 0 := by unfold cnt; rw [if_neg (by omega)]
theorem cnt_high {r b : Int} (h : r < b) : cnt r b = 1 := by unfold cnt; rw [if_pos h]
theorem mod_off {nb bb : BitVec 64} (h : may (modP nb bb) = false) (x : Pr) : takes (modP nb bb) x = false := takes_not h x

set_option maxHeartbeats 16000000 in
theorem mods6_any (a : Nat) (ha : a ≤ 255) (key : BitVec 64) (w : World) : Calls Try.prog 5 #[.int .u8 a, K key] w fun e w' => e = .returned (.bool true) ∧ Below w.heap.size w w' := by
  obtain ⟨N, hN⟩ : ∃ N : Nat, a % 64 + 1 = N := ⟨_, rfl⟩
  have hN1 : 1 ≤ N := by omega
  have hN2 : N ≤ 64 := by omega
  have hNa : (a : Int) % 64 + 1 = (N : Int) := by omega
  clear hN
  obtain ⟨nb, enb⟩ := small_int (N : Int) (by omega) (by omega)
  have hpos : 0 < nb.toInt := by rw [enb]; omega
  obtain ⟨r, hr⟩ : ∃ r, key.toInt % (N : Int) = r := ⟨_, rfl⟩
  have r0 : 0 ≤ r := by rw [← hr]; exact Int.emod_nonneg _ (by omega)
  have rN : r < (N : Int) := by rw [← hr]; exact Int.emod_lt_of_pos _ (by omega)
  have hk := BitVec.two_mul_toInt_lt (x := key)
  have hk' := BitVec.le_two_mul_toInt (x := key)
  have hr' := Lib.hid hr
  have enb' := Lib.hid enb
  have prK := Lib.hid (fun W => pair6_any key W)
  clear hr enb
  go_enter Try.func5, Try.ntmps5
  go_wp2
  go_loopw [6, 7] (fun t i wr => ∃ b : Int, -1 ≤ b ∧ b ≤ N + 1 ∧ i = .int .i64 b ∧ t = .int .i64 (cnt r b) ∧ Below w.heap.size w wr) (fun _ i _ => ((N : Int) + 1 - intOf i).toNat)
  case atStart => exact ⟨-1, by omega, by omega, rfl, by rw [cnt_low (by omega)], Below.refl _ _⟩
  case round =>
    obtain ⟨b, hb1, hb2, rfl, rfl, hbel⟩ := hrel
    have bw := Lib.hid hbel
    clear hbel
    by_cases hlt : b ≤ N
    · obtain ⟨bb, ebb⟩ := small_int b (by omega) (by omega)
      have ebb' := Lib.hid ebb
      have hv : Hid (pdV (modP nb bb) = pdL 4 N b false) := by show pdV (modP nb bb) = pdL 4 N b false; simp [modP, enb'.out, ebb]
      have hmay : may (modP nb bb) = (decide (0 ≤ b) && decide (b < (N : Int))) := by rw [may_mod, enb'.out, ebb]
      have htak : ∀ x : Pr, takes (modP nb bb) x = decide (x.1.toInt % (N : Int) = b) := fun x => by rw [takes_mod _ _ _ hpos, enb'.out, ebb]
      have htk : takes (modP nb bb) (key, 0#64) = decide (r = b) := by rw [htak]; exact congrArg (fun z : Int => decide (z = b)) hr'.out
      have hmay' := Lib.hid hmay
      have htk' := Lib.hid htk
      have htak' := Lib.hid htak
      have bx := Lib.hid (Has.new wr 23 #[.int .u8 4, .int .i64 (N : Int), .int .i64 b, .bool false])
      have b0 := Lib.hid ((Below.refl wr.heap.size wr).alloc (Nat.le_refl _) (.cells #[.int .u8 4, .int .i64 (N : Int), .int .i64 b, .bool false] 23))
      clear hmay htk htak ebb
      by_cases hneg : b < 0
      · have c1 : decide (0 ≤ b) = false := decide_eq_false (by omega)
        have hne : r ≠ b := by omega
        have mayC := Lib.hid (fun W => may_l (p := modP nb bb) (t := false) (by rw [hmay'.out]; rw [c1]; rfl) hv.out W)
        have takC := Lib.hid (fun W => takes_l (p := modP nb bb) (x := (key, 0#64)) (t := false) (by exact mod_off (by rw [hmay'.out, c1]; rfl) _) hv.out rfl W)
        go_wp2_with fail
        refine (mayC.out _).mono ?_
        rintro e w1 ⟨rfl, hb⟩
        have g1 := bx.out.next hb
        have q0 : w1.cell? ⟨wr.heap.size, 0, none⟩ = some (.int .u8 4) := g1.cell 0
        have q1 : w1.cell? ⟨wr.heap.size, 1, none⟩ = some (.int .i64 (N : Int)) := g1.cell 1
        have q2 : w1.cell? ⟨wr.heap.size, 2, none⟩ = some (.int .i64 b) := g1.cell 2
        have q3 : w1.cell? ⟨wr.heap.size, 3, none⟩ = some (.bool false) := g1.cell 3
        have b1 := Lib.hid (Below.after b0.out hb)
        clear hb g1
        go_wp2_with fail
        go_region_held3 (fun w' => w'.cell? ⟨wr.heap.size, 0, none⟩ = some (.int .u8 4) ∧ w'.cell? ⟨wr.heap.size, 1, none⟩ = some (.int .i64 (N : Int)) ∧ w'.cell? ⟨wr.heap.size, 2, none⟩ = some (.int .i64 b) ∧ w'.cell? ⟨wr.heap.size, 3, none⟩ = some (.bool false) ∧ Below wr.heap.size wr w')
          (first | exact ⟨q0, q1, q2, q3, b1.out.drew⟩ | assumption)
          (first | (go_at_call 17; (with_reducible refine (prK.out _).mono ?_); rintro e w' ⟨rfl, hb⟩; have hS' := s4m_next (w := wr) (by assumption) hb; clear hb) | (go_at_call 12; (with_reducible refine (takC.out _).mono ?_); rintro e w' ⟨rfl, hb⟩; have hS' := s4m_next (w := wr) (by assumption) hb; clear hb))
        clear q0 q1 q2 q3
        obtain ⟨q0, q1, q2, q3, hb⟩ := hS'
        obtain ⟨W2, hW2⟩ : ∃ W, w' = W := ⟨_, rfl⟩
        rw [hW2] at q0 q1 q2 q3 hb ⊢
        clear hW2
        have b2 := Lib.hid hb
        clear hb
        go_wp2
        go_roundw
        case rel => exact ⟨b + 1, by omega, by omega, by first | rfl | go_num, by rw [cnt_next hne], bw.out.trans (b2.out.mono bw.out.size)⟩
        case measure => simp [intOf]; omega
      · have c1 : decide (0 ≤ b) = true := decide_eq_true (by omega)
        by_cases hbig : (N : Int) ≤ b
        · have c2 : decide (b < (N : Int)) = false := decide_eq_false (by omega)
          have hne : r ≠ b := by omega
          have mayC := Lib.hid (fun W => may_l (p := modP nb bb) (t := false) (by rw [hmay'.out]; rw [c1, c2]; rfl) hv.out W)
          have takC := Lib.hid (fun W => takes_l (p := modP nb bb) (x := (key, 0#64)) (t := false) (by exact mod_off (by rw [hmay'.out, c1, c2]; rfl) _) hv.out rfl W)
          go_wp2_with fail
          refine (mayC.out _).mono ?_
          rintro e w1 ⟨rfl, hb⟩
          have g1 := bx.out.next hb
          have q0 : w1.cell? ⟨wr.heap.size, 0, none⟩ = some (.int .u8 4) := g1.cell 0
          have q1 : w1.cell? ⟨wr.heap.size, 1, none⟩ = some (.int .i64 (N : Int)) := g1.cell 1
          have q2 : w1.cell? ⟨wr.heap.size, 2, none⟩ = some (.int .i64 b) := g1.cell 2
          have q3 : w1.cell? ⟨wr.heap.size, 3, none⟩ = some (.bool false) := g1.cell 3
          have b1 := Lib.hid (Below.after b0.out hb)
          clear hb g1
          go_wp2_with fail
          go_region_held3 (fun w' => w'.cell? ⟨wr.heap.size, 0, none⟩ = some (.int .u8 4) ∧ w'.cell? ⟨wr.heap.size, 1, none⟩ = some (.int .i64 (N : Int)) ∧ w'.cell? ⟨wr.heap.size, 2, none⟩ = some (.int .i64 b) ∧ w'.cell? ⟨wr.heap.size, 3, none⟩ = some (.bool false) ∧ Below wr.heap.size wr w')
            (first | exact ⟨q0, q1, q2, q3, b1.out.drew⟩ | assumption)
            (first | (go_at_call 17; (with_reducible refine (prK.out _).mono ?_); rintro e w' ⟨rfl, hb⟩; have hS' := s4m_next (w := wr) (by assumption) hb; clear hb) | (go_at_call 12; (with_reducible refine (takC.out _).mono ?_); rintro e w' ⟨rfl, hb⟩; have hS' := s4m_next (w := wr) (by assumption) hb; clear hb))
          clear q0 q1 q2 q3
          obtain ⟨q0, q1, q2, q3, hb⟩ := hS'
          obtain ⟨W2, hW2⟩ : ∃ W, w' = W := ⟨_, rfl⟩
          rw [hW2] at q0 q1 q2 q3 hb ⊢
          clear hW2
          have b2 := Lib.hid hb
          clear hb
          go_wp2
          go_roundw
          case rel => exact ⟨b + 1, by omega, by omega, by first | rfl | go_num, by rw [cnt_next hne], bw.out.trans (b2.out.mono bw.out.size)⟩
          case measure => simp [intOf]; omega
        · have c2 : decide (b < (N : Int)) = true := decide_eq_true (by omega)
          by_cases hne : r ≠ b
          · have mayC := Lib.hid (fun W => may_l (p := modP nb bb) (t := true) (by rw [hmay'.out]; rw [c1, c2]; rfl) hv.out W)
            have takC := Lib.hid (fun W => takes_l (p := modP nb bb) (x := (key, 0#64)) (t := false) (by rw [htk'.out]; exact decide_eq_false hne) hv.out rfl W)
            go_wp2_with fail
            refine (mayC.out _).mono ?_
            rintro e w1 ⟨rfl, hb⟩
            have g1 := bx.out.next hb
            have q0 : w1.cell? ⟨wr.heap.size, 0, none⟩ = some (.int .u8 4) := g1.cell 0
            have q1 : w1.cell? ⟨wr.heap.size, 1, none⟩ = some (.int .i64 (N : Int)) := g1.cell 1
            have q2 : w1.cell? ⟨wr.heap.size, 2, none⟩ = some (.int .i64 b) := g1.cell 2
            have q3 : w1.cell? ⟨wr.heap.size, 3, none⟩ = some (.bool false) := g1.cell 3
            have b1 := Lib.hid (Below.after b0.out hb)
            clear hb g1
            go_wp2_with fail
            go_region_held3 (fun w' => w'.cell? ⟨wr.heap.size, 0, none⟩ = some (.int .u8 4) ∧ w'.cell? ⟨wr.heap.size, 1, none⟩ = some (.int .i64 (N : Int)) ∧ w'.cell? ⟨wr.heap.size, 2, none⟩ = some (.int .i64 b) ∧ w'.cell? ⟨wr.heap.size, 3, none⟩ = some (.bool false) ∧ Below wr.heap.size wr w')
              (first | exact ⟨q0, q1, q2, q3, b1.out.drew⟩ | assumption)
              (first | (go_at_call 17; (with_reducible refine (prK.out _).mono ?_); rintro e w' ⟨rfl, hb⟩; have hS' := s4m_next (w := wr) (by assumption) hb; clear hb) | (go_at_call 12; (with_reducible refine (takC.out _).mono ?_); rintro e w' ⟨rfl, hb⟩; have hS' := s4m_next (w := wr) (by assumption) hb; clear hb))
            clear q0 q1 q2 q3
            obtain ⟨q0, q1, q2, q3, hb⟩ := hS'
            obtain ⟨W2, hW2⟩ : ∃ W, w' = W := ⟨_, rfl⟩
            rw [hW2] at q0 q1 q2 q3 hb ⊢
            clear hW2
            have b2 := Lib.hid hb
            clear hb
            go_wp2
            go_roundw
            case rel => exact ⟨b + 1, by omega, by omega, by first | rfl | go_num, by rw [cnt_next hne], bw.out.trans (b2.out.mono bw.out.size)⟩
            case measure => simp [intOf]; omega
          · have heq : r = b := by omega
            have hc0 := cnt_at heq
            rw [hc0]
            have mayC := Lib.hid (fun W => may_l (p := modP nb bb) (t := true) (by rw [hmay'.out]; rw [c1, c2]; rfl) hv.out W)
            have takC := Lib.hid (fun W => takes_l (p := modP nb bb) (x := (key, 0#64)) (t := true) (by rw [htk'.out]; exact decide_eq_true heq) hv.out rfl W)
            go_wp2_with fail
            refine (mayC.out _).mono ?_
            rintro e w1 ⟨rfl, hb⟩
            have g1 := bx.out.next hb
            have q0 : w1.cell? ⟨wr.heap.size, 0, none⟩ = some (.int .u8 4) := g1.cell 0
            have q1 : w1.cell? ⟨wr.heap.size, 1, none⟩ = some (.int .i64 (N : Int)) := g1.cell 1
            have q2 : w1.cell? ⟨wr.heap.size, 2, none⟩ = some (.int .i64 b) := g1.cell 2
            have q3 : w1.cell? ⟨wr.heap.size, 3, none⟩ = some (.bool false) := g1.cell 3
            have b1 := Lib.hid (Below.after b0.out hb)
            clear hb g1
            go_wp2_with fail
            go_region_held3 (fun w' => w'.cell? ⟨wr.heap.size, 0, none⟩ = some (.int .u8 4) ∧ w'.cell? ⟨wr.heap.size, 1, none⟩ = some (.int .i64 (N : Int)) ∧ w'.cell? ⟨wr.heap.size, 2, none⟩ = some (.int .i64 b) ∧ w'.cell? ⟨wr.heap.size, 3, none⟩ = some (.bool false) ∧ Below wr.heap.size wr w')
              (first | exact ⟨q0, q1, q2, q3, b1.out.drew⟩ | assumption)
              (first | (go_at_call 17; (with_reducible refine (prK.out _).mono ?_); rintro e w' ⟨rfl, hb⟩; have hS' := s4m_next (w := wr) (by assumption) hb; clear hb) | (go_at_call 12; (with_reducible refine (takC.out _).mono ?_); rintro e w' ⟨rfl, hb⟩; have hS' := s4m_next (w := wr) (by assumption) hb; clear hb))
            clear q0 q1 q2 q3
            obtain ⟨q0, q1, q2, q3, hb⟩ := hS'
            obtain ⟨W2, hW2⟩ : ∃ W, w' = W := ⟨_, rfl⟩
            rw [hW2] at q0 q1 q2 q3 hb ⊢
            clear hW2
            have b2 := Lib.hid hb
            clear hb
            clear hmay' htk' c1 c2
            have hc1 := Lib.hid (cnt_behind heq)
            have hkb : Hid (key.toInt % (N : Int) = b) := by show key.toInt % (N : Int) = b; rw [hr'.out, heq]
            go_wp2_with fail
            by_cases k0 : 0 ≤ key.toInt
            · by_cases kn : key.toInt < (N : Int)
              · have d0 : decide (0 ≤ key.toInt) = true := decide_eq_true (by omega)
                have d1 : decide (key.toInt < (N : Int)) = true := decide_eq_true (by omega)
                have d2 : (key.toInt != b) = false := by have h1 := hkb.out; rw [Int.emod_eq_of_lt (by omega) (by omega)] at h1; rw [h1]; simp
                have d3 : decide (-4611686018427387904 < key.toInt) = true := decide_eq_true (by omega)
                have d4 : decide (key.toInt < 4611686018427387904) = true := decide_eq_true (by omega)
                have hfit : -9223372036854775808 ≤ key.toInt + (N : Int) ∧ key.toInt + (N : Int) ≤ 9223372036854775807 := by omega
                obtain ⟨k2, ek2⟩ : ∃ k2 : BitVec 64, k2.toInt = key.toInt + (N : Int) := ⟨BitVec.ofInt 64 (key.toInt + (N : Int)), by rw [BitVec.toInt_ofInt]; exact Int.bmod_eq_of_le (by omega) (by omega)⟩
                have htk2 : takes (modP nb bb) (k2, 0#64) = true := by rw [htak'.out]; exact decide_eq_true (by show k2.toInt % (N : Int) = b; rw [ek2, Int.add_emod_right]; exact hkb.out)
                have pr2 := Lib.hid (fun W => pair6_any k2 W)
                have tk2 := Lib.hid (fun W => takes_l (p := modP nb bb) (x := (k2, 0#64)) (t := true) htk2 hv.out rfl W)
                have hw : IntKind.i64.wrap (key.toInt + (N : Int)) = k2.toInt := by rw [IntWalk.i64_in _ hfit, ek2]
                clear hfit ek2 htk2 hk hk'
                refine wp_region_held_drew (S := fun w' => w'.cell? ⟨wr.heap.size, 0, none⟩ = some (.int .u8 4) ∧ w'.cell? ⟨wr.heap.size, 1, none⟩ = some (.int .i64 (N : Int)) ∧ w'.cell? ⟨wr.heap.size, 2, none⟩ = some (.int .i64 b) ∧ w'.cell? ⟨wr.heap.size, 3, none⟩ = some (.bool false) ∧ Below wr.heap.size wr w') (by kernel_rfl) ⟨q0, q1, q2, q3, b2.out.drew⟩ (fun hS => ?_)
                refine wpAnyH_take (i := 0) (oi := ?dqr1q0) (v := ?dvr1q0) ?hir1q0 (by kernel_rfl) (by kernel_rfl) (by kernel_rfl) ?hQr1q0 (Or.inl ⟨?hwr1q0, ?hyr1q0⟩) hS ?hrr1q0
                case hir1q0 => simp only [List.getElem?_toArray, List.getElem?_cons_zero]; rfl
                case hQr1q0 => exact fun _ _ _ h => h
                case hwr1q0 => rfl
                case hyr1q0 => (intro w hSw; (try dsimp only at hSw); go_simp; (try with_reducible rfl))
                simp only [Act.put, List.setIfInBounds_toArray, List.set_cons_zero, List.set_cons_succ]
                refine wpAnyH_take (i := 1) (oi := ?dqr1q1) (v := ?dvr1q1) ?hir1q1 (by kernel_rfl) (by kernel_rfl) (by kernel_rfl) ?hQr1q1 (Or.inl ⟨?hwr1q1, ?hyr1q1⟩) hS ?hrr1q1
                case hir1q1 => simp only [List.getElem?_toArray, List.getElem?_cons_succ, List.getElem?_cons_zero]; rfl
                case hQr1q1 => exact fun _ _ _ h => h
                case hwr1q1 => rfl
                case hyr1q1 => (intro w hSw; (try dsimp only at hSw); go_simp; (try with_reducible rfl))
                simp only [Act.put, List.setIfInBounds_toArray, List.set_cons_zero, List.set_cons_succ]
                refine wpAnyH_take (i := 2) (oi := ?dqr1q2) (v := ?dvr1q2) ?hir1q2 (by kernel_rfl) (by kernel_rfl) (by kernel_rfl) ?hQr1q2 (Or.inl ⟨?hwr1q2, ?hyr1q2⟩) hS ?hrr1q2
                case hir1q2 => simp only [List.getElem?_toArray, List.getElem?_cons_succ, List.getElem?_cons_zero]; rfl
                case hQr1q2 => exact fun _ _ _ h => h
                case hwr1q2 => rfl
                case hyr1q2 => (intro w hSw; (try dsimp only at hSw); go_simp; (try with_reducible rfl))
                simp only [Act.put, List.setIfInBounds_toArray, List.set_cons_zero, List.set_cons_succ]
                refine wpAnyH_take (i := 3) (oi := ?dqr1q3) (v := ?dvr1q3) ?hir1q3 (by kernel_rfl) (by kernel_rfl) (by kernel_rfl) ?hQr1q3 (Or.inl ⟨?hwr1q3, ?hyr1q3⟩) hS ?hrr1q3
                case hir1q3 => simp only [List.getElem?_toArray, List.getElem?_cons_succ, List.getElem?_cons_zero]; rfl
                case hQr1q3 => exact fun _ _ _ h => h
                case hwr1q3 => rfl
                case hyr1q3 => (intro w hSw; (try dsimp only at hSw); go_simp; (try with_reducible rfl))
                simp only [Act.put, List.setIfInBounds_toArray, List.set_cons_zero, List.set_cons_succ]
                refine wpAnyH_take (i := 4) (oi := ?dqr1q4) (v := ?dvr1q4) ?hir1q4 (by kernel_rfl) (by kernel_rfl) (by kernel_rfl) ?hQr1q4 (Or.inl ⟨?hwr1q4, ?hyr1q4⟩) hS ?hrr1q4
                case hir1q4 => simp only [List.getElem?_toArray, List.getElem?_cons_succ, List.getElem?_cons_zero]; rfl
                case hQr1q4 => exact fun _ _ _ h => h
                case hwr1q4 => rfl
                case hyr1q4 => (intro w hSw; (try dsimp only at hSw); go_simp; (try with_reducible rfl))
                simp only [Act.put, List.setIfInBounds_toArray, List.set_cons_zero, List.set_cons_succ]
                refine wpAnyH_take (i := 5) (oi := ?dqr1q5) (v := ?dvr1q5) ?hir1q5 (by kernel_rfl) (by kernel_rfl) (by kernel_rfl) ?hQr1q5 (Or.inl ⟨?hwr1q5, ?hyr1q5⟩) hS ?hrr1q5
                case hir1q5 => simp only [List.getElem?_toArray, List.getElem?_cons_succ, List.getElem?_cons_zero]; rfl
                case hQr1q5 => exact fun _ _ _ h => h
                case hwr1q5 => rfl
                case hyr1q5 => (intro w hSw; (try dsimp only at hSw); go_simp; (try with_reducible rfl))
                simp only [Act.put, List.setIfInBounds_toArray, List.set_cons_zero, List.set_cons_succ]
                refine wpAnyH_take (i := 6) (oi := ?dqr1q6) (v := ?dvr1q6) ?hir1q6 (by kernel_rfl) (by kernel_rfl) (by kernel_rfl) ?hQr1q6 (Or.inl ⟨?hwr1q6, ?hyr1q6⟩) hS ?hrr1q6
                case hir1q6 => simp only [List.getElem?_toArray, List.getElem?_cons_succ, List.getElem?_cons_zero]; rfl
                case hQr1q6 => exact fun _ _ _ h => h
                case hwr1q6 => rfl
                case hyr1q6 => (intro w hSw; (try dsimp only at hSw); go_simp; (try with_reducible rfl))
                simp only [Act.put, List.setIfInBounds_toArray, List.set_cons_zero, List.set_cons_succ]
                refine wpAnyH_take (i := 7) (oi := ?dqr1q7) (v := ?dvr1q7) ?hir1q7 (by kernel_rfl) (by kernel_rfl) (by kernel_rfl) ?hQr1q7 (Or.inl ⟨?hwr1q7, ?hyr1q7⟩) hS ?hrr1q7
                case hir1q7 => simp only [List.getElem?_toArray, List.getElem?_cons_succ, List.getElem?_cons_zero]; rfl
                case hQr1q7 => exact fun _ _ _ h => h
                case hwr1q7 => rfl
                case hyr1q7 => (intro w hSw; (try dsimp only at hSw); go_simp; (try with_reducible rfl))
                simp only [Act.put, List.setIfInBounds_toArray, List.set_cons_zero, List.set_cons_succ]
                refine wpAnyH_take (i := 8) (oi := ?dqr1q8) (v := ?dvr1q8) ?hir1q8 (by kernel_rfl) (by kernel_rfl) (by kernel_rfl) ?hQr1q8 (Or.inl ⟨?hwr1q8, ?hyr1q8⟩) hS ?hrr1q8
                case hir1q8 => simp only [List.getElem?_toArray, List.getElem?_cons_succ, List.getElem?_cons_zero]; rfl
                case hQr1q8 => exact fun _ _ _ h => h
                case hwr1q8 => rfl
                case hyr1q8 => (intro w hSw; (try dsimp only at hSw); go_simp; (try with_reducible rfl))
                simp only [Act.put, List.setIfInBounds_toArray, List.set_cons_zero, List.set_cons_succ]
                refine wpAnyH_take (i := 9) (oi := ?dqr1q9) (v := ?dvr1q9) ?hir1q9 (by kernel_rfl) (by kernel_rfl) (by kernel_rfl) ?hQr1q9 (Or.inl ⟨?hwr1q9, ?hyr1q9⟩) hS ?hrr1q9
                case hir1q9 => simp only [List.getElem?_toArray, List.getElem?_cons_succ, List.getElem?_cons_zero]; rfl
                case hQr1q9 => exact fun _ _ _ h => h
                case hwr1q9 => rfl
                case hyr1q9 => (intro w hSw; (try dsimp only at hSw); go_simp; (try with_reducible rfl))
                simp only [Act.put, List.setIfInBounds_toArray, List.set_cons_zero, List.set_cons_succ]
                refine wpAnyH_take (i := 10) (oi := ?dqr1q10) (v := ?dvr1q10) ?hir1q10 (by kernel_rfl) (by kernel_rfl) (by kernel_rfl) ?hQr1q10 (Or.inl ⟨?hwr1q10, ?hyr1q10⟩) hS ?hrr1q10
                case hir1q10 => simp only [List.getElem?_toArray, List.getElem?_cons_succ, List.getElem?_cons_zero]; rfl
                case hQr1q10 => exact fun _ _ _ h => h
                case hwr1q10 => rfl
                case hyr1q10 => (intro w hSw; (try dsimp only at hSw); go_simp; (try with_reducible rfl))
                simp only [Act.put, List.setIfInBounds_toArray, List.set_cons_zero, List.set_cons_succ]
                refine wpAnyH_take (i := 11) (oi := ?dqr1q11) (v := ?dvr1q11) ?hir1q11 (by kernel_rfl) (by kernel_rfl) (by kernel_rfl) ?hQr1q11 (Or.inl ⟨?hwr1q11, ?hyr1q11⟩) hS ?hrr1q11
                case hir1q11 => simp only [List.getElem?_toArray, List.getElem?_cons_succ, List.getElem?_cons_zero]; rfl
                case hQr1q11 => exact fun _ _ _ h => h
                case hwr1q11 => rfl
                case hyr1q11 => (intro w hSw; (try dsimp only at hSw); go_simp; (try with_reducible rfl))
                simp only [Act.put, List.setIfInBounds_toArray, List.set_cons_zero, List.set_cons_succ]
                refine wpAnyH_take (i := 12) (oi := ?dqr1q12) (v := ?dvr1q12) ?hir1q12 (by kernel_rfl) (by kernel_rfl) (by kernel_rfl) ?hQr1q12 (Or.inl ⟨?hwr1q12, ?hyr1q12⟩) hS ?hrr1q12
                case hir1q12 => simp only [List.getElem?_toArray, List.getElem?_cons_succ, List.getElem?_cons_zero]; rfl
                case hQr1q12 => exact fun _ _ _ h => h
                case hwr1q12 => rfl
                case hyr1q12 => (intro w hSw; (try dsimp only at hSw); go_simp; (try with_reducible rfl))
                simp only [Act.put, List.setIfInBounds_toArray, List.set_cons_zero, List.set_cons_succ]
                refine wpAnyH_take (i := 13) (oi := ?dqr1q13) (v := ?dvr1q13) ?hir1q13 (by kernel_rfl) (by kernel_rfl) (by kernel_rfl) ?hQr1q13 (Or.inl ⟨?hwr1q13, ?hyr1q13⟩) hS ?hrr1q13
                case hir1q13 => simp only [List.getElem?_toArray, List.getElem?_cons_succ, List.getElem?_cons_zero]; rfl
                case hQr1q13 => exact fun _ _ _ h => h
                case hwr1q13 => rfl
                case hyr1q13 => (intro w hSw; (try dsimp only at hSw); go_simp; (try with_reducible rfl))
                simp only [Act.put, List.setIfInBounds_toArray, List.set_cons_zero, List.set_cons_succ]
                refine wpAnyH_take (i := 14) (oi := ?dqr1q14) (v := ?dvr1q14) ?hir1q14 (by kernel_rfl) (by kernel_rfl) (by kernel_rfl) ?hQr1q14 (Or.inl ⟨?hwr1q14, ?hyr1q14⟩) hS ?hrr1q14
                case hir1q14 => simp only [List.getElem?_toArray, List.getElem?_cons_succ, List.getElem?_cons_zero]; rfl
                case hQr1q14 => exact fun _ _ _ h => h
                case hwr1q14 => rfl
                case hyr1q14 => (intro w hSw; (try dsimp only at hSw); go_simp; (try with_reducible rfl))
                simp only [Act.put, List.setIfInBounds_toArray, List.set_cons_zero, List.set_cons_succ]
                refine wpAnyH_take (i := 15) (oi := ?dqr1q15) (v := ?dvr1q15) ?hir1q15 (by kernel_rfl) (by kernel_rfl) (by kernel_rfl) ?hQr1q15 (Or.inl ⟨?hwr1q15, ?hyr1q15⟩) hS ?hrr1q15
                case hir1q15 => simp only [List.getElem?_toArray, List.getElem?_cons_succ, List.getElem?_cons_zero]; rfl
                case hQr1q15 => exact fun _ _ _ h => h
                case hwr1q15 => rfl
                case hyr1q15 => (intro w hSw; (try dsimp only at hSw); go_simp; (try with_reducible rfl))
                simp only [Act.put, List.setIfInBounds_toArray, List.set_cons_zero, List.set_cons_succ]
                refine wpAnyH_take (i := 16) (oi := ?dqr1q16) (v := ?dvr1q16) ?hir1q16 (by kernel_rfl) (by kernel_rfl) (by kernel_rfl) ?hQr1q16 (Or.inl ⟨?hwr1q16, ?hyr1q16⟩) hS ?hrr1q16
                case hir1q16 => simp only [List.getElem?_toArray, List.getElem?_cons_succ, List.getElem?_cons_zero]; rfl
                case hQr1q16 => exact fun _ _ _ h => h
                case hwr1q16 => rfl
                case hyr1q16 => (intro w hSw; (try dsimp only at hSw); go_simp; (try with_reducible rfl))
                simp only [Act.put, List.setIfInBounds_toArray, List.set_cons_zero, List.set_cons_succ]
                refine wpAnyH_take (i := 17) (oi := ?dqr1q17) (v := ?dvr1q17) ?hir1q17 (by kernel_rfl) (by kernel_rfl) (by kernel_rfl) ?hQr1q17 (Or.inl ⟨?hwr1q17, ?hyr1q17⟩) hS ?hrr1q17
                case hir1q17 => simp only [List.getElem?_toArray, List.getElem?_cons_succ, List.getElem?_cons_zero]; rfl
                case hQr1q17 => exact fun _ _ _ h => h
                case hwr1q17 => rfl
                case hyr1q17 => (intro w hSw; (try dsimp only at hSw); go_simp; (try with_reducible rfl))
                simp only [Act.put, List.setIfInBounds_toArray, List.set_cons_zero, List.set_cons_succ]
                refine wpAnyH_take (i := 18) (oi := ?dqr1q18) (v := ?dvr1q18) ?hir1q18 (by kernel_rfl) (by kernel_rfl) (by kernel_rfl) ?hQr1q18 (Or.inl ⟨?hwr1q18, ?hyr1q18⟩) hS ?hrr1q18
                case hir1q18 => simp only [List.getElem?_toArray, List.getElem?_cons_succ, List.getElem?_cons_zero]; rfl
                case hQr1q18 => exact fun _ _ _ h => h
                case hwr1q18 => rfl
                case hyr1q18 => (intro w hSw; (try dsimp only at hSw); go_simp; (try with_reducible rfl))
                simp only [Act.put, List.setIfInBounds_toArray, List.set_cons_zero, List.set_cons_succ]
                refine wpAnyH_take (i := 19) (oi := ?dqr1q19) (v := ?dvr1q19) ?hir1q19 (by kernel_rfl) (by kernel_rfl) (by kernel_rfl) ?hQr1q19 (Or.inl ⟨?hwr1q19, ?hyr1q19⟩) hS ?hrr1q19
                case hir1q19 => simp only [List.getElem?_toArray, List.getElem?_cons_succ, List.getElem?_cons_zero]; rfl
                case hQr1q19 => exact fun _ _ _ h => h
                case hwr1q19 => rfl
                case hyr1q19 => (intro w hSw; (try dsimp only at hSw); go_simp; (try with_reducible rfl))
                simp only [Act.put, List.setIfInBounds_toArray, List.set_cons_zero, List.set_cons_succ]
                refine wpAnyH_take (i := 20) (oi := ?dqr1q20) (v := ?dvr1q20) ?hir1q20 (by kernel_rfl) (by kernel_rfl) (by kernel_rfl) ?hQr1q20 (Or.inl ⟨?hwr1q20, ?hyr1q20⟩) hS ?hrr1q20
                case hir1q20 => simp only [List.getElem?_toArray, List.getElem?_cons_succ, List.getElem?_cons_zero]; rfl
                case hQr1q20 => exact fun _ _ _ h => h
                case hwr1q20 => rfl
                case hyr1q20 => (intro w hSw; (try dsimp only at hSw); go_simp; (try with_reducible rfl))
                simp only [Act.put, List.setIfInBounds_toArray, List.set_cons_zero, List.set_cons_succ]
                refine wpAnyH_take (i := 21) (oi := ?dqr1q21) (v := ?dvr1q21) ?hir1q21 (by kernel_rfl) (by kernel_rfl) (by kernel_rfl) ?hQr1q21 (Or.inl ⟨?hwr1q21, ?hyr1q21⟩) hS ?hrr1q21
                case hir1q21 => simp only [List.getElem?_toArray, List.getElem?_cons_succ, List.getElem?_cons_zero]; rfl
                case hQr1q21 => exact fun _ _ _ h => h
                case hwr1q21 => rfl
                case hyr1q21 => (intro w hSw; (try dsimp only at hSw); go_simp; (try with_reducible rfl))
                simp only [Act.put, List.setIfInBounds_toArray, List.set_cons_zero, List.set_cons_succ]
                refine wpAnyH_take (i := 22) (oi := ?dqr1q22) (v := ?dvr1q22) ?hir1q22 (by kernel_rfl) (by kernel_rfl) (by kernel_rfl) ?hQr1q22 (Or.inl ⟨?hwr1q22, ?hyr1q22⟩) hS ?hrr1q22
                case hir1q22 => simp only [List.getElem?_toArray, List.getElem?_cons_succ, List.getElem?_cons_zero]; rfl
                case hQr1q22 => exact fun _ _ _ h => h
                case hwr1q22 => rfl
                case hyr1q22 => (intro w hSw; (try dsimp only at hSw); go_simp; (try with_reducible rfl))
                simp only [Act.put, List.setIfInBounds_toArray, List.set_cons_zero, List.set_cons_succ]
                refine wpAnyH_take (i := 23) (oi := ?dqr1q23) (v := ?dvr1q23) ?hir1q23 (by kernel_rfl) (by kernel_rfl) (by kernel_rfl) ?hQr1q23 (Or.inl ⟨?hwr1q23, ?hyr1q23⟩) hS ?hrr1q23
                case hir1q23 => simp only [List.getElem?_toArray, List.getElem?_cons_succ, List.getElem?_cons_zero]; rfl
                case hQr1q23 => exact fun _ _ _ h => h
                case hwr1q23 => rfl
                case hyr1q23 => (intro w hSw; (try dsimp only at hSw); go_simp; (try with_reducible rfl))
                simp only [Act.put, List.setIfInBounds_toArray, List.set_cons_zero, List.set_cons_succ]
                refine wpAnyH_ready (rs := [24]) (by kernel_rfl) (by simp) ?_
                refine AllReadyH.cons (o := ?dqr1q24) ?hir1q24 (fun K hK => ?_) AllReadyH.nil
                case hir1q24 => simp only [List.getElem?_toArray, List.getElem?_cons_succ, List.getElem?_cons_zero]; rfl
                go_simp
                go_at_call 17
                refine (pr2.out _).mono ?_
                rintro e w' ⟨rfl, hb⟩
                have hS2 := s4m_next (w := wr) hS hb
                clear hS
                refine hK.out _ _ hS2 (fun hS => ?_)
                clear hS2 hK K
                try simp only [Act.put, List.setIfInBounds_toArray, List.set_cons_zero, List.set_cons_succ]
                refine wpAnyH_ready (rs := [25]) (by kernel_rfl) (by simp) ?_
                refine AllReadyH.cons (o := ?dqr1q25) ?hir1q25 (fun K hK => ?_) AllReadyH.nil
                case hir1q25 => simp only [List.getElem?_toArray, List.getElem?_cons_succ, List.getElem?_cons_zero]; rfl
                go_simp
                go_at_call 12
                refine (tk2.out _).mono ?_
                rintro e w' ⟨rfl, hb⟩
                have hS2 := s4m_next (w := wr) hS hb
                clear hS
                refine hK.out _ _ hS2 (fun hS => ?_)
                clear hS2 hK K
                try simp only [Act.put, List.setIfInBounds_toArray, List.set_cons_zero, List.set_cons_succ]
                refine wpAnyH_take (i := 26) (oi := ?dqr1q26) (v := ?dvr1q26) ?hir1q26 (by kernel_rfl) (by kernel_rfl) (by kernel_rfl) ?hQr1q26 (Or.inl ⟨?hwr1q26, ?hyr1q26⟩) hS ?hrr1q26
                case hir1q26 => simp only [List.getElem?_toArray, List.getElem?_cons_succ, List.getElem?_cons_zero]; rfl
                case hQr1q26 => exact fun _ _ _ h => h
                case hwr1q26 => rfl
                case hyr1q26 => (intro w hSw; (try dsimp only at hSw); go_simp; (try with_reducible rfl))
                simp only [Act.put, List.setIfInBounds_toArray, List.set_cons_zero, List.set_cons_succ]
                refine wpAnyH_take (i := 27) (oi := ?dqr1q27) (v := ?dvr1q27) ?hir1q27 (by kernel_rfl) (by kernel_rfl) (by kernel_rfl) ?hQr1q27 (Or.inl ⟨?hwr1q27, ?hyr1q27⟩) hS ?hrr1q27
                case hir1q27 => simp only [List.getElem?_toArray, List.getElem?_cons_succ, List.getElem?_cons_zero]; rfl
                case hQr1q27 => exact fun _ _ _ h => h
                case hwr1q27 => rfl
                case hyr1q27 => (intro w hSw; (try dsimp only at hSw); go_simp; (try with_reducible rfl))
                simp only [Act.put, List.setIfInBounds_toArray, List.set_cons_zero, List.set_cons_succ]
                refine wpAnyH_take (i := 28) (oi := ?dqr1q28) (v := ?dvr1q28) ?hir1q28 (by kernel_rfl) (by kernel_rfl) (by kernel_rfl) ?hQr1q28 (Or.inl ⟨?hwr1q28, ?hyr1q28⟩) hS ?hrr1q28
                case hir1q28 => simp only [List.getElem?_toArray, List.getElem?_cons_succ, List.getElem?_cons_zero]; rfl
                case hQr1q28 => exact fun _ _ _ h => h
                case hwr1q28 => rfl
                case hyr1q28 => (intro w hSw; (try dsimp only at hSw); go_simp; (try with_reducible rfl))
                simp only [Act.put, List.setIfInBounds_toArray, List.set_cons_zero, List.set_cons_succ]
                refine wpAnyH_done (by kernel_rfl) ?_ _
                clear q0 q1 q2 q3 hw
                obtain ⟨_, _, _, _, hb⟩ := hS
                have b3 := Lib.hid hb
                clear hb
                go_wp2
                go_roundw
                case rel => exact ⟨b + 1, by omega, by omega, by first | rfl | go_num, by rw [hc1.out], bw.out.trans (b3.out.mono bw.out.size)⟩
                case measure => simp [intOf]; omega
              · by_cases kh : key.toInt < 4611686018427387904
                · have d0 : decide (0 ≤ key.toInt) = true := decide_eq_true (by omega)
                  have d1 : decide (key.toInt < (N : Int)) = false := decide_eq_false (by omega)
                  have d3 : decide (-4611686018427387904 < key.toInt) = true := decide_eq_true (by omega)
                  have d4 : decide (key.toInt < 4611686018427387904) = true := decide_eq_true (by omega)
                  have hfit : -9223372036854775808 ≤ key.toInt + (N : Int) ∧ key.toInt + (N : Int) ≤ 9223372036854775807 := by omega
                  obtain ⟨k2, ek2⟩ : ∃ k2 : BitVec 64, k2.toInt = key.toInt + (N : Int) := ⟨BitVec.ofInt 64 (key.toInt + (N : Int)), by rw [BitVec.toInt_ofInt]; exact Int.bmod_eq_of_le (by omega) (by omega)⟩
                  have htk2 : takes (modP nb bb) (k2, 0#64) = true := by rw [htak'.out]; exact decide_eq_true (by show k2.toInt % (N : Int) = b; rw [ek2, Int.add_emod_right]; exact hkb.out)
                  have pr2 := Lib.hid (fun W => pair6_any k2 W)
                  have tk2 := Lib.hid (fun W => takes_l (p := modP nb bb) (x := (k2, 0#64)) (t := true) htk2 hv.out rfl W)
                  have hw : IntKind.i64.wrap (key.toInt + (N : Int)) = k2.toInt := by rw [IntWalk.i64_in _ hfit, ek2]
                  clear hfit ek2 htk2 hk hk'
                  refine wp_region_held_drew (S := fun w' => w'.cell? ⟨wr.heap.size, 0, none⟩ = some (.int .u8 4) ∧ w'.cell? ⟨wr.heap.size, 1, none⟩ = some (.int .i64 (N : Int)) ∧ w'.cell? ⟨wr.heap.size, 2, none⟩ = some (.int .i64 b) ∧ w'.cell? ⟨wr.heap.size, 3, none⟩ = some (.bool false) ∧ Below wr.heap.size wr w') (by kernel_rfl) ⟨q0, q1, q2, q3, b2.out.drew⟩ (fun hS => ?_)
                  refine wpAnyH_take (i := 0) (oi := ?dqr2q0) (v := ?dvr2q0) ?hir2q0 (by kernel_rfl) (by kernel_rfl) (by kernel_rfl) ?hQr2q0 (Or.inl ⟨?hwr2q0, ?hyr2q0⟩) hS ?hrr2q0
                  case hir2q0 => simp only [List.getElem?_toArray, List.getElem?_cons_zero]; rfl
                  case hQr2q0 => exact fun _ _ _ h => h
                  case hwr2q0 => rfl
                  case hyr2q0 => (intro w hSw; (try dsimp only at hSw); go_simp; (try with_reducible rfl))
                  simp only [Act.put, List.setIfInBounds_toArray, List.set_cons_zero, List.set_cons_succ]
                  refine wpAnyH_take (i := 1) (oi := ?dqr2q1) (v := ?dvr2q1) ?hir2q1 (by kernel_rfl) (by kernel_rfl) (by kernel_rfl) ?hQr2q1 (Or.inl ⟨?hwr2q1, ?hyr2q1⟩) hS ?hrr2q1
                  case hir2q1 => simp only [List.getElem?_toArray, List.getElem?_cons_succ, List.getElem?_cons_zero]; rfl
                  case hQr2q1 => exact fun _ _ _ h => h
                  case hwr2q1 => rfl
                  case hyr2q1 => (intro w hSw; (try dsimp only at hSw); go_simp; (try with_reducible rfl))
                  simp only [Act.put, List.setIfInBounds_toArray, List.set_cons_zero, List.set_cons_succ]
                  refine wpAnyH_take (i := 2) (oi := ?dqr2q2) (v := ?dvr2q2) ?hir2q2 (by kernel_rfl) (by kernel_rfl) (by kernel_rfl) ?hQr2q2 (Or.inl ⟨?hwr2q2, ?hyr2q2⟩) hS ?hrr2q2
                  case hir2q2 => simp only [List.getElem?_toArray, List.getElem?_cons_succ, List.getElem?_cons_zero]; rfl
                  case hQr2q2 => exact fun _ _ _ h => h
                  case hwr2q2 => rfl
                  case hyr2q2 => (intro w hSw; (try dsimp only at hSw); go_simp; (try with_reducible rfl))
                  simp only [Act.put, List.setIfInBounds_toArray, List.set_cons_zero, List.set_cons_succ]
                  refine wpAnyH_take (i := 3) (oi := ?dqr2q3) (v := ?dvr2q3) ?hir2q3 (by kernel_rfl) (by kernel_rfl) (by kernel_rfl) ?hQr2q3 (Or.inl ⟨?hwr2q3, ?hyr2q3⟩) hS ?hrr2q3
                  case hir2q3 => simp only [List.getElem?_toArray, List.getElem?_cons_succ, List.getElem?_cons_zero]; rfl
                  case hQr2q3 => exact fun _ _ _ h => h
                  case hwr2q3 => rfl
                  case hyr2q3 => (intro w hSw; (try dsimp only at hSw); go_simp; (try with_reducible rfl))
                  simp only [Act.put, List.setIfInBounds_toArray, List.set_cons_zero, List.set_cons_succ]
                  refine wpAnyH_take (i := 4) (oi := ?dqr2q4) (v := ?dvr2q4) ?hir2q4 (by kernel_rfl) (by kernel_rfl) (by kernel_rfl) ?hQr2q4 (Or.inl ⟨?hwr2q4, ?hyr2q4⟩) hS ?hrr2q4
                  case hir2q4 => simp only [List.getElem?_toArray, List.getElem?_cons_succ, List.getElem?_cons_zero]; rfl
                  case hQr2q4 => exact fun _ _ _ h => h
                  case hwr2q4 => rfl
                  case hyr2q4 => (intro w hSw; (try dsimp only at hSw); go_simp; (try with_reducible rfl))
                  simp only [Act.put, List.setIfInBounds_toArray, List.set_cons_zero, List.set_cons_succ]
                  refine wpAnyH_take (i := 5) (oi := ?dqr2q5) (v := ?dvr2q5) ?hir2q5 (by kernel_rfl) (by kernel_rfl) (by kernel_rfl) ?hQr2q5 (Or.inl ⟨?hwr2q5, ?hyr2q5⟩) hS ?hrr2q5
                  case hir2q5 => simp only [List.getElem?_toArray, List.getElem?_cons_succ, List.getElem?_cons_zero]; rfl
                  case hQr2q5 => exact fun _ _ _ h => h
                  case hwr2q5 => rfl
                  case hyr2q5 => (intro w hSw; (try dsimp only at hSw); go_simp; (try with_reducible rfl))
                  simp only [Act.put, List.setIfInBounds_toArray, List.set_cons_zero, List.set_cons_succ]
                  refine wpAnyH_take (i := 6) (oi := ?dqr2q6) (v := ?dvr2q6) ?hir2q6 (by kernel_rfl) (by kernel_rfl) (by kernel_rfl) ?hQr2q6 (Or.inl ⟨?hwr2q6, ?hyr2q6⟩) hS ?hrr2q6
                  case hir2q6 => simp only [List.getElem?_toArray, List.getElem?_cons_succ, List.getElem?_cons_zero]; rfl
                  case hQr2q6 => exact fun _ _ _ h => h
                  case hwr2q6 => rfl
                  case hyr2q6 => (intro w hSw; (try dsimp only at hSw); go_simp; (try with_reducible rfl))
                  simp only [Act.put, List.setIfInBounds_toArray, List.set_cons_zero, List.set_cons_succ]
                  refine wpAnyH_take (i := 7) (oi := ?dqr2q7) (v := ?dvr2q7) ?hir2q7 (by kernel_rfl) (by kernel_rfl) (by kernel_rfl) ?hQr2q7 (Or.inl ⟨?hwr2q7, ?hyr2q7⟩) hS ?hrr2q7
                  case hir2q7 => simp only [List.getElem?_toArray, List.getElem?_cons_succ, List.getElem?_cons_zero]; rfl
                  case hQr2q7 => exact fun _ _ _ h => h
                  case hwr2q7 => rfl
                  case hyr2q7 => (intro w hSw; (try dsimp only at hSw); go_simp; (try with_reducible rfl))
                  simp only [Act.put, List.setIfInBounds_toArray, List.set_cons_zero, List.set_cons_succ]
                  refine wpAnyH_take (i := 8) (oi := ?dqr2q8) (v := undef) ?hir2q8 (by kernel_rfl) (by kernel_rfl) (by kernel_rfl) ?hQr2q8 (Or.inr ⟨?hwr2q8, rfl⟩) hS ?hrr2q8
                  case hir2q8 => simp only [List.getElem?_toArray, List.getElem?_cons_succ, List.getElem?_cons_zero]; rfl
                  case hQr2q8 => exact fun _ _ _ h => h
                  case hwr2q8 => rfl
                  simp only [Act.put, List.setIfInBounds_toArray, List.set_cons_zero, List.set_cons_succ]
                  refine wpAnyH_take (i := 9) (oi := ?dqr2q9) (v := undef) ?hir2q9 (by kernel_rfl) (by kernel_rfl) (by kernel_rfl) ?hQr2q9 (Or.inr ⟨?hwr2q9, rfl⟩) hS ?hrr2q9
                  case hir2q9 => simp only [List.getElem?_toArray, List.getElem?_cons_succ, List.getElem?_cons_zero]; rfl
                  case hQr2q9 => exact fun _ _ _ h => h
                  case hwr2q9 => rfl
                  simp only [Act.put, List.setIfInBounds_toArray, List.set_cons_zero, List.set_cons_succ]
                  refine wpAnyH_take (i := 10) (oi := ?dqr2q10) (v := undef) ?hir2q10 (by kernel_rfl) (by kernel_rfl) (by kernel_rfl) ?hQr2q10 (Or.inr ⟨?hwr2q10, rfl⟩) hS ?hrr2q10
                  case hir2q10 => simp only [List.getElem?_toArray, List.getElem?_cons_succ, List.getElem?_cons_zero]; rfl
                  case hQr2q10 => exact fun _ _ _ h => h
                  case hwr2q10 => rfl
                  simp only [Act.put, List.setIfInBounds_toArray, List.set_cons_zero, List.set_cons_succ]
                  refine wpAnyH_take (i := 11) (oi := ?dqr2q11) (v := ?dvr2q11) ?hir2q11 (by kernel_rfl) (by kernel_rfl) (by kernel_rfl) ?hQr2q11 (Or.inl ⟨?hwr2q11, ?hyr2q11⟩) hS ?hrr2q11
                  case hir2q11 => simp only [List.getElem?_toArray, List.getElem?_cons_succ, List.getElem?_cons_zero]; rfl
                  case hQr2q11 => exact fun _ _ _ h => h
                  case hwr2q11 => rfl
                  case hyr2q11 => (intro w hSw; (try dsimp only at hSw); go_simp; (try with_reducible rfl))
                  simp only [Act.put, List.setIfInBounds_toArray, List.set_cons_zero, List.set_cons_succ]
                  refine wpAnyH_take (i := 12) (oi := ?dqr2q12) (v := ?dvr2q12) ?hir2q12 (by kernel_rfl) (by kernel_rfl) (by kernel_rfl) ?hQr2q12 (Or.inl ⟨?hwr2q12, ?hyr2q12⟩) hS ?hrr2q12
                  case hir2q12 => simp only [List.getElem?_toArray, List.getElem?_cons_succ, List.getElem?_cons_zero]; rfl
                  case hQr2q12 => exact fun _ _ _ h => h
                  case hwr2q12 => rfl
                  case hyr2q12 => (intro w hSw; (try dsimp only at hSw); go_simp; (try with_reducible rfl))
                  simp only [Act.put, List.setIfInBounds_toArray, List.set_cons_zero, List.set_cons_succ]
                  refine wpAnyH_take (i := 13) (oi := ?dqr2q13) (v := ?dvr2q13) ?hir2q13 (by kernel_rfl) (by kernel_rfl) (by kernel_rfl) ?hQr2q13 (Or.inl ⟨?hwr2q13, ?hyr2q13⟩) hS ?hrr2q13
                  case hir2q13 => simp only [List.getElem?_toArray, List.getElem?_cons_succ, List.getElem?_cons_zero]; rfl
                  case hQr2q13 => exact fun _ _ _ h => h
                  case hwr2q13 => rfl
                  case hyr2q13 => (intro w hSw; (try dsimp only at hSw); go_simp; (try with_reducible rfl))
                  simp only [Act.put, List.setIfInBounds_toArray, List.set_cons_zero, List.set_cons_succ]
                  refine wpAnyH_take (i := 14) (oi := ?dqr2q14) (v := ?dvr2q14) ?hir2q14 (by kernel_rfl) (by kernel_rfl) (by kernel_rfl) ?hQr2q14 (Or.inl ⟨?hwr2q14, ?hyr2q14⟩) hS ?hrr2q14
                  case hir2q14 => simp only [List.getElem?_toArray, List.getElem?_cons_succ, List.getElem?_cons_zero]; rfl
                  case hQr2q14 => exact fun _ _ _ h => h
                  case hwr2q14 => rfl
                  case hyr2q14 => (intro w hSw; (try dsimp only at hSw); go_simp; (try with_reducible rfl))
                  simp only [Act.put, List.setIfInBounds_toArray, List.set_cons_zero, List.set_cons_succ]
                  refine wpAnyH_take (i := 15) (oi := ?dqr2q15) (v := ?dvr2q15) ?hir2q15 (by kernel_rfl) (by kernel_rfl) (by kernel_rfl) ?hQr2q15 (Or.inl ⟨?hwr2q15, ?hyr2q15⟩) hS ?hrr2q15
                  case hir2q15 => simp only [List.getElem?_toArray, List.getElem?_cons_succ, List.getElem?_cons_zero]; rfl
                  case hQr2q15 => exact fun _ _ _ h => h
                  case hwr2q15 => rfl
                  case hyr2q15 => (intro w hSw; (try dsimp only at hSw); go_simp; (try with_reducible rfl))
                  simp only [Act.put, List.setIfInBounds_toArray, List.set_cons_zero, List.set_cons_succ]
                  refine wpAnyH_take (i := 16) (oi := ?dqr2q16) (v := ?dvr2q16) ?hir2q16 (by kernel_rfl) (by kernel_rfl) (by kernel_rfl) ?hQr2q16 (Or.inl ⟨?hwr2q16, ?hyr2q16⟩) hS ?hrr2q16
                  case hir2q16 => simp only [List.getElem?_toArray, List.getElem?_cons_succ, List.getElem?_cons_zero]; rfl
                  case hQr2q16 => exact fun _ _ _ h => h
                  case hwr2q16 => rfl
                  case hyr2q16 => (intro w hSw; (try dsimp only at hSw); go_simp; (try with_reducible rfl))
                  simp only [Act.put, List.setIfInBounds_toArray, List.set_cons_zero, List.set_cons_succ]
                  refine wpAnyH_take (i := 17) (oi := ?dqr2q17) (v := ?dvr2q17) ?hir2q17 (by kernel_rfl) (by kernel_rfl) (by kernel_rfl) ?hQr2q17 (Or.inl ⟨?hwr2q17, ?hyr2q17⟩) hS ?hrr2q17
                  case hir2q17 => simp only [List.getElem?_toArray, List.getElem?_cons_succ, List.getElem?_cons_zero]; rfl
                  case hQr2q17 => exact fun _ _ _ h => h
                  case hwr2q17 => rfl
                  case hyr2q17 => (intro w hSw; (try dsimp only at hSw); go_simp; (try with_reducible rfl))
                  simp only [Act.put, List.setIfInBounds_toArray, List.set_cons_zero, List.set_cons_succ]
                  refine wpAnyH_take (i := 18) (oi := ?dqr2q18) (v := ?dvr2q18) ?hir2q18 (by kernel_rfl) (by kernel_rfl) (by kernel_rfl) ?hQr2q18 (Or.inl ⟨?hwr2q18, ?hyr2q18⟩) hS ?hrr2q18
                  case hir2q18 => simp only [List.getElem?_toArray, List.getElem?_cons_succ, List.getElem?_cons_zero]; rfl
                  case hQr2q18 => exact fun _ _ _ h => h
                  case hwr2q18 => rfl
                  case hyr2q18 => (intro w hSw; (try dsimp only at hSw); go_simp; (try with_reducible rfl))
                  simp only [Act.put, List.setIfInBounds_toArray, List.set_cons_zero, List.set_cons_succ]
                  refine wpAnyH_take (i := 19) (oi := ?dqr2q19) (v := ?dvr2q19) ?hir2q19 (by kernel_rfl) (by kernel_rfl) (by kernel_rfl) ?hQr2q19 (Or.inl ⟨?hwr2q19, ?hyr2q19⟩) hS ?hrr2q19
                  case hir2q19 => simp only [List.getElem?_toArray, List.getElem?_cons_succ, List.getElem?_cons_zero]; rfl
                  case hQr2q19 => exact fun _ _ _ h => h
                  case hwr2q19 => rfl
                  case hyr2q19 => (intro w hSw; (try dsimp only at hSw); go_simp; (try with_reducible rfl))
                  simp only [Act.put, List.setIfInBounds_toArray, List.set_cons_zero, List.set_cons_succ]
                  refine wpAnyH_take (i := 20) (oi := ?dqr2q20) (v := ?dvr2q20) ?hir2q20 (by kernel_rfl) (by kernel_rfl) (by kernel_rfl) ?hQr2q20 (Or.inl ⟨?hwr2q20, ?hyr2q20⟩) hS ?hrr2q20
                  case hir2q20 => simp only [List.getElem?_toArray, List.getElem?_cons_succ, List.getElem?_cons_zero]; rfl
                  case hQr2q20 => exact fun _ _ _ h => h
                  case hwr2q20 => rfl
                  case hyr2q20 => (intro w hSw; (try dsimp only at hSw); go_simp; (try with_reducible rfl))
                  simp only [Act.put, List.setIfInBounds_toArray, List.set_cons_zero, List.set_cons_succ]
                  refine wpAnyH_take (i := 21) (oi := ?dqr2q21) (v := ?dvr2q21) ?hir2q21 (by kernel_rfl) (by kernel_rfl) (by kernel_rfl) ?hQr2q21 (Or.inl ⟨?hwr2q21, ?hyr2q21⟩) hS ?hrr2q21
                  case hir2q21 => simp only [List.getElem?_toArray, List.getElem?_cons_succ, List.getElem?_cons_zero]; rfl
                  case hQr2q21 => exact fun _ _ _ h => h
                  case hwr2q21 => rfl
                  case hyr2q21 => (intro w hSw; (try dsimp only at hSw); go_simp; (try with_reducible rfl))
                  simp only [Act.put, List.setIfInBounds_toArray, List.set_cons_zero, List.set_cons_succ]
                  refine wpAnyH_take (i := 22) (oi := ?dqr2q22) (v := ?dvr2q22) ?hir2q22 (by kernel_rfl) (by kernel_rfl) (by kernel_rfl) ?hQr2q22 (Or.inl ⟨?hwr2q22, ?hyr2q22⟩) hS ?hrr2q22
                  case hir2q22 => simp only [List.getElem?_toArray, List.getElem?_cons_succ, List.getElem?_cons_zero]; rfl
                  case hQr2q22 => exact fun _ _ _ h => h
                  case hwr2q22 => rfl
                  case hyr2q22 => (intro w hSw; (try dsimp only at hSw); go_simp; (try with_reducible rfl))
                  simp only [Act.put, List.setIfInBounds_toArray, List.set_cons_zero, List.set_cons_succ]
                  refine wpAnyH_take (i := 23) (oi := ?dqr2q23) (v := ?dvr2q23) ?hir2q23 (by kernel_rfl) (by kernel_rfl) (by kernel_rfl) ?hQr2q23 (Or.inl ⟨?hwr2q23, ?hyr2q23⟩) hS ?hrr2q23
                  case hir2q23 => simp only [List.getElem?_toArray, List.getElem?_cons_succ, List.getElem?_cons_zero]; rfl
                  case hQr2q23 => exact fun _ _ _ h => h
                  case hwr2q23 => rfl
                  case hyr2q23 => (intro w hSw; (try dsimp only at hSw); go_simp; (try with_reducible rfl))
                  simp only [Act.put, List.setIfInBounds_toArray, List.set_cons_zero, List.set_cons_succ]
                  refine wpAnyH_ready (rs := [24]) (by kernel_rfl) (by simp) ?_
                  refine AllReadyH.cons (o := ?dqr2q24) ?hir2q24 (fun K hK => ?_) AllReadyH.nil
                  case hir2q24 => simp only [List.getElem?_toArray, List.getElem?_cons_succ, List.getElem?_cons_zero]; rfl
                  go_simp
                  go_at_call 17
                  refine (pr2.out _).mono ?_
                  rintro e w' ⟨rfl, hb⟩
                  have hS2 := s4m_next (w := wr) hS hb
                  clear hS
                  refine hK.out _ _ hS2 (fun hS => ?_)
                  clear hS2 hK K
                  try simp only [Act.put, List.setIfInBounds_toArray, List.set_cons_zero, List.set_cons_succ]
                  refine wpAnyH_ready (rs := [25]) (by kernel_rfl) (by simp) ?_
                  refine AllReadyH.cons (o := ?dqr2q25) ?hir2q25 (fun K hK => ?_) AllReadyH.nil
                  case hir2q25 => simp only [List.getElem?_toArray, List.getElem?_cons_succ, List.getElem?_cons_zero]; rfl
                  go_simp
                  go_at_call 12
                  refine (tk2.out _).mono ?_
                  rintro e w' ⟨rfl, hb⟩
                  have hS2 := s4m_next (w := wr) hS hb
                  clear hS
                  refine hK.out _ _ hS2 (fun hS => ?_)
                  clear hS2 hK K
                  try simp only [Act.put, List.setIfInBounds_toArray, List.set_cons_zero, List.set_cons_succ]
                  refine wpAnyH_take (i := 26) (oi := ?dqr2q26) (v := ?dvr2q26) ?hir2q26 (by kernel_rfl) (by kernel_rfl) (by kernel_rfl) ?hQr2q26 (Or.inl ⟨?hwr2q26, ?hyr2q26⟩) hS ?hrr2q26
                  case hir2q26 => simp only [List.getElem?_toArray, List.getElem?_cons_succ, List.getElem?_cons_zero]; rfl
                  case hQr2q26 => exact fun _ _ _ h => h
                  case hwr2q26 => rfl
                  case hyr2q26 => (intro w hSw; (try dsimp only at hSw); go_simp; (try with_reducible rfl))
                  simp only [Act.put, List.setIfInBounds_toArray, List.set_cons_zero, List.set_cons_succ]
                  refine wpAnyH_take (i := 27) (oi := ?dqr2q27) (v := ?dvr2q27) ?hir2q27 (by kernel_rfl) (by kernel_rfl) (by kernel_rfl) ?hQr2q27 (Or.inl ⟨?hwr2q27, ?hyr2q27⟩) hS ?hrr2q27
                  case hir2q27 => simp only [List.getElem?_toArray, List.getElem?_cons_succ, List.getElem?_cons_zero]; rfl
                  case hQr2q27 => exact fun _ _ _ h => h
                  case hwr2q27 => rfl
                  case hyr2q27 => (intro w hSw; (try dsimp only at hSw); go_simp; (try with_reducible rfl))
                  simp only [Act.put, List.setIfInBounds_toArray, List.set_cons_zero, List.set_cons_succ]
                  refine wpAnyH_take (i := 28) (oi := ?dqr2q28) (v := ?dvr2q28) ?hir2q28 (by kernel_rfl) (by kernel_rfl) (by kernel_rfl) ?hQr2q28 (Or.inl ⟨?hwr2q28, ?hyr2q28⟩) hS ?hrr2q28
                  case hir2q28 => simp only [List.getElem?_toArray, List.getElem?_cons_succ, List.getElem?_cons_zero]; rfl
                  case hQr2q28 => exact fun _ _ _ h => h
                  case hwr2q28 => rfl
                  case hyr2q28 => (intro w hSw; (try dsimp only at hSw); go_simp; (try with_reducible rfl))
                  simp only [Act.put, List.setIfInBounds_toArray, List.set_cons_zero, List.set_cons_succ]
                  refine wpAnyH_done (by kernel_rfl) ?_ _
                  clear q0 q1 q2 q3 hw
                  obtain ⟨_, _, _, _, hb⟩ := hS
                  have b3 := Lib.hid hb
                  clear hb
                  go_wp2
                  go_roundw
                  case rel => exact ⟨b + 1, by omega, by omega, by first | rfl | go_num, by rw [hc1.out], bw.out.trans (b3.out.mono bw.out.size)⟩
                  case measure => simp [intOf]; omega
                · have d0 : decide (0 ≤ key.toInt) = true := decide_eq_true (by omega)
                  have d1 : decide (key.toInt < (N : Int)) = false := decide_eq_false (by omega)
                  have d3 : decide (-4611686018427387904 < key.toInt) = true := decide_eq_true (by omega)
                  have d4 : decide (key.toInt < 4611686018427387904) = false := decide_eq_false (by omega)
                  clear hk hk'
                  refine wp_region_held_drew (S := fun w' => w'.cell? ⟨wr.heap.size, 0, none⟩ = some (.int .u8 4) ∧ w'.cell? ⟨wr.heap.size, 1, none⟩ = some (.int .i64 (N : Int)) ∧ w'.cell? ⟨wr.heap.size, 2, none⟩ = some (.int .i64 b) ∧ w'.cell? ⟨wr.heap.size, 3, none⟩ = some (.bool false) ∧ Below wr.heap.size wr w') (by kernel_rfl) ⟨q0, q1, q2, q3, b2.out.drew⟩ (fun hS => ?_)
                  refine wpAnyH_take (i := 0) (oi := ?dqr3q0) (v := ?dvr3q0) ?hir3q0 (by kernel_rfl) (by kernel_rfl) (by kernel_rfl) ?hQr3q0 (Or.inl ⟨?hwr3q0, ?hyr3q0⟩) hS ?hrr3q0
                  case hir3q0 => simp only [List.getElem?_toArray, List.getElem?_cons_zero]; rfl
                  case hQr3q0 => exact fun _ _ _ h => h
                  case hwr3q0 => rfl
                  case hyr3q0 => (intro w hSw; (try dsimp only at hSw); go_simp; (try with_reducible rfl))
                  simp only [Act.put, List.setIfInBounds_toArray, List.set_cons_zero, List.set_cons_succ]
                  refine wpAnyH_take (i := 1) (oi := ?dqr3q1) (v := ?dvr3q1) ?hir3q1 (by kernel_rfl) (by kernel_rfl) (by kernel_rfl) ?hQr3q1 (Or.inl ⟨?hwr3q1, ?hyr3q1⟩) hS ?hrr3q1
                  case hir3q1 => simp only [List.getElem?_toArray, List.getElem?_cons_succ, List.getElem?_cons_zero]; rfl
                  case hQr3q1 => exact fun _ _ _ h => h
                  case hwr3q1 => rfl
                  case hyr3q1 => (intro w hSw; (try dsimp only at hSw); go_simp; (try with_reducible rfl))
                  simp only [Act.put, List.setIfInBounds_toArray, List.set_cons_zero, List.set_cons_succ]
                  refine wpAnyH_take (i := 2) (oi := ?dqr3q2) (v := ?dvr3q2) ?hir3q2 (by kernel_rfl) (by kernel_rfl) (by kernel_rfl) ?hQr3q2 (Or.inl ⟨?hwr3q2, ?hyr3q2⟩) hS ?hrr3q2
                  case hir3q2 => simp only [List.getElem?_toArray, List.getElem?_cons_succ, List.getElem?_cons_zero]; rfl
                  case hQr3q2 => exact fun _ _ _ h => h
                  case hwr3q2 => rfl
                  case hyr3q2 => (intro w hSw; (try dsimp only at hSw); go_simp; (try with_reducible rfl))
                  simp only [Act.put, List.setIfInBounds_toArray, List.set_cons_zero, List.set_cons_succ]
                  refine wpAnyH_take (i := 3) (oi := ?dqr3q3) (v := ?dvr3q3) ?hir3q3 (by kernel_rfl) (by kernel_rfl) (by kernel_rfl) ?hQr3q3 (Or.inl ⟨?hwr3q3, ?hyr3q3⟩) hS ?hrr3q3
                  case hir3q3 => simp only [List.getElem?_toArray, List.getElem?_cons_succ, List.getElem?_cons_zero]; rfl
                  case hQr3q3 => exact fun _ _ _ h => h
                  case hwr3q3 => rfl
                  case hyr3q3 => (intro w hSw; (try dsimp only at hSw); go_simp; (try with_reducible rfl))
                  simp only [Act.put, List.setIfInBounds_toArray, List.set_cons_zero, List.set_cons_succ]
                  refine wpAnyH_take (i := 4) (oi := ?dqr3q4) (v := ?dvr3q4) ?hir3q4 (by kernel_rfl) (by kernel_rfl) (by kernel_rfl) ?hQr3q4 (Or.inl ⟨?hwr3q4, ?hyr3q4⟩) hS ?hrr3q4
                  case hir3q4 => simp only [List.getElem?_toArray, List.getElem?_cons_succ, List.getElem?_cons_zero]; rfl
                  case hQr3q4 => exact fun _ _ _ h => h
                  case hwr3q4 => rfl
                  case hyr3q4 => (intro w hSw; (try dsimp only at hSw); go_simp; (try with_reducible rfl))
                  simp only [Act.put, List.setIfInBounds_toArray, List.set_cons_zero, List.set_cons_succ]
                  refine wpAnyH_take (i := 5) (oi := ?dqr3q5) (v := ?dvr3q5) ?hir3q5 (by kernel_rfl) (by kernel_rfl) (by kernel_rfl) ?hQr3q5 (Or.inl ⟨?hwr3q5, ?hyr3q5⟩) hS ?hrr3q5
                  case hir3q5 => simp only [List.getElem?_toArray, List.getElem?_cons_succ, List.getElem?_cons_zero]; rfl
                  case hQr3q5 => exact fun _ _ _ h => h
                  case hwr3q5 => rfl
                  case hyr3q5 => (intro w hSw; (try dsimp only at hSw); go_simp; (try with_reducible rfl))
                  simp only [Act.put, List.setIfInBounds_toArray, List.set_cons_zero, List.set_cons_succ]
                  refine wpAnyH_take (i := 6) (oi := ?dqr3q6) (v := ?dvr3q6) ?hir3q6 (by kernel_rfl) (by kernel_rfl) (by kernel_rfl) ?hQr3q6 (Or.inl ⟨?hwr3q6, ?hyr3q6⟩) hS ?hrr3q6
                  case hir3q6 => simp only [List.getElem?_toArray, List.getElem?_cons_succ, List.getElem?_cons_zero]; rfl
                  case hQr3q6 => exact fun _ _ _ h => h
                  case hwr3q6 => rfl
                  case hyr3q6 => (intro w hSw; (try dsimp only at hSw); go_simp; (try with_reducible rfl))
                  simp only [Act.put, List.setIfInBounds_toArray, List.set_cons_zero, List.set_cons_succ]
                  refine wpAnyH_take (i := 7) (oi := ?dqr3q7) (v := ?dvr3q7) ?hir3q7 (by kernel_rfl) (by kernel_rfl) (by kernel_rfl) ?hQr3q7 (Or.inl ⟨?hwr3q7, ?hyr3q7⟩) hS ?hrr3q7
                  case hir3q7 => simp only [List.getElem?_toArray, List.getElem?_cons_succ, List.getElem?_cons_zero]; rfl
                  case hQr3q7 => exact fun _ _ _ h => h
                  case hwr3q7 => rfl
                  case hyr3q7 => (intro w hSw; (try dsimp only at hSw); go_simp; (try with_reducible rfl))
                  simp only [Act.put, List.setIfInBounds_toArray, List.set_cons_zero, List.set_cons_succ]
                  refine wpAnyH_take (i := 8) (oi := ?dqr3q8) (v := undef) ?hir3q8 (by kernel_rfl) (by kernel_rfl) (by kernel_rfl) ?hQr3q8 (Or.inr ⟨?hwr3q8, rfl⟩) hS ?hrr3q8
                  case hir3q8 => simp only [List.getElem?_toArray, List.getElem?_cons_succ, List.getElem?_cons_zero]; rfl
                  case hQr3q8 => exact fun _ _ _ h => h
                  case hwr3q8 => rfl
                  simp only [Act.put, List.setIfInBounds_toArray, List.set_cons_zero, List.set_cons_succ]
                  refine wpAnyH_take (i := 9) (oi := ?dqr3q9) (v := undef) ?hir3q9 (by kernel_rfl) (by kernel_rfl) (by kernel_rfl) ?hQr3q9 (Or.inr ⟨?hwr3q9, rfl⟩) hS ?hrr3q9
                  case hir3q9 => simp only [List.getElem?_toArray, List.getElem?_cons_succ, List.getElem?_cons_zero]; rfl
                  case hQr3q9 => exact fun _ _ _ h => h
                  case hwr3q9 => rfl
                  simp only [Act.put, List.setIfInBounds_toArray, List.set_cons_zero, List.set_cons_succ]
                  refine wpAnyH_take (i := 10) (oi := ?dqr3q10) (v := undef) ?hir3q10 (by kernel_rfl) (by kernel_rfl) (by kernel_rfl) ?hQr3q10 (Or.inr ⟨?hwr3q10, rfl⟩) hS ?hrr3q10
                  case hir3q10 => simp only [List.getElem?_toArray, List.getElem?_cons_succ, List.getElem?_cons_zero]; rfl
                  case hQr3q10 => exact fun _ _ _ h => h
                  case hwr3q10 => rfl
                  simp only [Act.put, List.setIfInBounds_toArray, List.set_cons_zero, List.set_cons_succ]
                  refine wpAnyH_take (i := 11) (oi := ?dqr3q11) (v := ?dvr3q11) ?hir3q11 (by kernel_rfl) (by kernel_rfl) (by kernel_rfl) ?hQr3q11 (Or.inl ⟨?hwr3q11, ?hyr3q11⟩) hS ?hrr3q11
                  case hir3q11 => simp only [List.getElem?_toArray, List.getElem?_cons_succ, List.getElem?_cons_zero]; rfl
                  case hQr3q11 => exact fun _ _ _ h => h
                  case hwr3q11 => rfl
                  case hyr3q11 => (intro w hSw; (try dsimp only at hSw); go_simp; (try with_reducible rfl))
                  simp only [Act.put, List.setIfInBounds_toArray, List.set_cons_zero, List.set_cons_succ]
                  refine wpAnyH_take (i := 12) (oi := ?dqr3q12) (v := ?dvr3q12) ?hir3q12 (by kernel_rfl) (by kernel_rfl) (by kernel_rfl) ?hQr3q12 (Or.inl ⟨?hwr3q12, ?hyr3q12⟩) hS ?hrr3q12
                  case hir3q12 => simp only [List.getElem?_toArray, List.getElem?_cons_succ, List.getElem?_cons_zero]; rfl
                  case hQr3q12 => exact fun _ _ _ h => h
                  case hwr3q12 => rfl
                  case hyr3q12 => (intro w hSw; (try dsimp only at hSw); go_simp; (try with_reducible rfl))
                  simp only [Act.put, List.setIfInBounds_toArray, List.set_cons_zero, List.set_cons_succ]
                  refine wpAnyH_take (i := 13) (oi := ?dqr3q13) (v := ?dvr3q13) ?hir3q13 (by kernel_rfl) (by kernel_rfl) (by kernel_rfl) ?hQr3q13 (Or.inl ⟨?hwr3q13, ?hyr3q13⟩) hS ?hrr3q13
                  case hir3q13 => simp only [List.getElem?_toArray, List.getElem?_cons_succ, List.getElem?_cons_zero]; rfl
                  case hQr3q13 => exact fun _ _ _ h => h
                  case hwr3q13 => rfl
                  case hyr3q13 => (intro w hSw; (try dsimp only at hSw); go_simp; (try with_reducible rfl))
                  simp only [Act.put, List.setIfInBounds_toArray, List.set_cons_zero, List.set_cons_succ]
                  refine wpAnyH_take (i := 14) (oi := ?dqr3q14) (v := ?dvr3q14) ?hir3q14 (by kernel_rfl) (by kernel_rfl) (by kernel_rfl) ?hQr3q14 (Or.inl ⟨?hwr3q14, ?hyr3q14⟩) hS ?hrr3q14
                  case hir3q14 => simp only [List.getElem?_toArray, List.getElem?_cons_succ, List.getElem?_cons_zero]; rfl
                  case hQr3q14 => exact fun _ _ _ h => h
                  case hwr3q14 => rfl
                  case hyr3q14 => (intro w hSw; (try dsimp only at hSw); go_simp; (try with_reducible rfl))
                  simp only [Act.put, List.setIfInBounds_toArray, List.set_cons_zero, List.set_cons_succ]
                  refine wpAnyH_take (i := 15) (oi := ?dqr3q15) (v := ?dvr3q15) ?hir3q15 (by kernel_rfl) (by kernel_rfl) (by kernel_rfl) ?hQr3q15 (Or.inl ⟨?hwr3q15, ?hyr3q15⟩) hS ?hrr3q15
                  case hir3q15 => simp only [List.getElem?_toArray, List.getElem?_cons_succ, List.getElem?_cons_zero]; rfl
                  case hQr3q15 => exact fun _ _ _ h => h
                  case hwr3q15 => rfl
                  case hyr3q15 => (intro w hSw; (try dsimp only at hSw); go_simp; (try with_reducible rfl))
                  simp only [Act.put, List.setIfInBounds_toArray, List.set_cons_zero, List.set_cons_succ]
                  refine wpAnyH_take (i := 16) (oi := ?dqr3q16) (v := ?dvr3q16) ?hir3q16 (by kernel_rfl) (by kernel_rfl) (by kernel_rfl) ?hQr3q16 (Or.inl ⟨?hwr3q16, ?hyr3q16⟩) hS ?hrr3q16
                  case hir3q16 => simp only [List.getElem?_toArray, List.getElem?_cons_succ, List.getElem?_cons_zero]; rfl
                  case hQr3q16 => exact fun _ _ _ h => h
                  case hwr3q16 => rfl
                  case hyr3q16 => (intro w hSw; (try dsimp only at hSw); go_simp; (try with_reducible rfl))
                  simp only [Act.put, List.setIfInBounds_toArray, List.set_cons_zero, List.set_cons_succ]
                  refine wpAnyH_take (i := 17) (oi := ?dqr3q17) (v := ?dvr3q17) ?hir3q17 (by kernel_rfl) (by kernel_rfl) (by kernel_rfl) ?hQr3q17 (Or.inl ⟨?hwr3q17, ?hyr3q17⟩) hS ?hrr3q17
                  case hir3q17 => simp only [List.getElem?_toArray, List.getElem?_cons_succ, List.getElem?_cons_zero]; rfl
                  case hQr3q17 => exact fun _ _ _ h => h
                  case hwr3q17 => rfl
                  case hyr3q17 => (intro w hSw; (try dsimp only at hSw); go_simp; (try with_reducible rfl))
                  simp only [Act.put, List.setIfInBounds_toArray, List.set_cons_zero, List.set_cons_succ]
                  refine wpAnyH_take (i := 18) (oi := ?dqr3q18) (v := ?dvr3q18) ?hir3q18 (by kernel_rfl) (by kernel_rfl) (by kernel_rfl) ?hQr3q18 (Or.inl ⟨?hwr3q18, ?hyr3q18⟩) hS ?hrr3q18
                  case hir3q18 => simp only [List.getElem?_toArray, List.getElem?_cons_succ, List.getElem?_cons_zero]; rfl
                  case hQr3q18 => exact fun _ _ _ h => h
                  case hwr3q18 => rfl
                  case hyr3q18 => (intro w hSw; (try dsimp only at hSw); go_simp; (try with_reducible rfl))
                  simp only [Act.put, List.setIfInBounds_toArray, List.set_cons_zero, List.set_cons_succ]
                  refine wpAnyH_take (i := 19) (oi := ?dqr3q19) (v := ?dvr3q19) ?hir3q19 (by kernel_rfl) (by kernel_rfl) (by kernel_rfl) ?hQr3q19 (Or.inl ⟨?hwr3q19, ?hyr3q19⟩) hS ?hrr3q19
                  case hir3q19 => simp only [List.getElem?_toArray, List.getElem?_cons_succ, List.getElem?_cons_zero]; rfl
                  case hQr3q19 => exact fun _ _ _ h => h
                  case hwr3q19 => rfl
                  case hyr3q19 => (intro w hSw; (try dsimp only at hSw); go_simp; (try with_reducible rfl))
                  simp only [Act.put, List.setIfInBounds_toArray, List.set_cons_zero, List.set_cons_succ]
                  refine wpAnyH_take (i := 20) (oi := ?dqr3q20) (v := undef) ?hir3q20 (by kernel_rfl) (by kernel_rfl) (by kernel_rfl) ?hQr3q20 (Or.inr ⟨?hwr3q20, rfl⟩) hS ?hrr3q20
                  case hir3q20 => simp only [List.getElem?_toArray, List.getElem?_cons_succ, List.getElem?_cons_zero]; rfl
                  case hQr3q20 => exact fun _ _ _ h => h
                  case hwr3q20 => rfl
                  simp only [Act.put, List.setIfInBounds_toArray, List.set_cons_zero, List.set_cons_succ]
                  refine wpAnyH_take (i := 21) (oi := ?dqr3q21) (v := undef) ?hir3q21 (by kernel_rfl) (by kernel_rfl) (by kernel_rfl) ?hQr3q21 (Or.inr ⟨?hwr3q21, rfl⟩) hS ?hrr3q21
                  case hir3q21 => simp only [List.getElem?_toArray, List.getElem?_cons_succ, List.getElem?_cons_zero]; rfl
                  case hQr3q21 => exact fun _ _ _ h => h
                  case hwr3q21 => rfl
                  simp only [Act.put, List.setIfInBounds_toArray, List.set_cons_zero, List.set_cons_succ]
                  refine wpAnyH_take (i := 22) (oi := ?dqr3q22) (v := undef) ?hir3q22 (by kernel_rfl) (by kernel_rfl) (by kernel_rfl) ?hQr3q22 (Or.inr ⟨?hwr3q22, rfl⟩) hS ?hrr3q22
                  case hir3q22 => simp only [List.getElem?_toArray, List.getElem?_cons_succ, List.getElem?_cons_zero]; rfl
                  case hQr3q22 => exact fun _ _ _ h => h
                  case hwr3q22 => rfl
                  simp only [Act.put, List.setIfInBounds_toArray, List.set_cons_zero, List.set_cons_succ]
                  refine wpAnyH_take (i := 23) (oi := ?dqr3q23) (v := undef) ?hir3q23 (by kernel_rfl) (by kernel_rfl) (by kernel_rfl) ?hQr3q23 (Or.inr ⟨?hwr3q23, rfl⟩) hS ?hrr3q23
                  case hir3q23 => simp only [List.getElem?_toArray, List.getElem?_cons_succ, List.getElem?_cons_zero]; rfl
                  case hQr3q23 => exact fun _ _ _ h => h
                  case hwr3q23 => rfl
                  simp only [Act.put, List.setIfInBounds_toArray, List.set_cons_zero, List.set_cons_succ]
                  refine wpAnyH_take (i := 24) (oi := ?dqr3q24) (v := undef) ?hir3q24 (by kernel_rfl) (by kernel_rfl) (by kernel_rfl) ?hQr3q24 (Or.inr ⟨?hwr3q24, rfl⟩) hS ?hrr3q24
                  case hir3q24 => simp only [List.getElem?_toArray, List.getElem?_cons_succ, List.getElem?_cons_zero]; rfl
                  case hQr3q24 => exact fun _ _ _ h => h
                  case hwr3q24 => rfl
                  simp only [Act.put, List.setIfInBounds_toArray, List.set_cons_zero, List.set_cons_succ]
                  refine wpAnyH_take (i := 25) (oi := ?dqr3q25) (v := undef) ?hir3q25 (by kernel_rfl) (by kernel_rfl) (by kernel_rfl) ?hQr3q25 (Or.inr ⟨?hwr3q25, rfl⟩) hS ?hrr3q25
                  case hir3q25 => simp only [List.getElem?_toArray, List.getElem?_cons_succ, List.getElem?_cons_zero]; rfl
                  case hQr3q25 => exact fun _ _ _ h => h
                  case hwr3q25 => rfl
                  simp only [Act.put, List.setIfInBounds_toArray, List.set_cons_zero, List.set_cons_succ]
                  refine wpAnyH_take (i := 26) (oi := ?dqr3q26) (v := undef) ?hir3q26 (by kernel_rfl) (by kernel_rfl) (by kernel_rfl) ?hQr3q26 (Or.inr ⟨?hwr3q26, rfl⟩) hS ?hrr3q26
                  case hir3q26 => simp only [List.getElem?_toArray, List.getElem?_cons_succ, List.getElem?_cons_zero]; rfl
                  case hQr3q26 => exact fun _ _ _ h => h
                  case hwr3q26 => rfl
                  simp only [Act.put, List.setIfInBounds_toArray, List.set_cons_zero, List.set_cons_succ]
                  refine wpAnyH_take (i := 27) (oi := ?dqr3q27) (v := ?dvr3q27) ?hir3q27 (by kernel_rfl) (by kernel_rfl) (by kernel_rfl) ?hQr3q27 (Or.inl ⟨?hwr3q27, ?hyr3q27⟩) hS ?hrr3q27
                  case hir3q27 => simp only [List.getElem?_toArray, List.getElem?_cons_succ, List.getElem?_cons_zero]; rfl
                  case hQr3q27 => exact fun _ _ _ h => h
                  case hwr3q27 => rfl
                  case hyr3q27 => (intro w hSw; (try dsimp only at hSw); go_simp; (try with_reducible rfl))
                  simp only [Act.put, List.setIfInBounds_toArray, List.set_cons_zero, List.set_cons_succ]
                  refine wpAnyH_take (i := 28) (oi := ?dqr3q28) (v := ?dvr3q28) ?hir3q28 (by kernel_rfl) (by kernel_rfl) (by kernel_rfl) ?hQr3q28 (Or.inl ⟨?hwr3q28, ?hyr3q28⟩) hS ?hrr3q28
                  case hir3q28 => simp only [List.getElem?_toArray, List.getElem?_cons_succ, List.getElem?_cons_zero]; rfl
                  case hQr3q28 => exact fun _ _ _ h => h
                  case hwr3q28 => rfl
                  case hyr3q28 => (intro w hSw; (try dsimp only at hSw); go_simp; (try with_reducible rfl))
                  simp only [Act.put, List.setIfInBounds_toArray, List.set_cons_zero, List.set_cons_succ]
                  refine wpAnyH_done (by kernel_rfl) ?_ _
                  clear q0 q1 q2 q3
                  obtain ⟨_, _, _, _, hb⟩ := hS
                  have b3 := Lib.hid hb
                  clear hb
                  go_wp2
                  go_roundw
                  case rel => exact ⟨b + 1, by omega, by omega, by first | rfl | go_num, by rw [hc1.out], bw.out.trans (b3.out.mono bw.out.size)⟩
                  case measure => simp [intOf]; omega
            · by_cases kl : -4611686018427387904 < key.toInt
              · have d0 : decide (0 ≤ key.toInt) = false := decide_eq_false (by omega)
                have d3 : decide (-4611686018427387904 < key.toInt) = true := decide_eq_true (by omega)
                have d4 : decide (key.toInt < 4611686018427387904) = true := decide_eq_true (by omega)
                have hfit : -9223372036854775808 ≤ key.toInt + (N : Int) ∧ key.toInt + (N : Int) ≤ 9223372036854775807 := by omega
                obtain ⟨k2, ek2⟩ : ∃ k2 : BitVec 64, k2.toInt = key.toInt + (N : Int) := ⟨BitVec.ofInt 64 (key.toInt + (N : Int)), by rw [BitVec.toInt_ofInt]; exact Int.bmod_eq_of_le (by omega) (by omega)⟩
                have htk2 : takes (modP nb bb) (k2, 0#64) = true := by rw [htak'.out]; exact decide_eq_true (by show k2.toInt % (N : Int) = b; rw [ek2, Int.add_emod_right]; exact hkb.out)
                have pr2 := Lib.hid (fun W => pair6_any k2 W)
                have tk2 := Lib.hid (fun W => takes_l (p := modP nb bb) (x := (k2, 0#64)) (t := true) htk2 hv.out rfl W)
                have hw : IntKind.i64.wrap (key.toInt + (N : Int)) = k2.toInt := by rw [IntWalk.i64_in _ hfit, ek2]
                clear hfit ek2 htk2 hk hk'
                refine wp_region_held_drew (S := fun w' => w'.cell? ⟨wr.heap.size, 0, none⟩ = some (.int .u8 4) ∧ w'.cell? ⟨wr.heap.size, 1, none⟩ = some (.int .i64 (N : Int)) ∧ w'.cell? ⟨wr.heap.size, 2, none⟩ = some (.int .i64 b) ∧ w'.cell? ⟨wr.heap.size, 3, none⟩ = some (.bool false) ∧ Below wr.heap.size wr w') (by kernel_rfl) ⟨q0, q1, q2, q3, b2.out.drew⟩ (fun hS => ?_)
                refine wpAnyH_take (i := 0) (oi := ?dqr4q0) (v := ?dvr4q0) ?hir4q0 (by kernel_rfl) (by kernel_rfl) (by kernel_rfl) ?hQr4q0 (Or.inl ⟨?hwr4q0, ?hyr4q0⟩) hS ?hrr4q0
                case hir4q0 => simp only [List.getElem?_toArray, List.getElem?_cons_zero]; rfl
                case hQr4q0 => exact fun _ _ _ h => h
                case hwr4q0 => rfl
                case hyr4q0 => (intro w hSw; (try dsimp only at hSw); go_simp; (try with_reducible rfl))
                simp only [Act.put, List.setIfInBounds_toArray, List.set_cons_zero, List.set_cons_succ]
                refine wpAnyH_take (i := 1) (oi := ?dqr4q1) (v := ?dvr4q1) ?hir4q1 (by kernel_rfl) (by kernel_rfl) (by kernel_rfl) ?hQr4q1 (Or.inl ⟨?hwr4q1, ?hyr4q1⟩) hS ?hrr4q1
                case hir4q1 => simp only [List.getElem?_toArray, List.getElem?_cons_succ, List.getElem?_cons_zero]; rfl
                case hQr4q1 => exact fun _ _ _ h => h
                case hwr4q1 => rfl
                case hyr4q1 => (intro w hSw; (try dsimp only at hSw); go_simp; (try with_reducible rfl))
                simp only [Act.put, List.setIfInBounds_toArray, List.set_cons_zero, List.set_cons_succ]
                refine wpAnyH_take (i := 2) (oi := ?dqr4q2) (v := ?dvr4q2) ?hir4q2 (by kernel_rfl) (by kernel_rfl) (by kernel_rfl) ?hQr4q2 (Or.inl ⟨?hwr4q2, ?hyr4q2⟩) hS ?hrr4q2
                case hir4q2 => simp only [List.getElem?_toArray, List.getElem?_cons_succ, List.getElem?_cons_zero]; rfl
                case hQr4q2 => exact fun _ _ _ h => h
                case hwr4q2 => rfl
                case hyr4q2 => (intro w hSw; (try dsimp only at hSw); go_simp; (try with_reducible rfl))
                simp only [Act.put, List.setIfInBounds_toArray, List.set_cons_zero, List.set_cons_succ]
                refine wpAnyH_take (i := 3) (oi := ?dqr4q3) (v := undef) ?hir4q3 (by kernel_rfl) (by kernel_rfl) (by kernel_rfl) ?hQr4q3 (Or.inr ⟨?hwr4q3, rfl⟩) hS ?hrr4q3
                case hir4q3 => simp only [List.getElem?_toArray, List.getElem?_cons_succ, List.getElem?_cons_zero]; rfl
                case hQr4q3 => exact fun _ _ _ h => h
                case hwr4q3 => rfl
                simp only [Act.put, List.setIfInBounds_toArray, List.set_cons_zero, List.set_cons_succ]
                refine wpAnyH_take (i := 4) (oi := ?dqr4q4) (v := undef) ?hir4q4 (by kernel_rfl) (by kernel_rfl) (by kernel_rfl) ?hQr4q4 (Or.inr ⟨?hwr4q4, rfl⟩) hS ?hrr4q4
                case hir4q4 => simp only [List.getElem?_toArray, List.getElem?_cons_succ, List.getElem?_cons_zero]; rfl
                case hQr4q4 => exact fun _ _ _ h => h
                case hwr4q4 => rfl
                simp only [Act.put, List.setIfInBounds_toArray, List.set_cons_zero, List.set_cons_succ]
                refine wpAnyH_take (i := 5) (oi := ?dqr4q5) (v := undef) ?hir4q5 (by kernel_rfl) (by kernel_rfl) (by kernel_rfl) ?hQr4q5 (Or.inr ⟨?hwr4q5, rfl⟩) hS ?hrr4q5
                case hir4q5 => simp only [List.getElem?_toArray, List.getElem?_cons_succ, List.getElem?_cons_zero]; rfl
                case hQr4q5 => exact fun _ _ _ h => h
                case hwr4q5 => rfl
                simp only [Act.put, List.setIfInBounds_toArray, List.set_cons_zero, List.set_cons_succ]
                refine wpAnyH_take (i := 6) (oi := ?dqr4q6) (v := ?dvr4q6) ?hir4q6 (by kernel_rfl) (by kernel_rfl) (by kernel_rfl) ?hQr4q6 (Or.inl ⟨?hwr4q6, ?hyr4q6⟩) hS ?hrr4q6
                case hir4q6 => simp only [List.getElem?_toArray, List.getElem?_cons_succ, List.getElem?_cons_zero]; rfl
                case hQr4q6 => exact fun _ _ _ h => h
                case hwr4q6 => rfl
                case hyr4q6 => (intro w hSw; (try dsimp only at hSw); go_simp; (try with_reducible rfl))
                simp only [Act.put, List.setIfInBounds_toArray, List.set_cons_zero, List.set_cons_succ]
                refine wpAnyH_take (i := 7) (oi := ?dqr4q7) (v := ?dvr4q7) ?hir4q7 (by kernel_rfl) (by kernel_rfl) (by kernel_rfl) ?hQr4q7 (Or.inl ⟨?hwr4q7, ?hyr4q7⟩) hS ?hrr4q7
                case hir4q7 => simp only [List.getElem?_toArray, List.getElem?_cons_succ, List.getElem?_cons_zero]; rfl
                case hQr4q7 => exact fun _ _ _ h => h
                case hwr4q7 => rfl
                case hyr4q7 => (intro w hSw; (try dsimp only at hSw); go_simp; (try with_reducible rfl))
                simp only [Act.put, List.setIfInBounds_toArray, List.set_cons_zero, List.set_cons_succ]
                refine wpAnyH_take (i := 8) (oi := ?dqr4q8) (v := undef) ?hir4q8 (by kernel_rfl) (by kernel_rfl) (by kernel_rfl) ?hQr4q8 (Or.inr ⟨?hwr4q8, rfl⟩) hS ?hrr4q8
                case hir4q8 => simp only [List.getElem?_toArray, List.getElem?_cons_succ, List.getElem?_cons_zero]; rfl
                case hQr4q8 => exact fun _ _ _ h => h
                case hwr4q8 => rfl
                simp only [Act.put, List.setIfInBounds_toArray, List.set_cons_zero, List.set_cons_succ]
                refine wpAnyH_take (i := 9) (oi := ?dqr4q9) (v := undef) ?hir4q9 (by kernel_rfl) (by kernel_rfl) (by kernel_rfl) ?hQr4q9 (Or.inr ⟨?hwr4q9, rfl⟩) hS ?hrr4q9
                case hir4q9 => simp only [List.getElem?_toArray, List.getElem?_cons_succ, List.getElem?_cons_zero]; rfl
                case hQr4q9 => exact fun _ _ _ h => h
                case hwr4q9 => rfl
                simp only [Act.put, List.setIfInBounds_toArray, List.set_cons_zero, List.set_cons_succ]
                refine wpAnyH_take (i := 10) (oi := ?dqr4q10) (v := undef) ?hir4q10 (by kernel_rfl) (by kernel_rfl) (by kernel_rfl) ?hQr4q10 (Or.inr ⟨?hwr4q10, rfl⟩) hS ?hrr4q10
                case hir4q10 => simp only [List.getElem?_toArray, List.getElem?_cons_succ, List.getElem?_cons_zero]; rfl
                case hQr4q10 => exact fun _ _ _ h => h
                case hwr4q10 => rfl
                simp only [Act.put, List.setIfInBounds_toArray, List.set_cons_zero, List.set_cons_succ]
                refine wpAnyH_take (i := 11) (oi := ?dqr4q11) (v := ?dvr4q11) ?hir4q11 (by kernel_rfl) (by kernel_rfl) (by kernel_rfl) ?hQr4q11 (Or.inl ⟨?hwr4q11, ?hyr4q11⟩) hS ?hrr4q11
                case hir4q11 => simp only [List.getElem?_toArray, List.getElem?_cons_succ, List.getElem?_cons_zero]; rfl
                case hQr4q11 => exact fun _ _ _ h => h
                case hwr4q11 => rfl
                case hyr4q11 => (intro w hSw; (try dsimp only at hSw); go_simp; (try with_reducible rfl))
                simp only [Act.put, List.setIfInBounds_toArray, List.set_cons_zero, List.set_cons_succ]
                refine wpAnyH_take (i := 12) (oi := ?dqr4q12) (v := ?dvr4q12) ?hir4q12 (by kernel_rfl) (by kernel_rfl) (by kernel_rfl) ?hQr4q12 (Or.inl ⟨?hwr4q12, ?hyr4q12⟩) hS ?hrr4q12
                case hir4q12 => simp only [List.getElem?_toArray, List.getElem?_cons_succ, List.getElem?_cons_zero]; rfl
                case hQr4q12 => exact fun _ _ _ h => h
                case hwr4q12 => rfl
                case hyr4q12 => (intro w hSw; (try dsimp only at hSw); go_simp; (try with_reducible rfl))
                simp only [Act.put, List.setIfInBounds_toArray, List.set_cons_zero, List.set_cons_succ]
                refine wpAnyH_take (i := 13) (oi := ?dqr4q13) (v := ?dvr4q13) ?hir4q13 (by kernel_rfl) (by kernel_rfl) (by kernel_rfl) ?hQr4q13 (Or.inl ⟨?hwr4q13, ?hyr4q13⟩) hS ?hrr4q13
                case hir4q13 => simp only [List.getElem?_toArray, List.getElem?_cons_succ, List.getElem?_cons_zero]; rfl
                case hQr4q13 => exact fun _ _ _ h => h
                case hwr4q13 => rfl
                case hyr4q13 => (intro w hSw; (try dsimp only at hSw); go_simp; (try with_reducible rfl))
                simp only [Act.put, List.setIfInBounds_toArray, List.set_cons_zero, List.set_cons_succ]
                refine wpAnyH_take (i := 14) (oi := ?dqr4q14) (v := ?dvr4q14) ?hir4q14 (by kernel_rfl) (by kernel_rfl) (by kernel_rfl) ?hQr4q14 (Or.inl ⟨?hwr4q14, ?hyr4q14⟩) hS ?hrr4q14
                case hir4q14 => simp only [List.getElem?_toArray, List.getElem?_cons_succ, List.getElem?_cons_zero]; rfl
                case hQr4q14 => exact fun _ _ _ h => h
                case hwr4q14 => rfl
                case hyr4q14 => (intro w hSw; (try dsimp only at hSw); go_simp; (try with_reducible rfl))
                simp only [Act.put, List.setIfInBounds_toArray, List.set_cons_zero, List.set_cons_succ]
                refine wpAnyH_take (i := 15) (oi := ?dqr4q15) (v := ?dvr4q15) ?hir4q15 (by kernel_rfl) (by kernel_rfl) (by kernel_rfl) ?hQr4q15 (Or.inl ⟨?hwr4q15, ?hyr4q15⟩) hS ?hrr4q15
                case hir4q15 => simp only [List.getElem?_toArray, List.getElem?_cons_succ, List.getElem?_cons_zero]; rfl
                case hQr4q15 => exact fun _ _ _ h => h
                case hwr4q15 => rfl
                case hyr4q15 => (intro w hSw; (try dsimp only at hSw); go_simp; (try with_reducible rfl))
                simp only [Act.put, List.setIfInBounds_toArray, List.set_cons_zero, List.set_cons_succ]
                refine wpAnyH_take (i := 16) (oi := ?dqr4q16) (v := ?dvr4q16) ?hir4q16 (by kernel_rfl) (by kernel_rfl) (by kernel_rfl) ?hQr4q16 (Or.inl ⟨?hwr4q16, ?hyr4q16⟩) hS ?hrr4q16
                case hir4q16 => simp only [List.getElem?_toArray, List.getElem?_cons_succ, List.getElem?_cons_zero]; rfl
                case hQr4q16 => exact fun _ _ _ h => h
                case hwr4q16 => rfl
                case hyr4q16 => (intro w hSw; (try dsimp only at hSw); go_simp; (try with_reducible rfl))
                simp only [Act.put, List.setIfInBounds_toArray, List.set_cons_zero, List.set_cons_succ]
                refine wpAnyH_take (i := 17) (oi := ?dqr4q17) (v := ?dvr4q17) ?hir4q17 (by kernel_rfl) (by kernel_rfl) (by kernel_rfl) ?hQr4q17 (Or.inl ⟨?hwr4q17, ?hyr4q17⟩) hS ?hrr4q17
                case hir4q17 => simp only [List.getElem?_toArray, List.getElem?_cons_succ, List.getElem?_cons_zero]; rfl
                case hQr4q17 => exact fun _ _ _ h => h
                case hwr4q17 => rfl
                case hyr4q17 => (intro w hSw; (try dsimp only at hSw); go_simp; (try with_reducible rfl))
                simp only [Act.put, List.setIfInBounds_toArray, List.set_cons_zero, List.set_cons_succ]
                refine wpAnyH_take (i := 18) (oi := ?dqr4q18) (v := ?dvr4q18) ?hir4q18 (by kernel_rfl) (by kernel_rfl) (by kernel_rfl) ?hQr4q18 (Or.inl ⟨?hwr4q18, ?hyr4q18⟩) hS ?hrr4q18
                case hir4q18 => simp only [List.getElem?_toArray, List.getElem?_cons_succ, List.getElem?_cons_zero]; rfl
                case hQr4q18 => exact fun _ _ _ h => h
                case hwr4q18 => rfl
                case hyr4q18 => (intro w hSw; (try dsimp only at hSw); go_simp; (try with_reducible rfl))
                simp only [Act.put, List.setIfInBounds_toArray, List.set_cons_zero, List.set_cons_succ]
                refine wpAnyH_take (i := 19) (oi := ?dqr4q19) (v := ?dvr4q19) ?hir4q19 (by kernel_rfl) (by kernel_rfl) (by kernel_rfl) ?hQr4q19 (Or.inl ⟨?hwr4q19, ?hyr4q19⟩) hS ?hrr4q19
                case hir4q19 => simp only [List.getElem?_toArray, List.getElem?_cons_succ, List.getElem?_cons_zero]; rfl
                case hQr4q19 => exact fun _ _ _ h => h
                case hwr4q19 => rfl
                case hyr4q19 => (intro w hSw; (try dsimp only at hSw); go_simp; (try with_reducible rfl))
                simp only [Act.put, List.setIfInBounds_toArray, List.set_cons_zero, List.set_cons_succ]
                refine wpAnyH_take (i := 20) (oi := ?dqr4q20) (v := ?dvr4q20) ?hir4q20 (by kernel_rfl) (by kernel_rfl) (by kernel_rfl) ?hQr4q20 (Or.inl ⟨?hwr4q20, ?hyr4q20⟩) hS ?hrr4q20
                case hir4q20 => simp only [List.getElem?_toArray, List.getElem?_cons_succ, List.getElem?_cons_zero]; rfl
                case hQr4q20 => exact fun _ _ _ h => h
                case hwr4q20 => rfl
                case hyr4q20 => (intro w hSw; (try dsimp only at hSw); go_simp; (try with_reducible rfl))
                simp only [Act.put, List.setIfInBounds_toArray, List.set_cons_zero, List.set_cons_succ]
                refine wpAnyH_take (i := 21) (oi := ?dqr4q21) (v := ?dvr4q21) ?hir4q21 (by kernel_rfl) (by kernel_rfl) (by kernel_rfl) ?hQr4q21 (Or.inl ⟨?hwr4q21, ?hyr4q21⟩) hS ?hrr4q21
                case hir4q21 => simp only [List.getElem?_toArray, List.getElem?_cons_succ, List.getElem?_cons_zero]; rfl
                case hQr4q21 => exact fun _ _ _ h => h
                case hwr4q21 => rfl
                case hyr4q21 => (intro w hSw; (try dsimp only at hSw); go_simp; (try with_reducible rfl))
                simp only [Act.put, List.setIfInBounds_toArray, List.set_cons_zero, List.set_cons_succ]
                refine wpAnyH_take (i := 22) (oi := ?dqr4q22) (v := ?dvr4q22) ?hir4q22 (by kernel_rfl) (by kernel_rfl) (by kernel_rfl) ?hQr4q22 (Or.inl ⟨?hwr4q22, ?hyr4q22⟩) hS ?hrr4q22
                case hir4q22 => simp only [List.getElem?_toArray, List.getElem?_cons_succ, List.getElem?_cons_zero]; rfl
                case hQr4q22 => exact fun _ _ _ h => h
                case hwr4q22 => rfl
                case hyr4q22 => (intro w hSw; (try dsimp only at hSw); go_simp; (try with_reducible rfl))
                simp only [Act.put, List.setIfInBounds_toArray, List.set_cons_zero, List.set_cons_succ]
                refine wpAnyH_take (i := 23) (oi := ?dqr4q23) (v := ?dvr4q23) ?hir4q23 (by kernel_rfl) (by kernel_rfl) (by kernel_rfl) ?hQr4q23 (Or.inl ⟨?hwr4q23, ?hyr4q23⟩) hS ?hrr4q23
                case hir4q23 => simp only [List.getElem?_toArray, List.getElem?_cons_succ, List.getElem?_cons_zero]; rfl
                case hQr4q23 => exact fun _ _ _ h => h
                case hwr4q23 => rfl
                case hyr4q23 => (intro w hSw; (try dsimp only at hSw); go_simp; (try with_reducible rfl))
                simp only [Act.put, List.setIfInBounds_toArray, List.set_cons_zero, List.set_cons_succ]
                refine wpAnyH_ready (rs := [24]) (by kernel_rfl) (by simp) ?_
                refine AllReadyH.cons (o := ?dqr4q24) ?hir4q24 (fun K hK => ?_) AllReadyH.nil
                case hir4q24 => simp only [List.getElem?_toArray, List.getElem?_cons_succ, List.getElem?_cons_zero]; rfl
                go_simp
                go_at_call 17
                refine (pr2.out _).mono ?_
                rintro e w' ⟨rfl, hb⟩
                have hS2 := s4m_next (w := wr) hS hb
                clear hS
                refine hK.out _ _ hS2 (fun hS => ?_)
                clear hS2 hK K
                try simp only [Act.put, List.setIfInBounds_toArray, List.set_cons_zero, List.set_cons_succ]
                refine wpAnyH_ready (rs := [25]) (by kernel_rfl) (by simp) ?_
                refine AllReadyH.cons (o := ?dqr4q25) ?hir4q25 (fun K hK => ?_) AllReadyH.nil
                case hir4q25 => simp only [List.getElem?_toArray, List.getElem?_cons_succ, List.getElem?_cons_zero]; rfl
                go_simp
                go_at_call 12
                refine (tk2.out _).mono ?_
                rintro e w' ⟨rfl, hb⟩
                have hS2 := s4m_next (w := wr) hS hb
                clear hS
                refine hK.out _ _ hS2 (fun hS => ?_)
                clear hS2 hK K
                try simp only [Act.put, List.setIfInBounds_toArray, List.set_cons_zero, List.set_cons_succ]
                refine wpAnyH_take (i := 26) (oi := ?dqr4q26) (v := ?dvr4q26) ?hir4q26 (by kernel_rfl) (by kernel_rfl) (by kernel_rfl) ?hQr4q26 (Or.inl ⟨?hwr4q26, ?hyr4q26⟩) hS ?hrr4q26
                case hir4q26 => simp only [List.getElem?_toArray, List.getElem?_cons_succ, List.getElem?_cons_zero]; rfl
                case hQr4q26 => exact fun _ _ _ h => h
                case hwr4q26 => rfl
                case hyr4q26 => (intro w hSw; (try dsimp only at hSw); go_simp; (try with_reducible rfl))
                simp only [Act.put, List.setIfInBounds_toArray, List.set_cons_zero, List.set_cons_succ]
                refine wpAnyH_take (i := 27) (oi := ?dqr4q27) (v := ?dvr4q27) ?hir4q27 (by kernel_rfl) (by kernel_rfl) (by kernel_rfl) ?hQr4q27 (Or.inl ⟨?hwr4q27, ?hyr4q27⟩) hS ?hrr4q27
                case hir4q27 => simp only [List.getElem?_toArray, List.getElem?_cons_succ, List.getElem?_cons_zero]; rfl
                case hQr4q27 => exact fun _ _ _ h => h
                case hwr4q27 => rfl
                case hyr4q27 => (intro w hSw; (try dsimp only at hSw); go_simp; (try with_reducible rfl))
                simp only [Act.put, List.setIfInBounds_toArray, List.set_cons_zero, List.set_cons_succ]
                refine wpAnyH_take (i := 28) (oi := ?dqr4q28) (v := ?dvr4q28) ?hir4q28 (by kernel_rfl) (by kernel_rfl) (by kernel_rfl) ?hQr4q28 (Or.inl ⟨?hwr4q28, ?hyr4q28⟩) hS ?hrr4q28
                case hir4q28 => simp only [List.getElem?_toArray, List.getElem?_cons_succ, List.getElem?_cons_zero]; rfl
                case hQr4q28 => exact fun _ _ _ h => h
                case hwr4q28 => rfl
                case hyr4q28 => (intro w hSw; (try dsimp only at hSw); go_simp; (try with_reducible rfl))
                simp only [Act.put, List.setIfInBounds_toArray, List.set_cons_zero, List.set_cons_succ]
                refine wpAnyH_done (by kernel_rfl) ?_ _
                clear q0 q1 q2 q3 hw
                obtain ⟨_, _, _, _, hb⟩ := hS
                have b3 := Lib.hid hb
                clear hb
                go_wp2
                go_roundw
                case rel => exact ⟨b + 1, by omega, by omega, by first | rfl | go_num, by rw [hc1.out], bw.out.trans (b3.out.mono bw.out.size)⟩
                case measure => simp [intOf]; omega
              · have d0 : decide (0 ≤ key.toInt) = false := decide_eq_false (by omega)
                have d3 : decide (-4611686018427387904 < key.toInt) = false := decide_eq_false (by omega)
                clear hk hk'
                refine wp_region_held_drew (S := fun w' => w'.cell? ⟨wr.heap.size, 0, none⟩ = some (.int .u8 4) ∧ w'.cell? ⟨wr.heap.size, 1, none⟩ = some (.int .i64 (N : Int)) ∧ w'.cell? ⟨wr.heap.size, 2, none⟩ = some (.int .i64 b) ∧ w'.cell? ⟨wr.heap.size, 3, none⟩ = some (.bool false) ∧ Below wr.heap.size wr w') (by kernel_rfl) ⟨q0, q1, q2, q3, b2.out.drew⟩ (fun hS => ?_)
                refine wpAnyH_take (i := 0) (oi := ?dqr5q0) (v := ?dvr5q0) ?hir5q0 (by kernel_rfl) (by kernel_rfl) (by kernel_rfl) ?hQr5q0 (Or.inl ⟨?hwr5q0, ?hyr5q0⟩) hS ?hrr5q0
                case hir5q0 => simp only [List.getElem?_toArray, List.getElem?_cons_zero]; rfl
                case hQr5q0 => exact fun _ _ _ h => h
                case hwr5q0 => rfl
                case hyr5q0 => (intro w hSw; (try dsimp only at hSw); go_simp; (try with_reducible rfl))
                simp only [Act.put, List.setIfInBounds_toArray, List.set_cons_zero, List.set_cons_succ]
                refine wpAnyH_take (i := 1) (oi := ?dqr5q1) (v := ?dvr5q1) ?hir5q1 (by kernel_rfl) (by kernel_rfl) (by kernel_rfl) ?hQr5q1 (Or.inl ⟨?hwr5q1, ?hyr5q1⟩) hS ?hrr5q1
                case hir5q1 => simp only [List.getElem?_toArray, List.getElem?_cons_succ, List.getElem?_cons_zero]; rfl
                case hQr5q1 => exact fun _ _ _ h => h
                case hwr5q1 => rfl
                case hyr5q1 => (intro w hSw; (try dsimp only at hSw); go_simp; (try with_reducible rfl))
                simp only [Act.put, List.setIfInBounds_toArray, List.set_cons_zero, List.set_cons_succ]
                refine wpAnyH_take (i := 2) (oi := ?dqr5q2) (v := ?dvr5q2) ?hir5q2 (by kernel_rfl) (by kernel_rfl) (by kernel_rfl) ?hQr5q2 (Or.inl ⟨?hwr5q2, ?hyr5q2⟩) hS ?hrr5q2
                case hir5q2 => simp only [List.getElem?_toArray, List.getElem?_cons_succ, List.getElem?_cons_zero]; rfl
                case hQr5q2 => exact fun _ _ _ h => h
                case hwr5q2 => rfl
                case hyr5q2 => (intro w hSw; (try dsimp only at hSw); go_simp; (try with_reducible rfl))
                simp only [Act.put, List.setIfInBounds_toArray, List.set_cons_zero, List.set_cons_succ]
                refine wpAnyH_take (i := 3) (oi := ?dqr5q3) (v := undef) ?hir5q3 (by kernel_rfl) (by kernel_rfl) (by kernel_rfl) ?hQr5q3 (Or.inr ⟨?hwr5q3, rfl⟩) hS ?hrr5q3
                case hir5q3 => simp only [List.getElem?_toArray, List.getElem?_cons_succ, List.getElem?_cons_zero]; rfl
                case hQr5q3 => exact fun _ _ _ h => h
                case hwr5q3 => rfl
                simp only [Act.put, List.setIfInBounds_toArray, List.set_cons_zero, List.set_cons_succ]
                refine wpAnyH_take (i := 4) (oi := ?dqr5q4) (v := undef) ?hir5q4 (by kernel_rfl) (by kernel_rfl) (by kernel_rfl) ?hQr5q4 (Or.inr ⟨?hwr5q4, rfl⟩) hS ?hrr5q4
                case hir5q4 => simp only [List.getElem?_toArray, List.getElem?_cons_succ, List.getElem?_cons_zero]; rfl
                case hQr5q4 => exact fun _ _ _ h => h
                case hwr5q4 => rfl
                simp only [Act.put, List.setIfInBounds_toArray, List.set_cons_zero, List.set_cons_succ]
                refine wpAnyH_take (i := 5) (oi := ?dqr5q5) (v := undef) ?hir5q5 (by kernel_rfl) (by kernel_rfl) (by kernel_rfl) ?hQr5q5 (Or.inr ⟨?hwr5q5, rfl⟩) hS ?hrr5q5
                case hir5q5 => simp only [List.getElem?_toArray, List.getElem?_cons_succ, List.getElem?_cons_zero]; rfl
                case hQr5q5 => exact fun _ _ _ h => h
                case hwr5q5 => rfl
                simp only [Act.put, List.setIfInBounds_toArray, List.set_cons_zero, List.set_cons_succ]
                refine wpAnyH_take (i := 6) (oi := ?dqr5q6) (v := ?dvr5q6) ?hir5q6 (by kernel_rfl) (by kernel_rfl) (by kernel_rfl) ?hQr5q6 (Or.inl ⟨?hwr5q6, ?hyr5q6⟩) hS ?hrr5q6
                case hir5q6 => simp only [List.getElem?_toArray, List.getElem?_cons_succ, List.getElem?_cons_zero]; rfl
                case hQr5q6 => exact fun _ _ _ h => h
                case hwr5q6 => rfl
                case hyr5q6 => (intro w hSw; (try dsimp only at hSw); go_simp; (try with_reducible rfl))
                simp only [Act.put, List.setIfInBounds_toArray, List.set_cons_zero, List.set_cons_succ]
                refine wpAnyH_take (i := 7) (oi := ?dqr5q7) (v := ?dvr5q7) ?hir5q7 (by kernel_rfl) (by kernel_rfl) (by kernel_rfl) ?hQr5q7 (Or.inl ⟨?hwr5q7, ?hyr5q7⟩) hS ?hrr5q7
                case hir5q7 => simp only [List.getElem?_toArray, List.getElem?_cons_succ, List.getElem?_cons_zero]; rfl
                case hQr5q7 => exact fun _ _ _ h => h
                case hwr5q7 => rfl
                case hyr5q7 => (intro w hSw; (try dsimp only at hSw); go_simp; (try with_reducible rfl))
                simp only [Act.put, List.setIfInBounds_toArray, List.set_cons_zero, List.set_cons_succ]
                refine wpAnyH_take (i := 8) (oi := ?dqr5q8) (v := undef) ?hir5q8 (by kernel_rfl) (by kernel_rfl) (by kernel_rfl) ?hQr5q8 (Or.inr ⟨?hwr5q8, rfl⟩) hS ?hrr5q8
                case hir5q8 => simp only [List.getElem?_toArray, List.getElem?_cons_succ, List.getElem?_cons_zero]; rfl
                case hQr5q8 => exact fun _ _ _ h => h
                case hwr5q8 => rfl
                simp only [Act.put, List.setIfInBounds_toArray, List.set_cons_zero, List.set_cons_succ]
                refine wpAnyH_take (i := 9) (oi := ?dqr5q9) (v := undef) ?hir5q9 (by kernel_rfl) (by kernel_rfl) (by kernel_rfl) ?hQr5q9 (Or.inr ⟨?hwr5q9, rfl⟩) hS ?hrr5q9
                case hir5q9 => simp only [List.getElem?_toArray, List.getElem?_cons_succ, List.getElem?_cons_zero]; rfl
                case hQr5q9 => exact fun _ _ _ h => h
                case hwr5q9 => rfl
                simp only [Act.put, List.setIfInBounds_toArray, List.set_cons_zero, List.set_cons_succ]
                refine wpAnyH_take (i := 10) (oi := ?dqr5q10) (v := undef) ?hir5q10 (by kernel_rfl) (by kernel_rfl) (by kernel_rfl) ?hQr5q10 (Or.inr ⟨?hwr5q10, rfl⟩) hS ?hrr5q10
                case hir5q10 => simp only [List.getElem?_toArray, List.getElem?_cons_succ, List.getElem?_cons_zero]; rfl
                case hQr5q10 => exact fun _ _ _ h => h
                case hwr5q10 => rfl
                simp only [Act.put, List.setIfInBounds_toArray, List.set_cons_zero, List.set_cons_succ]
                refine wpAnyH_take (i := 11) (oi := ?dqr5q11) (v := ?dvr5q11) ?hir5q11 (by kernel_rfl) (by kernel_rfl) (by kernel_rfl) ?hQr5q11 (Or.inl ⟨?hwr5q11, ?hyr5q11⟩) hS ?hrr5q11
                case hir5q11 => simp only [List.getElem?_toArray, List.getElem?_cons_succ, List.getElem?_cons_zero]; rfl
                case hQr5q11 => exact fun _ _ _ h => h
                case hwr5q11 => rfl
                case hyr5q11 => (intro w hSw; (try dsimp only at hSw); go_simp; (try with_reducible rfl))
                simp only [Act.put, List.setIfInBounds_toArray, List.set_cons_zero, List.set_cons_succ]
                refine wpAnyH_take (i := 12) (oi := ?dqr5q12) (v := ?dvr5q12) ?hir5q12 (by kernel_rfl) (by kernel_rfl) (by kernel_rfl) ?hQr5q12 (Or.inl ⟨?hwr5q12, ?hyr5q12⟩) hS ?hrr5q12
                case hir5q12 => simp only [List.getElem?_toArray, List.getElem?_cons_succ, List.getElem?_cons_zero]; rfl
                case hQr5q12 => exact fun _ _ _ h => h
                case hwr5q12 => rfl
                case hyr5q12 => (intro w hSw; (try dsimp only at hSw); go_simp; (try with_reducible rfl))
                simp only [Act.put, List.setIfInBounds_toArray, List.set_cons_zero, List.set_cons_succ]
                refine wpAnyH_take (i := 13) (oi := ?dqr5q13) (v := ?dvr5q13) ?hir5q13 (by kernel_rfl) (by kernel_rfl) (by kernel_rfl) ?hQr5q13 (Or.inl ⟨?hwr5q13, ?hyr5q13⟩) hS ?hrr5q13
                case hir5q13 => simp only [List.getElem?_toArray, List.getElem?_cons_succ, List.getElem?_cons_zero]; rfl
                case hQr5q13 => exact fun _ _ _ h => h
                case hwr5q13 => rfl
                case hyr5q13 => (intro w hSw; (try dsimp only at hSw); go_simp; (try with_reducible rfl))
                simp only [Act.put, List.setIfInBounds_toArray, List.set_cons_zero, List.set_cons_succ]
                refine wpAnyH_take (i := 14) (oi := ?dqr5q14) (v := ?dvr5q14) ?hir5q14 (by kernel_rfl) (by kernel_rfl) (by kernel_rfl) ?hQr5q14 (Or.inl ⟨?hwr5q14, ?hyr5q14⟩) hS ?hrr5q14
                case hir5q14 => simp only [List.getElem?_toArray, List.getElem?_cons_succ, List.getElem?_cons_zero]; rfl
                case hQr5q14 => exact fun _ _ _ h => h
                case hwr5q14 => rfl
                case hyr5q14 => (intro w hSw; (try dsimp only at hSw); go_simp; (try with_reducible rfl))
                simp only [Act.put, List.setIfInBounds_toArray, List.set_cons_zero, List.set_cons_succ]
                refine wpAnyH_take (i := 15) (oi := ?dqr5q15) (v := ?dvr5q15) ?hir5q15 (by kernel_rfl) (by kernel_rfl) (by kernel_rfl) ?hQr5q15 (Or.inl ⟨?hwr5q15, ?hyr5q15⟩) hS ?hrr5q15
                case hir5q15 => simp only [List.getElem?_toArray, List.getElem?_cons_succ, List.getElem?_cons_zero]; rfl
                case hQr5q15 => exact fun _ _ _ h => h
                case hwr5q15 => rfl
                case hyr5q15 => (intro w hSw; (try dsimp only at hSw); go_simp; (try with_reducible rfl))
                simp only [Act.put, List.setIfInBounds_toArray, List.set_cons_zero, List.set_cons_succ]
                refine wpAnyH_take (i := 16) (oi := ?dqr5q16) (v := undef) ?hir5q16 (by kernel_rfl) (by kernel_rfl) (by kernel_rfl) ?hQr5q16 (Or.inr ⟨?hwr5q16, rfl⟩) hS ?hrr5q16
                case hir5q16 => simp only [List.getElem?_toArray, List.getElem?_cons_succ, List.getElem?_cons_zero]; rfl
                case hQr5q16 => exact fun _ _ _ h => h
                case hwr5q16 => rfl
                simp only [Act.put, List.setIfInBounds_toArray, List.set_cons_zero, List.set_cons_succ]
                refine wpAnyH_take (i := 17) (oi := ?dqr5q17) (v := undef) ?hir5q17 (by kernel_rfl) (by kernel_rfl) (by kernel_rfl) ?hQr5q17 (Or.inr ⟨?hwr5q17, rfl⟩) hS ?hrr5q17
                case hir5q17 => simp only [List.getElem?_toArray, List.getElem?_cons_succ, List.getElem?_cons_zero]; rfl
                case hQr5q17 => exact fun _ _ _ h => h
                case hwr5q17 => rfl
                simp only [Act.put, List.setIfInBounds_toArray, List.set_cons_zero, List.set_cons_succ]
                refine wpAnyH_take (i := 18) (oi := ?dqr5q18) (v := ?dvr5q18) ?hir5q18 (by kernel_rfl) (by kernel_rfl) (by kernel_rfl) ?hQr5q18 (Or.inl ⟨?hwr5q18, ?hyr5q18⟩) hS ?hrr5q18
                case hir5q18 => simp only [List.getElem?_toArray, List.getElem?_cons_succ, List.getElem?_cons_zero]; rfl
                case hQr5q18 => exact fun _ _ _ h => h
                case hwr5q18 => rfl
                case hyr5q18 => (intro w hSw; (try dsimp only at hSw); go_simp; (try with_reducible rfl))
                simp only [Act.put, List.setIfInBounds_toArray, List.set_cons_zero, List.set_cons_succ]
                refine wpAnyH_take (i := 19) (oi := ?dqr5q19) (v := ?dvr5q19) ?hir5q19 (by kernel_rfl) (by kernel_rfl) (by kernel_rfl) ?hQr5q19 (Or.inl ⟨?hwr5q19, ?hyr5q19⟩) hS ?hrr5q19
                case hir5q19 => simp only [List.getElem?_toArray, List.getElem?_cons_succ, List.getElem?_cons_zero]; rfl
                case hQr5q19 => exact fun _ _ _ h => h
                case hwr5q19 => rfl
                case hyr5q19 => (intro w hSw; (try dsimp only at hSw); go_simp; (try with_reducible rfl))
                simp only [Act.put, List.setIfInBounds_toArray, List.set_cons_zero, List.set_cons_succ]
                refine wpAnyH_take (i := 20) (oi := ?dqr5q20) (v := undef) ?hir5q20 (by kernel_rfl) (by kernel_rfl) (by kernel_rfl) ?hQr5q20 (Or.inr ⟨?hwr5q20, rfl⟩) hS ?hrr5q20
                case hir5q20 => simp only [List.getElem?_toArray, List.getElem?_cons_succ, List.getElem?_cons_zero]; rfl
                case hQr5q20 => exact fun _ _ _ h => h
                case hwr5q20 => rfl
                simp only [Act.put, List.setIfInBounds_toArray, List.set_cons_zero, List.set_cons_succ]
                refine wpAnyH_take (i := 21) (oi := ?dqr5q21) (v := undef) ?hir5q21 (by kernel_rfl) (by kernel_rfl) (by kernel_rfl) ?hQr5q21 (Or.inr ⟨?hwr5q21, rfl⟩) hS ?hrr5q21
                case hir5q21 => simp only [List.getElem?_toArray, List.getElem?_cons_succ, List.getElem?_cons_zero]; rfl
                case hQr5q21 => exact fun _ _ _ h => h
                case hwr5q21 => rfl
                simp only [Act.put, List.setIfInBounds_toArray, List.set_cons_zero, List.set_cons_succ]
                refine wpAnyH_take (i := 22) (oi := ?dqr5q22) (v := undef) ?hir5q22 (by kernel_rfl) (by kernel_rfl) (by kernel_rfl) ?hQr5q22 (Or.inr ⟨?hwr5q22, rfl⟩) hS ?hrr5q22
                case hir5q22 => simp only [List.getElem?_toArray, List.getElem?_cons_succ, List.getElem?_cons_zero]; rfl
                case hQr5q22 => exact fun _ _ _ h => h
                case hwr5q22 => rfl
                simp only [Act.put, List.setIfInBounds_toArray, List.set_cons_zero, List.set_cons_succ]
                refine wpAnyH_take (i := 23) (oi := ?dqr5q23) (v := undef) ?hir5q23 (by kernel_rfl) (by kernel_rfl) (by kernel_rfl) ?hQr5q23 (Or.inr ⟨?hwr5q23, rfl⟩) hS ?hrr5q23
                case hir5q23 => simp only [List.getElem?_toArray, List.getElem?_cons_succ, List.getElem?_cons_zero]; rfl
                case hQr5q23 => exact fun _ _ _ h => h
                case hwr5q23 => rfl
                simp only [Act.put, List.setIfInBounds_toArray, List.set_cons_zero, List.set_cons_succ]
                refine wpAnyH_take (i := 24) (oi := ?dqr5q24) (v := undef) ?hir5q24 (by kernel_rfl) (by kernel_rfl) (by kernel_rfl) ?hQr5q24 (Or.inr ⟨?hwr5q24, rfl⟩) hS ?hrr5q24
                case hir5q24 => simp only [List.getElem?_toArray, List.getElem?_cons_succ, List.getElem?_cons_zero]; rfl
                case hQr5q24 => exact fun _ _ _ h => h
                case hwr5q24 => rfl
                simp only [Act.put, List.setIfInBounds_toArray, List.set_cons_zero, List.set_cons_succ]
                refine wpAnyH_take (i := 25) (oi := ?dqr5q25) (v := undef) ?hir5q25 (by kernel_rfl) (by kernel_rfl) (by kernel_rfl) ?hQr5q25 (Or.inr ⟨?hwr5q25, rfl⟩) hS ?hrr5q25
                case hir5q25 => simp only [List.getElem?_toArray, List.getElem?_cons_succ, List.getElem?_cons_zero]; rfl
                case hQr5q25 => exact fun _ _ _ h => h
                case hwr5q25 => rfl
                simp only [Act.put, List.setIfInBounds_toArray, List.set_cons_zero, List.set_cons_succ]
                refine wpAnyH_take (i := 26) (oi := ?dqr5q26) (v := undef) ?hir5q26 (by kernel_rfl) (by kernel_rfl) (by kernel_rfl) ?hQr5q26 (Or.inr ⟨?hwr5q26, rfl⟩) hS ?hrr5q26
                case hir5q26 => simp only [List.getElem?_toArray, List.getElem?_cons_succ, List.getElem?_cons_zero]; rfl
                case hQr5q26 => exact fun _ _ _ h => h
                case hwr5q26 => rfl
                simp only [Act.put, List.setIfInBounds_toArray, List.set_cons_zero, List.set_cons_succ]
                refine wpAnyH_take (i := 27) (oi := ?dqr5q27) (v := ?dvr5q27) ?hir5q27 (by kernel_rfl) (by kernel_rfl) (by kernel_rfl) ?hQr5q27 (Or.inl ⟨?hwr5q27, ?hyr5q27⟩) hS ?hrr5q27
                case hir5q27 => simp only [List.getElem?_toArray, List.getElem?_cons_succ, List.getElem?_cons_zero]; rfl
                case hQr5q27 => exact fun _ _ _ h => h
                case hwr5q27 => rfl
                case hyr5q27 => (intro w hSw; (try dsimp only at hSw); go_simp; (try with_reducible rfl))
                simp only [Act.put, List.setIfInBounds_toArray, List.set_cons_zero, List.set_cons_succ]
                refine wpAnyH_take (i := 28) (oi := ?dqr5q28) (v := ?dvr5q28) ?hir5q28 (by kernel_rfl) (by kernel_rfl) (by kernel_rfl) ?hQr5q28 (Or.inl ⟨?hwr5q28, ?hyr5q28⟩) hS ?hrr5q28
                case hir5q28 => simp only [List.getElem?_toArray, List.getElem?_cons_succ, List.getElem?_cons_zero]; rfl
                case hQr5q28 => exact fun _ _ _ h => h
                case hwr5q28 => rfl
                case hyr5q28 => (intro w hSw; (try dsimp only at hSw); go_simp; (try with_reducible rfl))
                simp only [Act.put, List.setIfInBounds_toArray, List.set_cons_zero, List.set_cons_succ]
                refine wpAnyH_done (by kernel_rfl) ?_ _
                clear q0 q1 q2 q3
                obtain ⟨_, _, _, _, hb⟩ := hS
                have b3 := Lib.hid hb
                clear hb
                go_wp2
                go_roundw
                case rel => exact ⟨b + 1, by omega, by omega, by first | rfl | go_num, by rw [hc1.out], bw.out.trans (b3.out.mono bw.out.size)⟩
                case measure => simp [intOf]; omega
    · obtain rfl : b = N + 1 := by omega
      have hc := cnt_high (r := r) (b := (N : Int) + 1) (by omega)
      rw [hc]
      go_wp2_with (go_at_call 6; refine (alive6_any _).mono ?_; rintro e w1 ⟨rfl, hb⟩; have b1 := Lib.hid (Below.after bw.out hb); clear hb)
      go_ret
      exact ⟨rfl, b1.out⟩
end Go.Proofs.Ytjjhmenkgcldeaa
