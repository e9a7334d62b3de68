/- The document's own answers of layer 7: Pow, Cmp, Fib. -/
import Derived.Test.YtmndfncogkjjpaaDoorL7Ref
namespace Go.Proofs.YtmndfncogkjjpaaDoor
open Go.RowKit Go.Proofs.Natm
set_option maxRecDepth 100000

theorem dig_one : dig 256 1 = [1] := dig_val (B := 256) (l := [1]) (by decide) (by simp) (by simp)
theorem dig_none (B : Nat) : dig B 0 = [] := by unfold dig; rw [size_zero]; rfl
theorem top_lt {v : Nat} (h : 512 < Natm.size 256 v) : ¬ v < Top := fun hv => by
  have h3 := (words_size v).1
  have h4 : Natm.size Wd v ≤ 128 := size_top.2 hv
  omega
theorem fit_same {u v : Nat} (hu : ¬ u < Top) (hv : ¬ v < Top) : fitL u = fitL v ∧ fitE u = fitE v := by
  unfold fitL fitE; rw [if_neg hu, if_neg hv, if_neg hu, if_neg hv]; exact ⟨rfl, rfl⟩
/-- a row of bytes in a block of its own: one byte -/
theorem lie_one (W : World) : LieV (W.alloc (.cells #[I 1] 3)) (some ⟨W.heap.size, 0, none⟩) 1 1 ((dig 256 1).map I) := by
  rw [dig_one]
  exact ⟨rfl, by omega, Nat.le_refl _, by unfold maxLen; omega, (fun e => by cases e), by have := (Has.new W 3 #[I 1]).row; exact this⟩

set_option maxHeartbeats 1000000 in
theorem refPow7_no (A : Option Addr) (n c : Nat) (a : List Nat) (e : Int) (he : (mayL a && decide (0 ≤ e) && decide (e ≤ 200)) = false) (w : World) (hA : LieW w A n c a) : Calls Tryd.prog 14 #[.slice A n c, .int .i64 e] w (MadeVE w 0 [] 2) := by
  cases ha : mayL a with
  | false =>
    have hM := Lib.hid (refMay7_is ha hA)
    clear hA he
    go_enter Tryd.func14, Tryd.ntmps14
    go_wp2_with (go_at_call 17; refine hM.out.mono ?_; rintro e w' ⟨rfl, rfl⟩)
    go_ret2
    exact ⟨_, _, rfl, LieV.empty _, (fun ad e => by cases e), Below.refl _ _⟩
  | true =>
    have hM := Lib.hid (refMay7_is ha hA)
    rw [ha] at he
    by_cases h0 : e < 0
    · have d1 : decide (e < 0) = true := decide_eq_true h0
      clear hA he
      go_enter Tryd.func14, Tryd.ntmps14
      go_wp2_with (go_at_call 17; refine hM.out.mono ?_; rintro e w' ⟨rfl, rfl⟩)
      go_ret2
      exact ⟨_, _, rfl, LieV.empty _, (fun ad e => by cases e), Below.refl _ _⟩
    · have d1 : decide (e < 0) = false := decide_eq_false h0
      have h2 : 200 < e := by
        simp at he
        omega
      have d2 : decide (200 < e) = true := decide_eq_true h2
      clear hA he
      go_enter Tryd.func14, Tryd.ntmps14
      go_wp2_with (go_at_call 17; refine hM.out.mono ?_; rintro e w' ⟨rfl, rfl⟩)
      go_ret2
      exact ⟨_, _, rfl, LieV.empty _, (fun ad e => by cases e), Below.refl _ _⟩

set_option maxHeartbeats 4000000 in
theorem refPow7_yes (A : Option Addr) (n c : Nat) (a : List Nat) (E N : Nat) (hN : num a = N) (hE : E ≤ 200) (ha : mayL a = true) (w : World) (hA : LieW w A n c a) : Calls Tryd.prog 14 #[.slice A n c, .int .i64 E] w (MadeVE w (fitL (N ^ E)).length ((fitL (N ^ E)).map U) (fitE (N ^ E))) := by
  have hM := Lib.hid (refMay7_is ha hA)
  have hA' := Lib.hid hA
  have f1 := few_bytes ha hA.words
  have cA := Lib.hid (fun W hW => bytes7_of A n c a ha W hW)
  rw [hN] at f1 cA
  have d1 : decide ((E : Int) < 0) = false := decide_eq_false (by omega)
  have d2 : decide ((200 : Int) < (E : Int)) = false := decide_eq_false (by omega)
  clear hA hN
  go_enter Tryd.func14, Tryd.ntmps14
  go_wp2_with (go_at_call 17; refine hM.out.mono ?_; rintro e w' ⟨rfl, rfl⟩)
  go_loopw [6, 7] (fun v i wr => ∃ k : Nat, ∃ A' z c', k ≤ E ∧ i = .int .i64 k ∧ v = .slice A' z c' ∧ Natm.size 256 (N ^ k) = z ∧ LieV wr A' z c' ((dig 256 (N ^ k)).map I) ∧ Below w.heap.size w wr) (fun _ i _ => E - (intOf i).toNat)
  case atStart => exact ⟨0, _, _, _, Nat.zero_le _, rfl, rfl, by rw [Nat.pow_zero, ← dig_len, dig_one]; rfl, by rw [Nat.pow_zero]; exact lie_one w, (Below.refl _ _).alloc (Nat.le_refl _) _⟩
  case round =>
    obtain ⟨k, A1, z, c1, hk, rfl, rfl, hz, hL, hb⟩ := hrel
    have l0 := Lib.hid hL
    have b0 := Lib.hid hb
    have hz3 := hL.few
    have hz' := Lib.hid hz
    clear hL hb hz
    by_cases hkE : k < E
    · by_cases h5 : z ≤ 512
      · have d3 : decide ((z : Int) ≤ 512) = true := decide_eq_true (by omega)
        go_wp2_with fail
        refine (cA.out _ (hA'.out.next b0.out)).mono ?_
        rintro e w1 ⟨A2, c2, rfl, hL, _, hb⟩
        have r1 := Lib.hid hL
        have l1 := Lib.hid (l0.out.next hb)
        have b1 := Lib.hid (Below.after b0.out hb)
        clear hL hb
        go_wp2_with fail
        refine (mul7_any A1 A2 z c1 _ c2 (N ^ k) N hz'.out rfl (by omega) (by omega) _ l1.out r1.out).mono ?_
        rintro e w2 ⟨A3, c3, rfl, hL, _, hb⟩
        have l2 := Lib.hid hL
        have b2 := Lib.hid (Below.after b1.out hb)
        clear hL hb
        go_wp2
        go_roundw
        case rel => exact ⟨k + 1, A3, _, c3, by omega, by go_num, rfl, by rw [Nat.pow_succ], by rw [Nat.pow_succ]; exact l2.out, b2.out⟩
        case measure => simp [intOf]; omega
      · have d3 : decide ((z : Int) ≤ 512) = false := decide_eq_false (by omega)
        have hk' : ¬ N ^ k < Top := top_lt (by rw [hz'.out]; omega)
        have hE' : ¬ N ^ E < Top := fun h => by
          have hN0 : 0 < N := by
            rcases Nat.eq_zero_or_pos N with h0 | h0
            · exfalso
              subst h0
              apply hk'
              have hT : 1 < Top := by unfold Top; exact Nat.one_lt_pow (by decide) (by decide)
              cases k with
              | zero => simpa using hT
              | succ j => rw [Nat.pow_succ, Nat.mul_zero]; exact Nat.lt_trans Nat.zero_lt_one hT
            · exact h0
          exact hk' (Nat.lt_of_le_of_lt (Nat.pow_le_pow_right hN0 hk) h)
        have qq := Lib.hid (fit_same hE' hk')
        have hF := Lib.hid (fits7_any A1 z c1 (N ^ k) hz'.out _ l0.out)
        clear hk' hE'
        go_wp2_with fail
        refine hF.out.mono ?_
        rintro e w1 ⟨A2, c2, rfl, hL, hab, hb⟩
        have r1 := Lib.hid hL
        have a1 := Lib.hid (fun ad e => Nat.le_trans b0.out.size (hab ad e))
        have b1 := Lib.hid (Below.after b0.out hb)
        clear hL hb hab
        go_wp2
        go_ret2
        rw [qq.out.1, qq.out.2]
        exact ⟨_, _, rfl, r1.out, a1.out, b1.out⟩
    · obtain rfl : k = E := by omega
      have hF := Lib.hid (fits7_any A1 z c1 (N ^ k) hz'.out _ l0.out)
      go_wp2_with fail
      refine hF.out.mono ?_
      rintro e w1 ⟨A2, c2, rfl, hL, hab, hb⟩
      have r1 := Lib.hid hL
      have a1 := Lib.hid (fun ad e => Nat.le_trans b0.out.size (hab ad e))
      have b1 := Lib.hid (Below.after b0.out hb)
      clear hL hb hab
      go_wp2
      go_ret2
      exact ⟨_, _, rfl, r1.out, a1.out, b1.out⟩
theorem refPow7_any (A : Option Addr) (n c : Nat) (a : List Nat) (e : Int) (w : World) (hA : LieW w A n c a) : Calls Tryd.prog 14 #[.slice A n c, .int .i64 e] w (MadeVE w (powL a e).length ((powL a e).map U) (powE a e)) := by
  unfold powL powE
  cases he : (mayL a && decide (0 ≤ e) && decide (e ≤ 200)) with
  | false => exact refPow7_no A n c a e he w hA
  | true =>
    simp only [Bool.and_eq_true, decide_eq_true_eq] at he
    obtain ⟨E, rfl⟩ : ∃ E : Nat, e = E := ⟨e.toNat, by omega⟩
    exact refPow7_yes A n c a E _ rfl (by omega) he.1.1 w hA

theorem fib_size (k m : Nat) (h : k < 8 * m) : Natm.size 256 (fib k) ≤ m :=
  size_le (by decide) (Nat.lt_of_le_of_lt (fib_le k).1 (Nat.lt_of_lt_of_le (Nat.pow_lt_pow_right (by decide) h) (by rw [Nat.pow_mul]; exact Nat.pow_le_pow_left (by decide) _)))
theorem fib_two (k : Nat) : fib (k + 1 + 1) = fib k + fib (k + 1) := Nat.add_comm _ _
set_option maxHeartbeats 4000000 in
theorem refFib7_any (z : Int) (w : World) : Calls Tryd.prog 25 #[.int .i64 z] w (MadeVE w (fibL z).length ((fibL z).map U) (fibE z)) := by
  unfold fibL fibE
  by_cases h0 : z < 0
  · have d1 : decide (z < 0) = true := decide_eq_true h0
    have e1 : decide (0 ≤ z) = false := decide_eq_false (by omega)
    rw [e1]
    go_enter Tryd.func25, Tryd.ntmps25
    go_wp2
    go_ret2
    exact ⟨_, _, rfl, LieV.empty _, (fun ad e => by cases e), Below.refl _ _⟩
  · have d1 : decide (z < 0) = false := decide_eq_false h0
    by_cases h2 : 200 < z
    · have d2 : decide (200 < z) = true := decide_eq_true h2
      have e1 : decide (z ≤ 200) = false := decide_eq_false (by omega)
      rw [e1, Bool.and_false]
      go_enter Tryd.func25, Tryd.ntmps25
      go_wp2
      go_ret2
      exact ⟨_, _, rfl, LieV.empty _, (fun ad e => by cases e), Below.refl _ _⟩
    · obtain ⟨E, rfl⟩ : ∃ E : Nat, z = E := ⟨z.toNat, by omega⟩
      have d2 : decide (200 < (E : Int)) = false := decide_eq_false h2
      have e1 : decide (0 ≤ (E : Int)) = true := decide_eq_true (by omega)
      have e2 : decide ((E : Int) ≤ 200) = true := decide_eq_true (by omega)
      have hE : E ≤ 200 := by omega
      rw [e1, e2, Int.toNat_natCast]
      have fb : ∀ k, k ≤ 201 → Natm.size 256 (fib k) ≤ 100 := fun k hk => fib_size k 100 (by omega)
      have fb' := Lib.hid fb
      clear e1 e2 h0 h2 fb
      simp only [Bool.and_self, if_true]
      go_enter Tryd.func25, Tryd.ntmps25
      go_wp2
      go_loopw [4, 5, 6] (fun u v i wr => ∃ k : Nat, ∃ A1 z1 c1 A2 z2 c2, k ≤ E ∧ i = .int .i64 k ∧ u = .slice A1 z1 c1 ∧ v = .slice A2 z2 c2 ∧ Natm.size 256 (fib k) = z1 ∧ Natm.size 256 (fib (k + 1)) = z2 ∧ LieV wr A1 z1 c1 ((dig 256 (fib k)).map I) ∧ LieV wr A2 z2 c2 ((dig 256 (fib (k + 1))).map I) ∧ Below w.heap.size w wr) (fun _ _ i _ => E - (intOf i).toNat)
      case atStart => exact ⟨0, _, _, _, _, _, _, Nat.zero_le _, rfl, rfl, rfl, size_zero 256, by show Natm.size 256 1 = 1; rw [← dig_len, dig_one]; rfl, by show LieV _ _ _ _ ((dig 256 0).map I); rw [dig_none]; exact LieV.empty _, lie_one w, (Below.refl _ _).alloc (Nat.le_refl _) _⟩
      case round =>
        obtain ⟨k, A1, z1, c1, A2, z2, c2, hk, rfl, rfl, rfl, hz1, hz2, hL1, hL2, hb⟩ := hrel
        have l1 := Lib.hid hL1
        have l2 := Lib.hid hL2
        have b0 := Lib.hid hb
        have hz1' := Lib.hid hz1
        have hz2' := Lib.hid hz2
        clear hL1 hL2 hb hz1 hz2
        by_cases hkE : k < E
        · have q1 := fb'.out k (by omega)
          have q2 := fb'.out (k + 1) (by omega)
          rw [hz1'.out] at q1
          rw [hz2'.out] at q2
          go_wp2_with fail
          refine (add7_any A1 A2 z1 c1 z2 c2 _ _ hz1'.out hz2'.out (by omega) (by omega) _ l1.out l2.out).mono ?_
          rintro e w1 ⟨A3, c3, rfl, hL, _, hb⟩
          have l3 := Lib.hid hL
          have l4 := Lib.hid (l2.out.next hb)
          have b1 := Lib.hid (Below.after b0.out hb)
          clear hL hb
          go_wp2
          go_roundw
          case rel => exact ⟨k + 1, A2, z2, c2, A3, _, c3, by omega, by go_num, rfl, rfl, hz2'.out, by rw [fib_two], l4.out, by rw [fib_two]; exact l3.out, b1.out⟩
          case measure => simp [intOf]; omega
        · obtain rfl : k = E := by omega
          have hF := Lib.hid (fits7_any A1 z1 c1 (fib k) hz1'.out _ l1.out)
          go_wp2_with fail
          refine hF.out.mono ?_
          rintro e w1 ⟨A3, c3, rfl, hL, hab, hb⟩
          have r1 := Lib.hid hL
          have a1 := Lib.hid (fun ad e => Nat.le_trans b0.out.size (hab ad e))
          have b1 := Lib.hid (Below.after b0.out hb)
          clear hL hb hab
          go_wp2
          go_ret2
          exact ⟨_, _, rfl, r1.out, a1.out, b1.out⟩
end Go.Proofs.YtmndfncogkjjpaaDoor
