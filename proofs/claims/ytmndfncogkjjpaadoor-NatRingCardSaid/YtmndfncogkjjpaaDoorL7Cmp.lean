/- The document's own answers of layer 7: Cmp. -/
import Derived.Test.YtmndfncogkjjpaaDoorL7RefB
namespace Go.Proofs.YtmndfncogkjjpaaDoor
open Go.RowKit Go.Proofs.Natm
set_option maxRecDepth 100000

theorem cmp_less {a b i x y : Nat} (h : a / 256 ^ (i + 1) = b / 256 ^ (i + 1)) (hx : a / 256 ^ i % 256 = x) (hy : b / 256 ^ i % 256 = y) (hl : x < y) : cmpN a b = -1 := by
  rw [pow_step, pow_step b] at h
  have h1 : a / 256 ^ i < b / 256 ^ i := by omega
  have h2 : a < b := by
    rcases Nat.lt_or_ge a b with h3 | h3
    · exact h3
    · exact absurd (Nat.div_le_div_right (c := 256 ^ i) h3) (by omega)
  unfold cmpN
  rw [if_pos h2]
theorem cmp_more {a b i x y : Nat} (h : a / 256 ^ (i + 1) = b / 256 ^ (i + 1)) (hx : a / 256 ^ i % 256 = x) (hy : b / 256 ^ i % 256 = y) (hl : y < x) : cmpN a b = 1 := by
  rw [pow_step, pow_step b] at h
  have h1 : b / 256 ^ i < a / 256 ^ i := by omega
  have h2 : b < a := by
    rcases Nat.lt_or_ge b a with h3 | h3
    · exact h3
    · exact absurd (Nat.div_le_div_right (c := 256 ^ i) h3) (by omega)
  unfold cmpN
  rw [if_neg (by omega), if_pos h2]
theorem cmp_next {a b i x y : Nat} (h : a / 256 ^ (i + 1) = b / 256 ^ (i + 1)) (hx : a / 256 ^ i % 256 = x) (hy : b / 256 ^ i % 256 = y) (hl : x = y) : a / 256 ^ i = b / 256 ^ i := by
  rw [pow_step, pow_step b] at h
  omega
theorem cmp_same {a b : Nat} (h : a / 256 ^ 0 = b / 256 ^ 0) : cmpN a b = 0 := by
  simp at h
  subst h
  unfold cmpN
  rw [if_neg (Nat.lt_irrefl _), if_neg (Nat.lt_irrefl _)]

set_option maxHeartbeats 1000000 in
theorem refCmp7_no (A B : Option Addr) (n c m d : Nat) (a b : List Nat) (h : (mayL a && mayL b) = false) (w : World) (hA : LieW w A n c a) (hB : LieW w B m d b) : Calls Tryd.prog 19 #[.slice A n c, .slice B m d] w fun e w' => e = .returned (.int .i64 0) ∧ Below w.heap.size w w' := by
  cases ha : mayL a with
  | false =>
    have hM := Lib.hid (refMay7_is ha hA)
    clear hA hB h
    go_enter Tryd.func19, Tryd.ntmps19
    go_wp2_with (go_at_call 17; refine hM.out.mono ?_; rintro e w' ⟨rfl, rfl⟩)
    go_ret
    exact ⟨rfl, Below.refl _ _⟩
  | true =>
    rw [ha, Bool.true_and] at h
    have hM := Lib.hid (refMay7_is ha hA)
    have hM2 := Lib.hid (refMay7_is h hB)
    clear hA hB h
    go_enter Tryd.func19, Tryd.ntmps19
    go_wp2_with fail
    refine hM.out.mono ?_
    rintro e w' ⟨rfl, rfl⟩
    go_wp2_with fail
    refine hM2.out.mono ?_
    rintro e w' ⟨rfl, rfl⟩
    go_wp2
    go_ret
    exact ⟨rfl, Below.refl _ _⟩

set_option maxHeartbeats 4000000 in
theorem refCmp7_yes (A B : Option Addr) (n c m d : Nat) (a b : List Nat) (ha : mayL a = true) (hb : mayL b = true) (w : World) (hA : LieW w A n c a) (hB : LieW w B m d b) : Calls Tryd.prog 19 #[.slice A n c, .slice B m d] w fun e w' => e = .returned (.int .i64 (cmpN (num a) (num b))) ∧ Below w.heap.size w w' := by
  have hM := Lib.hid (refMay7_is ha hA)
  have hM2 := Lib.hid (refMay7_is hb hB)
  have f1 := few_bytes ha hA.words
  have f2 := few_bytes hb hB.words
  have hB' := Lib.hid hB
  have cA := Lib.hid (bytes7_of A n c a ha w hA)
  have cB := Lib.hid (fun W hW => bytes7_of B m d b hb W hW)
  obtain ⟨M, hMM⟩ : ∃ M, num a = M := ⟨_, rfl⟩
  obtain ⟨N, hNN⟩ : ∃ N, num b = N := ⟨_, rfl⟩
  rw [hMM] at f1 cA
  rw [hNN] at f2 cB
  rw [hMM, hNN]
  obtain ⟨x, hx⟩ : ∃ x, Natm.size 256 M = x := ⟨_, rfl⟩
  obtain ⟨y, hy⟩ : ∃ y, Natm.size 256 N = y := ⟨_, rfl⟩
  rw [hx] at f1 cA
  rw [hy] at f2 cB
  have ga : Hid (∀ i, (dig 256 M).getD i 0 = M / 256 ^ i % 256) := fun i => dig_get 256 M i (by decide)
  have gb : Hid (∀ i, (dig 256 N).getD i 0 = N / 256 ^ i % 256) := fun i => dig_get 256 N i (by decide)
  have za : Hid (∀ k, x ≤ k → M / 256 ^ k = 0) := fun k hk => beyond (by decide) (by rw [hx]; exact hk)
  have zb : Hid (∀ k, y ≤ k → N / 256 ^ k = 0) := fun k hk => beyond (by decide) (by rw [hy]; exact hk)
  clear hA hB ha hb hMM hNN hx hy
  go_enter Tryd.func19, Tryd.ntmps19
  go_wp2_with fail
  refine hM.out.mono ?_
  rintro e w' ⟨rfl, rfl⟩
  go_wp2_with fail
  refine hM2.out.mono ?_
  rintro e w' ⟨rfl, rfl⟩
  go_wp2_with fail
  refine cA.out.mono ?_
  rintro e w1 ⟨A1, c1, rfl, hL, _, hb⟩
  have l1 := Lib.hid hL
  have b1 := Lib.hid hb
  have q1 := Lib.hid (hB'.out.next hb)
  clear hL hb
  go_wp2_with fail
  refine (cB.out _ q1.out).mono ?_
  rintro e w2 ⟨A2, c2, rfl, hL, _, hb⟩
  have r2 := Lib.hid hL
  have l2 := Lib.hid (l1.out.next hb)
  have b2 := Lib.hid (Below.after b1.out hb)
  clear hL hb
  by_cases hxy : x < y
  · have cxy : decide ((x : Int) < (y : Int)) = true := decide_eq_true (by omega)
    go_wp2
    go_loop [7] (fun i => ∃ j : Nat, j ≤ y ∧ i = .int .i64 ((j : Int) - 1) ∧ M / 256 ^ j = N / 256 ^ j) (fun i => (intOf i + 1).toNat)
    case atStart => exact ⟨y, Nat.le_refl _, rfl, by rw [za.out _ (by omega), zb.out _ (by omega)]⟩
    case round =>
      obtain ⟨j, hj, rfl, hd⟩ := hrel
      rcases Nat.eq_zero_or_pos j with h0 | h0
      · have d1 : decide ((0 : Int) ≤ (j : Int) - 1) = false := decide_eq_false (by omega)
        subst h0
        have hc := Lib.hid (cmp_same hd)
        clear hd
        go_wp2
        go_ret
        exact ⟨ret_int hc.out.symm, b2.out⟩
      · obtain ⟨i, hij⟩ : ∃ i, j = i + 1 := ⟨j - 1, by omega⟩
        have d1 : decide ((0 : Int) ≤ (j : Int) - 1) = true := decide_eq_true (by omega)
        have d2 : (j : Int) - 1 = (i : Int) := by omega
        rw [hij] at hd
        have hd' := Lib.hid hd
        have hij' := Lib.hid hij
        obtain ⟨p, hp⟩ : ∃ p, M / 256 ^ i % 256 = p := ⟨_, rfl⟩
        obtain ⟨q, hq⟩ : ∃ q, N / 256 ^ i % 256 = q := ⟨_, rfl⟩
        have hp' := Lib.hid hp
        have hq' := Lib.hid hq
        have aX := Lib.hid (at7_is (d := p) (z := (i : Int)) (i := i) rfl ((ga.out i).trans hp) l2.out)
        have aY := Lib.hid (at7_is (d := q) (z := (i : Int)) (i := i) rfl ((gb.out i).trans hq) r2.out)
        have hi9 : i < y := by omega
        have hj9 : 0 < j := h0
        clear hd hp hq hij h0
        by_cases h1 : p < q
        · have c1' : decide ((p : Int) < (q : Int)) = true := decide_eq_true (by omega)
          have hc := Lib.hid (cmp_less hd'.out hp'.out hq'.out h1)
          go_wp2_with (go_at_call 34; (first | (with_reducible refine aX.out.mono ?_) | (with_reducible refine aY.out.mono ?_)); rintro e w' ⟨rfl, rfl⟩)
          go_ret
          exact ⟨ret_int hc.out.symm, b2.out⟩
        · have c1' : decide ((p : Int) < (q : Int)) = false := decide_eq_false (by omega)
          by_cases h2 : q < p
          · have c2' : decide ((q : Int) < (p : Int)) = true := decide_eq_true (by omega)
            have hc := Lib.hid (cmp_more hd'.out hp'.out hq'.out h2)
            go_wp2_with (go_at_call 34; (first | (with_reducible refine aX.out.mono ?_) | (with_reducible refine aY.out.mono ?_)); rintro e w' ⟨rfl, rfl⟩)
            go_ret
            exact ⟨ret_int hc.out.symm, b2.out⟩
          · have c2' : decide ((q : Int) < (p : Int)) = false := decide_eq_false (by omega)
            have hn := Lib.hid (cmp_next hd'.out hp'.out hq'.out (by omega))
            go_wp2_with (go_at_call 34; (first | (with_reducible refine aX.out.mono ?_) | (with_reducible refine aY.out.mono ?_)); rintro e w' ⟨rfl, rfl⟩)
            go_round
            case rel => exact ⟨i, by omega, rfl, hn.out⟩
            case measure => simp [intOf]; omega
  · have cxy : decide ((x : Int) < (y : Int)) = false := decide_eq_false (by omega)
    go_wp2
    go_loop [7] (fun i => ∃ j : Nat, j ≤ x ∧ i = .int .i64 ((j : Int) - 1) ∧ M / 256 ^ j = N / 256 ^ j) (fun i => (intOf i + 1).toNat)
    case atStart => exact ⟨x, Nat.le_refl _, rfl, by rw [za.out _ (by omega), zb.out _ (by omega)]⟩
    case round =>
      obtain ⟨j, hj, rfl, hd⟩ := hrel
      rcases Nat.eq_zero_or_pos j with h0 | h0
      · have d1 : decide ((0 : Int) ≤ (j : Int) - 1) = false := decide_eq_false (by omega)
        subst h0
        have hc := Lib.hid (cmp_same hd)
        clear hd
        go_wp2
        go_ret
        exact ⟨ret_int hc.out.symm, b2.out⟩
      · obtain ⟨i, hij⟩ : ∃ i, j = i + 1 := ⟨j - 1, by omega⟩
        have d1 : decide ((0 : Int) ≤ (j : Int) - 1) = true := decide_eq_true (by omega)
        have d2 : (j : Int) - 1 = (i : Int) := by omega
        rw [hij] at hd
        have hd' := Lib.hid hd
        have hij' := Lib.hid hij
        obtain ⟨p, hp⟩ : ∃ p, M / 256 ^ i % 256 = p := ⟨_, rfl⟩
        obtain ⟨q, hq⟩ : ∃ q, N / 256 ^ i % 256 = q := ⟨_, rfl⟩
        have hp' := Lib.hid hp
        have hq' := Lib.hid hq
        have aX := Lib.hid (at7_is (d := p) (z := (i : Int)) (i := i) rfl ((ga.out i).trans hp) l2.out)
        have aY := Lib.hid (at7_is (d := q) (z := (i : Int)) (i := i) rfl ((gb.out i).trans hq) r2.out)
        have hi9 : i < x := by omega
        have hj9 : 0 < j := h0
        clear hd hp hq hij h0
        by_cases h1 : p < q
        · have c1' : decide ((p : Int) < (q : Int)) = true := decide_eq_true (by omega)
          have hc := Lib.hid (cmp_less hd'.out hp'.out hq'.out h1)
          go_wp2_with (go_at_call 34; (first | (with_reducible refine aX.out.mono ?_) | (with_reducible refine aY.out.mono ?_)); rintro e w' ⟨rfl, rfl⟩)
          go_ret
          exact ⟨ret_int hc.out.symm, b2.out⟩
        · have c1' : decide ((p : Int) < (q : Int)) = false := decide_eq_false (by omega)
          by_cases h2 : q < p
          · have c2' : decide ((q : Int) < (p : Int)) = true := decide_eq_true (by omega)
            have hc := Lib.hid (cmp_more hd'.out hp'.out hq'.out h2)
            go_wp2_with (go_at_call 34; (first | (with_reducible refine aX.out.mono ?_) | (with_reducible refine aY.out.mono ?_)); rintro e w' ⟨rfl, rfl⟩)
            go_ret
            exact ⟨ret_int hc.out.symm, b2.out⟩
          · have c2' : decide ((q : Int) < (p : Int)) = false := decide_eq_false (by omega)
            have hn := Lib.hid (cmp_next hd'.out hp'.out hq'.out (by omega))
            go_wp2_with (go_at_call 34; (first | (with_reducible refine aX.out.mono ?_) | (with_reducible refine aY.out.mono ?_)); rintro e w' ⟨rfl, rfl⟩)
            go_round
            case rel => exact ⟨i, by omega, rfl, hn.out⟩
            case measure => simp [intOf]; omega
theorem refCmp7_any (A B : Option Addr) (n c m d : Nat) (a b : List Nat) (w : World) (hA : LieW w A n c a) (hB : LieW w B m d b) : Calls Tryd.prog 19 #[.slice A n c, .slice B m d] w fun e w' => e = .returned (.int .i64 (cmpL a b)) ∧ Below w.heap.size w w' := by
  unfold cmpL
  cases h : (mayL a && mayL b) with
  | false => exact refCmp7_no A B n c m d a b h w hA hB
  | true =>
    simp only [Bool.and_eq_true] at h
    exact refCmp7_yes A B n c m d a b h.1 h.2 w hA hB
end Go.Proofs.YtmndfncogkjjpaaDoor
