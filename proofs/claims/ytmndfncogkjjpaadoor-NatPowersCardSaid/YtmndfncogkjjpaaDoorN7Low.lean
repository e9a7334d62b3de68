/- Package nat, as it landed: From, Cmp, Add. -/
import Derived.Test.YtmndfncogkjjpaaDoorN7Leaf
namespace Go.Proofs.YtmndfncogkjjpaaDoor
open Go.RowKit Go.Proofs.Natm
set_option maxRecDepth 100000

theorem digs_two {v a b : Nat} (ha : v % 4294967296 = a) (hb : v / 4294967296 = b) (hb9 : b < 4294967296) : digs Wd v 2 = [a, b] := by
  simp only [digs, List.range_succ, List.range_zero, List.nil_append, List.map_cons, List.map_nil, List.cons_append, Nat.pow_zero, Nat.div_one, Nat.pow_one]
  unfold Wd
  rw [ha, hb, Nat.mod_eq_of_lt hb9]
set_option maxHeartbeats 1000000 in
theorem natFrom_any (v m : Nat) (l : List Nat) (W : World) (hv : v < 18446744073709551616) (hl : dig Wd v = l) (hm : l.length = m) : Calls Tryd.prog 22 #[.int .u64 v] W (MadeW W m l) := by
  obtain ⟨a, ha⟩ : ∃ a, v % 4294967296 = a := ⟨_, rfl⟩
  obtain ⟨b, hb⟩ : ∃ b, v / 4294967296 = b := ⟨_, rfl⟩
  have a9 : a < 4294967296 := by omega
  have b9 : b < 4294967296 := by omega
  have hd := digs_two ha hb b9
  have hv2 : v < Wd ^ 2 := by unfold Wd; omega
  have hA : LieV (W.alloc (.cells #[U a, U b] 42)) (some ⟨W.heap.size, 0, none⟩) 2 2 ((digs Wd v 2).map U) := by
    rw [hd]
    exact ⟨rfl, by omega, Nat.le_refl _, by unfold maxLen; omega, (fun e => by cases e), by have := (Has.new W 42 #[U a, U b]).row; exact this⟩
  have ht := Lib.hid (trimmed_digs _ 2 2 v hv2 _ hA)
  have hL := Lib.hid (lie_wdigs hv2 hA)
  have hb0 := Lib.hid ((Below.refl W.heap.size W).alloc (Nat.le_refl _) (.cells #[U a, U b] 42))
  obtain ⟨k, hk⟩ : ∃ k, Natm.size Wd v = k := ⟨_, rfl⟩
  rw [hk] at ht hL
  have hmk : m = k := by rw [← hm, ← hl, dig_len, hk]
  have hl' := Lib.hid hl
  have aI : (v : Int) % 4294967296 = (a : Int) := by omega
  have bI : (v : Int) / 4294967296 = (b : Int) := by omega
  subst hmk
  clear hA hd ha hb hk hm hl hv2
  go_enter Tryd.func22, Tryd.ntmps22
  go_wp2_with (go_at_call 39; refine ht.out.mono ?_; rintro e w' ⟨rfl, rfl⟩)
  go_ret
  exact ⟨_, _, rfl, ⟨hl'.out ▸ hL.out, by rw [← hl'.out]; exact dig_words v⟩, hb0.out⟩

/-- a row of words that may be, as a number -/
theorem num_of_may {W : World} {A : Option Addr} {n c : Nat} {l : List Nat} (hm : mayL l = true) (h : LieW W A n c l) : l = dig Wd (num l) ∧ Natm.size Wd (num l) = n ∧ n ≤ 128 ∧ num l < Top ∧ num l < Wd ^ n := by
  obtain ⟨h1, h2⟩ := may_dig hm h.words
  have h3 : Natm.size Wd (num l) = n := by rw [← dig_len]; unfold num; rw [h1]; exact h.len
  exact ⟨h1.symm, h3, h3 ▸ size_top.2 h2, h2, by rw [← h.len]; exact val_lt h.words⟩
theorem get_of_may {l : List Nat} (h : l = dig Wd (num l)) (i : Nat) : l.getD i 0 = num l / Wd ^ i % Wd := by
  have := dig_get Wd (num l) i (by decide)
  rwa [← h] at this

theorem wpow_step (v k : Nat) : v / Wd ^ (k + 1) = v / Wd ^ k / Wd := by rw [Nat.pow_succ, ← Nat.div_div_eq_div_mul]
theorem wmod_next (b k : Nat) : b % Wd ^ (k + 1) = b % Wd ^ k + b / Wd ^ k % Wd * Wd ^ k := by rw [Nat.pow_succ, Nat.mod_mul, Nat.mul_comm (Wd ^ k) (b / Wd ^ k % Wd)]
/-- how two numbers stand, by the words from below -/
theorem wcmp_next {a b k x y : Nat} (hx : a / Wd ^ k % Wd = x) (hy : b / Wd ^ k % Wd = y) : cmpN (a % Wd ^ (k + 1)) (b % Wd ^ (k + 1)) = if cmpW x y = 0 then cmpN (a % Wd ^ k) (b % Wd ^ k) else cmpW x y := by
  rw [wmod_next, wmod_next b, hx, hy]
  have ha : a % Wd ^ k < Wd ^ k := Nat.mod_lt _ (Nat.pow_pos (by decide))
  have hb : b % Wd ^ k < Wd ^ k := Nat.mod_lt _ (Nat.pow_pos (by decide))
  generalize a % Wd ^ k = p at *
  generalize b % Wd ^ k = q at *
  generalize Wd ^ k = M at *
  unfold cmpW cmpN
  rcases Nat.lt_trichotomy x y with h | h | h
  · have h1 : x * M + M ≤ y * M := by rw [← Nat.succ_mul]; exact Nat.mul_le_mul_right _ h
    rw [if_pos h, if_pos (by omega)]; simp
  · subst h
    simp [Nat.add_lt_add_iff_right]
  · have h1 : y * M + M ≤ x * M := by rw [← Nat.succ_mul]; exact Nat.mul_le_mul_right _ h
    rw [if_neg (by omega : ¬ x < y), if_pos h, if_neg (by omega), if_pos (by omega)]; simp

set_option maxHeartbeats 4000000 in
theorem natCmp_yes (A B : Option Addr) (n c m d L : Nat) (a b : List Nat) (ha : mayL a = true) (hb : mayL b = true) (t : Int) (ht : cmpN (num a) (num b) = t) (hL : (n < m ∧ L = m) ∨ (m ≤ n ∧ L = n)) (w : World) (hA : LieW w A n c a) (hB : LieW w B m d b) : Calls Tryd.prog 18 #[.slice A n c, .slice B m d] w fun e w' => e = .returned (.int .i64 t) ∧ Below w.heap.size w w' := by
  have hM := Lib.hid (natMay_is ha hA)
  have hM2 := Lib.hid (natMay_is hb hB)
  obtain ⟨da, _, n8, _, na⟩ := num_of_may ha hA
  obtain ⟨db, _, m8, _, nb⟩ := num_of_may hb hB
  have ga := get_of_may da
  have gb := get_of_may db
  obtain ⟨N, hN⟩ : ∃ N, num a = N := ⟨_, rfl⟩
  obtain ⟨M, hMM⟩ : ∃ M, num b = M := ⟨_, rfl⟩
  rw [hN] at ga na ht
  rw [hMM] at gb nb ht
  have ga' := Lib.hid ga
  have gb' := Lib.hid gb
  have na' := Lib.hid na
  have nb' := Lib.hid nb
  have ht' := Lib.hid ht
  have hA' := Lib.hid hA
  have hB' := Lib.hid hB
  clear hA hB ga gb hN hMM da db ha hb na nb ht
  have nL : N < Wd ^ L := Nat.lt_of_lt_of_le na'.out (Nat.pow_le_pow_right (by decide) (by omega))
  have mL : M < Wd ^ L := Nat.lt_of_lt_of_le nb'.out (Nat.pow_le_pow_right (by decide) (by omega))
  have eN : Hid (cmpN (N % Wd ^ L) (M % Wd ^ L) = t) := by show cmpN (N % Wd ^ L) (M % Wd ^ L) = t; rw [Nat.mod_eq_of_lt nL, Nat.mod_eq_of_lt mL]; exact ht'.out
  clear nL mL
  have L8 : L ≤ 128 := by omega
  rcases hL with ⟨hnm, e⟩ | ⟨hnm, e⟩
  all_goals subst e
  all_goals (
    go_enter Tryd.func18, Tryd.ntmps18
    go_wp2_with fail
    refine hM.out.mono ?_
    rintro e w' ⟨rfl, rfl⟩
    go_wp2_with fail
    refine hM2.out.mono ?_
    rintro e w' ⟨rfl, rfl⟩
    go_wp2
    try omega)
  all_goals (
    go_loop [5, 21] (fun g i => ∃ k : Nat, k ≤ L ∧ i = .int .i64 k ∧ g = .int .i64 (cmpN (N % Wd ^ k) (M % Wd ^ k))) (fun _ i => 128 - (intOf i).toNat)
    case atStart => exact ⟨0, Nat.zero_le _, rfl, by simp [Nat.mod_one, cmpN]⟩
    case round =>
      obtain ⟨k, hk, rfl, rfl⟩ := hrel
      by_cases hkL : k < L
      · obtain ⟨x, hx⟩ : ∃ x, N / Wd ^ k % Wd = x := ⟨_, rfl⟩
        obtain ⟨y, hy⟩ : ∃ y, M / Wd ^ k % Wd = y := ⟨_, rfl⟩
        have x9 : x < 4294967296 := by rw [← hx]; exact Nat.mod_lt _ (by decide)
        have y9 : y < 4294967296 := by rw [← hy]; exact Nat.mod_lt _ (by decide)
        have aX := Lib.hid (word_is (d := x) (z := (k : Int)) (i := k) rfl ((ga'.out k).trans hx) x9 hA'.out.lie)
        have aY := Lib.hid (word_is (d := y) (z := (k : Int)) (i := k) rfl ((gb'.out k).trans hy) y9 hB'.out.lie)
        have hn := Lib.hid (wcmp_next hx hy)
        obtain ⟨s, hs⟩ : ∃ s, cmpW x y = s := ⟨_, rfl⟩
        have aC := Lib.hid (fun W => compare_any x y s hs W)
        rw [hs] at hn
        obtain ⟨g, hg⟩ : ∃ g, cmpN (N % Wd ^ k) (M % Wd ^ k) = g := ⟨_, rfl⟩
        rw [hg] at hn ⊢
        clear hx hy hs hg
        by_cases h0 : s = 0
        · have d1 : (s != 0) = false := by simp [h0]
          rw [if_pos h0] at hn
          clear h0
          go_wp2_with (first | (go_at_call 26; (first | (with_reducible refine aX.out.mono ?_) | (with_reducible refine aY.out.mono ?_)); rintro e w' ⟨rfl, rfl⟩) | (go_at_call 33; refine (aC.out _).mono ?_; rintro e w' ⟨rfl, rfl⟩))
          go_round
          case rel => exact ⟨k + 1, by omega, by go_num, by rw [hn.out]⟩
          case measure => simp [intOf]; omega
        · have d1 : (s != 0) = true := by simp [h0]
          rw [if_neg h0] at hn
          clear h0
          go_wp2_with (first | (go_at_call 26; (first | (with_reducible refine aX.out.mono ?_) | (with_reducible refine aY.out.mono ?_)); rintro e w' ⟨rfl, rfl⟩) | (go_at_call 33; refine (aC.out _).mono ?_; rintro e w' ⟨rfl, rfl⟩))
          go_round
          case rel => exact ⟨k + 1, by omega, by go_num, by rw [hn.out]⟩
          case measure => simp [intOf]; omega
      · obtain rfl : k = L := by omega
        rw [eN.out]
        go_wp2
        go_ret
        exact ⟨rfl, Below.refl _ _⟩)

set_option maxHeartbeats 1000000 in
theorem natCmp_any (A : Option Addr) (n c : Nat) (a : List Nat) (B : Option Addr) (m d : Nat) (b : List Nat) (t : Int) (W : World) (ht : cmpL a b = t) (hA : LieW W A n c a) (hB : LieW W B m d b) : Calls Tryd.prog 18 #[.slice A n c, .slice B m d] W fun e w' => e = .returned (.int .i64 t) ∧ Below W.heap.size W w' := by
  unfold cmpL at ht
  cases ha : mayL a with
  | false =>
    have hM := Lib.hid (natMay_is ha hA)
    rw [ha] at ht
    simp at ht
    subst ht
    clear hA hB
    go_enter Tryd.func18, Tryd.ntmps18
    go_wp2_with (go_at_call 16; refine hM.out.mono ?_; rintro e w' ⟨rfl, rfl⟩)
    go_ret
    exact ⟨rfl, Below.refl _ _⟩
  | true =>
    cases hb : mayL b with
    | false =>
      have hM := Lib.hid (natMay_is ha hA)
      have hM2 := Lib.hid (natMay_is hb hB)
      rw [ha, hb] at ht
      simp at ht
      subst ht
      clear hA hB
      go_enter Tryd.func18, Tryd.ntmps18
      go_wp2_with fail
      refine hM.out.mono ?_
      rintro e w' ⟨rfl, rfl⟩
      go_wp2_with fail
      refine hM2.out.mono ?_
      rintro e w' ⟨rfl, rfl⟩
      go_wp2
      go_ret
      exact ⟨rfl, Below.refl _ _⟩
    | true =>
      rw [ha, hb] at ht
      rcases Nat.lt_or_ge n m with h | h
      · exact natCmp_yes A B n c m d m a b ha hb t (by simpa using ht) (.inl ⟨h, rfl⟩) W hA hB
      · exact natCmp_yes A B n c m d n a b ha hb t (by simpa using ht) (.inr ⟨h, rfl⟩) W hA hB
end Go.Proofs.YtmndfncogkjjpaaDoor
