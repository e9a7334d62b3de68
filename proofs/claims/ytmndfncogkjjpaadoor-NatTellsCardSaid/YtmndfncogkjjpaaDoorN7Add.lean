/- Package nat, as it landed: rows of words that are being reckoned; Add. -/
import Derived.Test.YtmndfncogkjjpaaDoorN7Low
import Derived.Deep.OwnRows
namespace Go.Proofs.YtmndfncogkjjpaaDoor
open Go.RowKit Go.Proofs.Natm
set_option maxRecDepth 100000

/-- the words of a row that is being reckoned: below q those of T, from there on those of R -/
def mixW (T R q L : Nat) : List Nat := (List.range L).map fun j => if j < q then T / Wd ^ j % Wd else R / Wd ^ j % Wd
theorem mixW_len (T R q L : Nat) : (mixW T R q L).length = L := by simp [mixW]
theorem mixW_at (T R q L : Nat) (h : q < L) : (mixW T R q L)[q]? = some (R / Wd ^ q % Wd) := by simp [mixW, h]
theorem mixW_set (T R q L z : Nat) (T' : Nat) (hlow : ∀ j, j < q → T' / Wd ^ j % Wd = T / Wd ^ j % Wd) (hz : T' / Wd ^ q % Wd = z) : (mixW T R q L).set q z = mixW T' R (q + 1) L := by
  apply List.ext_getElem?
  intro j
  rw [List.getElem?_set, mixW_len]
  by_cases hj : q = j
  · subst hj
    by_cases hL : q < L
    · rw [if_pos rfl, if_pos hL]; simp [mixW, hL, hz]
    · rw [if_pos rfl, if_neg hL]; rw [List.getElem?_eq_none (by rw [mixW_len]; omega)]
  · rw [if_neg hj]
    by_cases hL : j < L
    · simp only [mixW, List.getElem?_map, List.getElem?_range hL, Option.map_some]
      by_cases h1 : j < q
      · rw [if_pos h1, if_pos (by omega), hlow j h1]
      · rw [if_neg h1, if_neg (by omega)]
    · rw [List.getElem?_eq_none (by rw [mixW_len]; omega), List.getElem?_eq_none (by rw [mixW_len]; omega)]
theorem mixW_all (T R q L : Nat) (h : ∀ j, q ≤ j → T / Wd ^ j % Wd = R / Wd ^ j % Wd) : mixW T R q L = digs Wd T L := by
  unfold mixW digs
  refine List.map_congr_left fun j _ => ?_
  by_cases h1 : j < q
  · rw [if_pos h1]
  · rw [if_neg h1, h j (by omega)]
theorem mixW_full (T R L : Nat) : mixW T R L L = digs Wd T L := by
  unfold mixW digs
  refine List.map_congr_left fun j hj => ?_
  rw [if_pos (List.mem_range.1 hj)]
theorem mixW_start (T R q L : Nat) (h : ∀ j, j < q → T / Wd ^ j % Wd = R / Wd ^ j % Wd) : mixW T R q L = digs Wd R L := by
  unfold mixW digs
  refine List.map_congr_left fun j _ => ?_
  by_cases h1 : j < q
  · rw [if_pos h1, h j h1]
  · rw [if_neg h1]
theorem madeW_zero (L : Nat) : (madeCells #[Value.int .u32 0] L) = ((digs Wd 0 L).map U).toArray := by
  apply Array.ext
  · rw [size_madeCells]; simp [digs_len]
  · intro i h1 h2
    simp [madeCells, digs, Nat.mod_one]
theorem wcarry_next {X Y S cy s : Nat} (h : S = X + Y + cy) (h1 : cy ≤ 1) (hs : cy + (X % 4294967296 + Y % 4294967296) = s) : S % 4294967296 = s % 4294967296 ∧ S / 4294967296 = X / 4294967296 + Y / 4294967296 + s / 4294967296 ∧ s / 4294967296 ≤ 1 := by omega
theorem lie_block {W : World} {g L : Nat} {l : List Nat} (h : Has W g 42 (l.map U).toArray) (hl : l.length = L) (h3 : L ≤ 3000) : LieV W (some ⟨g, 0, none⟩) L L (l.map U) :=
  ⟨by rw [List.length_map]; exact hl, h3, Nat.le_refl _, by unfold maxLen; omega, (fun e => by cases e), by have := h.row; simpa using this⟩

set_option maxHeartbeats 4000000 in
theorem natAdd_yes (A B : Option Addr) (n c m d M L : Nat) (a b : List Nat) (ha : mayL a = true) (hb : mayL b = true) (s : List Nat) (k0 : Nat) (x0 : Int) (hs : fitL (num a + num b) = s) (hk0 : s.length = k0) (hx0 : fitE (num a + num b) = x0) (hL : (n < m ∧ M = m) ∨ (m ≤ n ∧ M = n)) (hML : M + 1 = L) (w : World) (hA : LieW w A n c a) (hB : LieW w B m d b) : Calls Tryd.prog 9 #[.slice A n c, .slice B m d] w (MadeN w k0 s x0) := by
  have hM := Lib.hid (natMay_is ha hA)
  have hM2 := Lib.hid (natMay_is hb hB)
  obtain ⟨da, _, n8, _, na⟩ := num_of_may ha hA
  obtain ⟨db, _, m8, _, nb⟩ := num_of_may hb hB
  have ga := get_of_may da
  have gb := get_of_may db
  obtain ⟨p, hp⟩ : ∃ p, num a = p := ⟨_, rfl⟩
  obtain ⟨q, hq⟩ : ∃ q, num b = q := ⟨_, rfl⟩
  rw [hp] at ga na hs hx0
  rw [hq] at gb nb hs hx0
  have ga' := Lib.hid ga
  have gb' := Lib.hid gb
  have hA' := Lib.hid hA
  have hB' := Lib.hid hB
  have pL : p < Wd ^ M := Nat.lt_of_lt_of_le na (Nat.pow_le_pow_right (by decide) (by omega))
  have qL : q < Wd ^ M := Nat.lt_of_lt_of_le nb (Nat.pow_le_pow_right (by decide) (by omega))
  have pq : Hid (p + q < Wd ^ L) := by
    show p + q < Wd ^ L
    rw [← hML, Nat.pow_succ]
    have h1 : Wd ^ M * 2 ≤ Wd ^ M * Wd := Nat.mul_le_mul_left _ (by decide)
    omega
  have hF := Lib.hid (fun A c W h => fitted_any A L c (p + q) s k0 x0 hs hk0 hx0 pq.out W h)
  have L9 : L ≤ 129 := by omega
  have hLI : (M : Int) + 1 = (L : Int) := by omega
  have hmk := fun W => run_make_row' (P := Tryd.prog) 23 42 (.int .u32 0) 4 Tryd.underlying23 info_u32 rfl .i64 .i64 L (by omega) (by omega) W
  simp only [madeW_zero] at hmk
  clear hA hB ga gb hp hq da db ha hb na nb pL qL hs hk0 hx0 hML
  rcases hL with ⟨hnm, e⟩ | ⟨hnm, e⟩
  all_goals subst e
  all_goals (
    go_enter Tryd.func9, Tryd.ntmps9
    go_wp2_with fail
    refine hM.out.mono ?_
    rintro e w' ⟨rfl, rfl⟩
    go_wp2_with fail
    refine hM2.out.mono ?_
    rintro e w' ⟨rfl, rfl⟩
    go_wp2
    try omega)
  all_goals (
    go_loopw [7, 26] (fun y i wr => ∃ k cy : Nat, k ≤ L ∧ cy ≤ 1 ∧ (p + q) / Wd ^ k = p / Wd ^ k + q / Wd ^ k + cy ∧ y = .int .u64 cy ∧ i = .int .i64 k ∧ Has wr w.heap.size 42 ((mixW (p + q) 0 k L).map U).toArray ∧ Below w.heap.size w wr) (fun _ i _ => L - (intOf i).toNat)
    case atStart => exact ⟨0, 0, Nat.zero_le _, Nat.zero_le _, by simp, rfl, rfl, by rw [mixW_start _ _ _ _ (fun j h => absurd h (Nat.not_lt_zero _))]; exact Has.new w 42 _, (Below.refl _ _).alloc (Nat.le_refl _) _⟩
    case round =>
      obtain ⟨k, cy, hk, hcy, hS, rfl, rfl, hg, hb⟩ := hrel
      have g0 := Lib.hid hg
      have b0 := Lib.hid hb
      have lA := Lib.hid (hA'.out.next b0.out)
      have lB := Lib.hid (hB'.out.next b0.out)
      clear hg hb
      by_cases hkL : k < L
      · obtain ⟨X, hX⟩ : ∃ X, p / Wd ^ k = X := ⟨_, rfl⟩
        obtain ⟨Y, hY⟩ : ∃ Y, q / Wd ^ k = Y := ⟨_, rfl⟩
        obtain ⟨S, hSS⟩ : ∃ S, (p + q) / Wd ^ k = S := ⟨_, rfl⟩
        rw [hX, hY, hSS] at hS
        obtain ⟨x, hx⟩ : ∃ x, X % 4294967296 = x := ⟨_, rfl⟩
        obtain ⟨y, hy⟩ : ∃ y, Y % 4294967296 = y := ⟨_, rfl⟩
        have x9 : x < 4294967296 := by omega
        have y9 : y < 4294967296 := by omega
        have aX := Lib.hid (word_is (d := x) (z := (k : Int)) (i := k) rfl ((ga'.out k).trans (by rw [hX]; exact hx)) x9 lA.out.lie)
        have aY := Lib.hid (word_is (d := y) (z := (k : Int)) (i := k) rfl ((gb'.out k).trans (by rw [hY]; exact hy)) y9 lB.out.lie)
        obtain ⟨s1, hs1⟩ : ∃ s, cy + (x + y) = s := ⟨_, rfl⟩
        obtain ⟨e1, e2, e3⟩ := wcarry_next (s := s1) hS hcy (by rw [hx, hy]; exact hs1)
        obtain ⟨z, hz⟩ : ∃ z, s1 % 4294967296 = z := ⟨_, rfl⟩
        obtain ⟨t, ht⟩ : ∃ t, s1 / 4294967296 = t := ⟨_, rfl⟩
        have z9 : z < 4294967296 := by omega
        have t1 : t ≤ 1 := by omega
        have s9 : s1 < 9000000000 := by omega
        have hS2 : Hid ((p + q) / Wd ^ (k + 1) = p / Wd ^ (k + 1) + q / Wd ^ (k + 1) + t) := by show (p + q) / Wd ^ (k + 1) = p / Wd ^ (k + 1) + q / Wd ^ (k + 1) + t; rw [wpow_step, wpow_step p, wpow_step q, hSS, hX, hY]; unfold Wd; rw [e2, ht]
        have hset : Hid (((mixW (p + q) 0 k L).map U).set k (U z) = (mixW (p + q) 0 (k + 1) L).map U) := by
          show ((mixW (p + q) 0 k L).map U).set k (U z) = (mixW (p + q) 0 (k + 1) L).map U
          rw [← List.map_set, mixW_set _ _ _ _ z (p + q) (fun _ _ => rfl) (by rw [hSS]; unfold Wd; rw [e1, hz])]
        have c0 : wr.cell? ⟨w.heap.size, k, none⟩ = some (U (0 / Wd ^ k % Wd)) := by rw [g0.out.cell k]; simp [mixW_at _ _ _ _ hkL]
        obtain ⟨cv, hcv⟩ : ∃ cv, U (0 / Wd ^ k % Wd) = cv := ⟨_, rfl⟩
        rw [hcv] at c0
        have f0 := g0.out.free k
        have gN : Hid (Has (wr.setCell ⟨w.heap.size, k, none⟩ (U z)) w.heap.size 42 ((mixW (p + q) 0 (k + 1) L).map U).toArray) := by
          have := g0.out.set k (U z)
          rw [List.setIfInBounds_toArray, hset.out] at this
          exact this
        have b2 := Lib.hid (b0.out.setCell (p := ⟨w.heap.size, k, none⟩) (Nat.le_refl _) (U z))
        have sI : (cy : Int) + ((x : Int) + (y : Int)) = (s1 : Int) := by omega
        have zI : (s1 : Int) % 4294967296 = (z : Int) := by omega
        have tI : (s1 : Int) / 4294967296 = (t : Int) := by omega
        clear hX hY hSS hS hx hy hs1 e1 e2 e3 hz ht hcv hLI
        go_wp2_with (go_at_call 26; (first | (with_reducible refine aX.out.mono ?_) | (with_reducible refine aY.out.mono ?_)); rintro e w' ⟨rfl, rfl⟩)
        go_roundw
        case rel => exact ⟨k + 1, t, by omega, t1, hS2.out, rfl, by go_num, gN.out, b2.out⟩
        case measure => simp [intOf]; omega
      · obtain rfl : k = L := by omega
        have hL' := lie_block g0.out (mixW_len _ _ _ _) (by omega)
        rw [mixW_full] at hL'
        have hL2 := Lib.hid hL'
        clear hL' hS
        go_wp2_with fail
        refine (hF.out _ _ _ hL2.out).mono ?_
        rintro e w1 ⟨⟨A', c', rfl, hl⟩, rfl⟩
        have l1 := Lib.hid hl
        clear hl
        go_wp2
        go_ret2
        exact ⟨_, _, rfl, l1.out, b0.out⟩)
end Go.Proofs.YtmndfncogkjjpaaDoor
