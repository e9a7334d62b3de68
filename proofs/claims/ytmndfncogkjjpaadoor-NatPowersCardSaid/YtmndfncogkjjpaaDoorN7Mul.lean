/- Package nat, as it landed: Add, addRow, Mul. -/
import Derived.Test.YtmndfncogkjjpaaDoorN7Add
namespace Go.Proofs.YtmndfncogkjjpaaDoor
open Go.RowKit Go.Proofs.Natm
set_option maxRecDepth 100000

set_option maxHeartbeats 1000000 in
theorem natAdd_any (A : Option Addr) (n c : Nat) (a : List Nat) (B : Option Addr) (m d : Nat) (b : List Nat) (s : List Nat) (k : Nat) (x : Int) (W : World) (h1 : addL a b = s) (h2 : s.length = k) (h3 : addE a b = x) (hA : LieW W A n c a) (hB : LieW W B m d b) : Calls Tryd.prog 9 #[.slice A n c, .slice B m d] W (MadeN W k s x) := by
  unfold addL at h1
  unfold addE at h3
  cases ha : mayL a with
  | false =>
    have hM := Lib.hid (natMay_is ha hA)
    rw [ha] at h1 h3
    simp at h1 h3
    subst h1 h2 h3
    clear hA hB
    go_enter Tryd.func9, Tryd.ntmps9
    go_wp2_with (go_at_call 16; refine hM.out.mono ?_; rintro e w' ⟨rfl, rfl⟩)
    go_ret2
    exact ⟨_, _, rfl, ⟨LieV.empty _, fun _ h => by cases h⟩, Below.refl _ _⟩
  | true =>
    cases hb : mayL b with
    | false =>
      have hM := Lib.hid (natMay_is ha hA)
      have hM2 := Lib.hid (natMay_is hb hB)
      rw [ha, hb] at h1 h3
      simp at h1 h3
      subst h1 h2 h3
      clear hA hB
      go_enter Tryd.func9, Tryd.ntmps9
      go_wp2_with fail
      refine hM.out.mono ?_
      rintro e w' ⟨rfl, rfl⟩
      go_wp2_with fail
      refine hM2.out.mono ?_
      rintro e w' ⟨rfl, rfl⟩
      go_wp2
      go_ret2
      exact ⟨_, _, rfl, ⟨LieV.empty _, fun _ h => by cases h⟩, Below.refl _ _⟩
    | true =>
      rw [ha, hb] at h1 h3
      rcases Nat.lt_or_ge n m with h | h
      · exact natAdd_yes A B n c m d m (m + 1) a b ha hb s k x (by simpa using h1) h2 (by simpa using h3) (.inl ⟨h, rfl⟩) rfl W hA hB
      · exact natAdd_yes A B n c m d n (n + 1) a b ha hb s k x (by simpa using h1) h2 (by simpa using h3) (.inr ⟨h, rfl⟩) rfl W hA hB

/-- what is added from place q on says nothing of the words below -/
theorem wlow_same (T x q j : Nat) (h : j < q) : (T + x * Wd ^ q) / Wd ^ j % Wd = T / Wd ^ j % Wd := by
  obtain ⟨d, rfl⟩ : ∃ d, q = j + 1 + d := ⟨q - (j + 1), by omega⟩
  rw [Nat.pow_add, Nat.pow_succ, show x * (Wd ^ j * Wd * Wd ^ d) = Wd ^ j * (Wd * (x * Wd ^ d)) by rw [Nat.mul_assoc, Nat.mul_left_comm, Nat.mul_left_comm x Wd]]
  rw [Nat.add_mul_div_left _ _ (Nat.pow_pos (by decide)), Nat.add_mul_mod_self_left]
theorem whigh_add (T x q : Nat) : (T + x * Wd ^ q) / Wd ^ q = T / Wd ^ q + x := Nat.add_mul_div_right _ _ (Nat.pow_pos (by decide))
/-- one step of a row -/
theorem wmul_step {Rq Tq p cy s : Nat} (h : Tq = Rq + cy) (hcy : cy ≤ 4294967295) (hp : p ≤ 18446744065119617025) (hs : cy + (p + Rq % 4294967296) = s) : (Tq + p) % 4294967296 = s % 4294967296 ∧ (Tq + p) / 4294967296 = Rq / 4294967296 + s / 4294967296 ∧ s / 4294967296 ≤ 4294967295 ∧ s ≤ 18446744073709551615 := by omega
theorem lt_of_wdiv {v k : Nat} (h : v / Wd ^ k = 0) : v < Wd ^ k := by
  rcases Nat.lt_or_ge v (Wd ^ k) with h3 | h3
  · exact h3
  · exfalso; have := Nat.div_pos h3 (Nat.pow_pos (by decide)); omega

set_option maxHeartbeats 4000000 in
theorem addRow_any (g i L m d cap f b R n : Nat) (B : Option Addr) (hf : f < 4294967296) (hb : b < Wd ^ m) (hR : R < Wd ^ (i + m)) (hiL : i + m + 1 ≤ L) (hL3 : L ≤ 300) (hn : L - i = n) (hnc : n ≤ cap) (hcm : cap ≤ 300) (hmd : m ≤ d) (hdm : d ≤ maxLen) (w : World) (hg : Has w g 42 ((digs Wd R L).map U).toArray) (hr : Row w g B ((digs Wd b m).map U)) :
    Calls Tryd.prog 31 #[.slice (some ⟨g, i, none⟩) n cap, .slice B m d, .int .u64 f] w fun e w' => e = .returned (.tuple #[]) ∧ Has w' g 42 ((digs Wd (R + f * b * Wd ^ i) L).map U).toArray ∧ Below g w w' := by
  unfold maxLen at hdm
  have hg' := Lib.hid hg
  have hr' := Lib.hid hr
  have gb : Hid (∀ k, k < m → ((digs Wd b m).map U)[k]? = some (U (b / Wd ^ k % Wd))) := fun k hk => by rw [List.getElem?_map, digs_get _ _ _ _ hk]; rfl
  have hR' := Lib.hid hR
  have hb' := Lib.hid hb
  clear hg hr hR hb
  go_enter Tryd.func31, Tryd.ntmps31
  go_wp2
  go_loopw [6, 10] (fun y u wr => ∃ k cy : Nat, k ≤ m ∧ cy ≤ 4294967295 ∧ (R + f * (b % Wd ^ k) * Wd ^ i) / Wd ^ (i + k) = R / Wd ^ (i + k) + cy ∧ y = .int .u64 cy ∧ u = .int .i64 k ∧ Has wr g 42 ((mixW (R + f * (b % Wd ^ k) * Wd ^ i) R (i + k) L).map U).toArray ∧ Below g w wr) (fun _ u _ => m - (intOf u).toNat)
  case atStart => exact ⟨0, 0, Nat.zero_le _, Nat.zero_le _, by simp [Nat.mod_one], rfl, rfl, by rw [Nat.pow_zero, Nat.mod_one, Nat.mul_zero, Nat.zero_mul, Nat.add_zero, mixW_start _ _ _ _ (fun _ _ => rfl)]; exact hg'.out, Below.refl _ _⟩
  case round =>
    obtain ⟨k, cy, hk, hcy, hT, rfl, rfl, hg, hb⟩ := hrel
    have g0 := Lib.hid hg
    have b0 := Lib.hid hb
    clear hg hb
    obtain ⟨q, hq⟩ : ∃ q, i + k = q := ⟨_, rfl⟩
    obtain ⟨T, hTT⟩ : ∃ T, R + f * (b % Wd ^ k) * Wd ^ i = T := ⟨_, rfl⟩
    rw [hTT, hq] at hT g0
    have hqL : q < L := by omega
    obtain ⟨Rq, hRq⟩ : ∃ Rq, R / Wd ^ q = Rq := ⟨_, rfl⟩
    rw [hRq] at hT
    have f0 := g0.out.free q
    by_cases hkm : k < m
    · obtain ⟨y, hy⟩ : ∃ y, b / Wd ^ k % Wd = y := ⟨_, rfl⟩
      have y9 : y ≤ 4294967295 := by rw [← hy]; exact Nat.le_of_lt_succ (Nat.mod_lt _ (by decide))
      obtain ⟨ad, rfl, hb2, c1⟩ := (hr'.out.below b0.out) k _ ((gb.out k hkm).trans (by rw [hy]))
      obtain ⟨o, ho⟩ : ∃ o, Rq % 4294967296 = o := ⟨_, rfl⟩
      have o9 : o < 4294967296 := by omega
      obtain ⟨p, hp⟩ : ∃ p, f * y = p := ⟨_, rfl⟩
      have p9 : p ≤ 18446744065119617025 := by rw [← hp]; exact Nat.mul_le_mul (show f ≤ 4294967295 by omega) y9
      obtain ⟨s, hs⟩ : ∃ s, cy + (p + o) = s := ⟨_, rfl⟩
      obtain ⟨e1, e2, e3, e4⟩ := wmul_step (s := s) hT hcy p9 (by rw [ho]; exact hs)
      obtain ⟨z, hz⟩ : ∃ z, s % 4294967296 = z := ⟨_, rfl⟩
      obtain ⟨t, ht⟩ : ∃ t, s / 4294967296 = t := ⟨_, rfl⟩
      have t9 : t ≤ 4294967295 := by omega
      have hTn : R + f * (b % Wd ^ (k + 1)) * Wd ^ i = T + p * Wd ^ q := by
        rw [wmod_next, hy, ← hTT, ← hq, ← hp, Nat.pow_add, Nat.mul_add, Nat.add_mul, Nat.add_assoc]
        congr 2
        rw [Nat.mul_assoc, Nat.mul_assoc, Nat.mul_assoc f y, Nat.mul_comm (Wd ^ k)]
      have hTh : (T + p * Wd ^ q) / Wd ^ q = T / Wd ^ q + p := whigh_add T p q
      have hzz : (T + p * Wd ^ q) / Wd ^ q % Wd = z := by rw [hTh]; unfold Wd at *; rw [e1, hz]
      have eT : Hid ((R + f * (b % Wd ^ (k + 1)) * Wd ^ i) / Wd ^ (q + 1) = R / Wd ^ (q + 1) + t) := by
        show (R + f * (b % Wd ^ (k + 1)) * Wd ^ i) / Wd ^ (q + 1) = R / Wd ^ (q + 1) + t
        rw [hTn, wpow_step, wpow_step R, hTh, hRq]
        unfold Wd at *
        rw [e2, ht]
      have hset : Hid (((mixW T R q L).map U).set q (U z) = (mixW (R + f * (b % Wd ^ (k + 1)) * Wd ^ i) R (q + 1) L).map U) := by
        show ((mixW T R q L).map U).set q (U z) = (mixW (R + f * (b % Wd ^ (k + 1)) * Wd ^ i) R (q + 1) L).map U
        rw [hTn, ← List.map_set, mixW_set T R q L z (T + p * Wd ^ q) (fun j hj => wlow_same T p q j hj) hzz]
      have c0 : wr.cell? ⟨g, q, none⟩ = some (U o) := by rw [g0.out.cell q]; simp [mixW_at _ _ _ _ hqL, hRq, Wd, ho]
      have gN : Hid (∀ nq, Has ((wr.drewN nq).setCell ⟨g, q, none⟩ (U z)) g 42 ((mixW (R + f * (b % Wd ^ (k + 1)) * Wd ^ i) R (q + 1) L).map U).toArray) := fun nq => by
        have := (g0.out.drewN nq).set q (U z)
        rw [List.setIfInBounds_toArray, hset.out] at this
        exact this
      have b2 := Lib.hid (fun nq => (below_drewN b0.out nq).setCell (p := ⟨g, q, none⟩) (Nat.le_refl _) (U z))
      have pZ : (f : Int) * (y : Int) = (p : Int) := by rw [← hp]; exact (Int.natCast_mul f y).symm
      obtain ⟨s1, hs1⟩ : ∃ s1 : Nat, p + o = s1 := ⟨_, rfl⟩
      have hkn : k < n := by omega
      have hzN := Lib.hid hz
      have htN := Lib.hid ht
      have hq' := Lib.hid hq
      have pI : IntKind.u64.wrap ((f : Int) * (y : Int)) = (p : Int) := by rw [pZ]; exact IntWalk.u64_in _ ⟨by omega, by omega⟩
      have s1I : IntKind.u64.wrap ((p : Int) + (o : Int)) = (s1 : Int) := by rw [IntWalk.u64_in _ ⟨by omega, by omega⟩]; omega
      have sI : IntKind.u64.wrap ((cy : Int) + (s1 : Int)) = (s : Int) := by rw [IntWalk.u64_in _ ⟨by omega, by omega⟩]; omega
      have yI : IntKind.u64.wrap (y : Int) = (y : Int) := IntWalk.u64_in _ ⟨by omega, by omega⟩
      have oI : IntKind.u64.wrap (o : Int) = (o : Int) := IntWalk.u64_in _ ⟨by omega, by omega⟩
      clear pZ hT hTT hRq hy ho hp hs e1 e2 e3 hz ht hTn hTh hzz hq
      rw [← hq'.out] at c0 f0 gN b2
      go_wp2
      go_quiet (fail)
      clear pI s1I sI yI oI
      have zI : (s : Int) % 4294967296 = (z : Int) := by have := hzN.out; omega
      have tI : (s : Int) / 4294967296 = (t : Int) := by have := htN.out; omega
      go_wp2
      go_roundw
      case rel => exact ⟨k + 1, t, by omega, t9, by rw [← Nat.add_assoc, hq'.out]; exact eT.out, rfl, by go_num, by rw [← Nat.add_assoc]; exact gN.out _, b2.out _⟩
      case measure => simp [intOf]; omega
    · obtain rfl : k = m := by omega
      have hb2 : b % Wd ^ k = b := Nat.mod_eq_of_lt hb'.out
      rw [hb2] at hTT
      have h3 : Rq = 0 := by rw [← hRq, ← hq]; exact Nat.div_eq_of_lt hR'.out
      have hT2 : T / Wd ^ q = cy := by rw [hT, h3, Nat.zero_add]
      have hzz : T / Wd ^ q % Wd = cy := by rw [hT2]; unfold Wd; exact Nat.mod_eq_of_lt (by omega)
      have hset : Hid (((mixW T R q L).map U).set q (U cy) = (digs Wd (R + f * b * Wd ^ i) L).map U) := by
        show ((mixW T R q L).map U).set q (U cy) = (digs Wd (R + f * b * Wd ^ i) L).map U
        rw [hTT, ← List.map_set, mixW_set T R q L cy T (fun _ _ => rfl) hzz, mixW_all T R (q + 1) L (fun j hj => ?_)]
        have hpw : Wd ^ (q + 1) ≤ Wd ^ j := Nat.pow_le_pow_right (by decide) hj
        have h5 : T < Wd ^ (q + 1) := lt_of_wdiv (by rw [wpow_step, hT2]; exact Nat.div_eq_of_lt (by unfold Wd; omega))
        have h6 : R < Wd ^ (q + 1) := by rw [← hq]; exact Nat.lt_of_lt_of_le hR'.out (Nat.pow_le_pow_right (by decide) (Nat.le_succ _))
        rw [Nat.div_eq_of_lt (Nat.lt_of_lt_of_le h5 hpw), Nat.div_eq_of_lt (Nat.lt_of_lt_of_le h6 hpw)]
      have c0 : wr.cell? ⟨g, q, none⟩ = some (U (Rq % Wd)) := by rw [g0.out.cell q]; simp [mixW_at _ _ _ _ hqL, hRq]
      obtain ⟨cv, hcv⟩ : ∃ cv, U (Rq % Wd) = cv := ⟨_, rfl⟩
      rw [hcv] at c0
      have gN : Hid (Has (wr.setCell ⟨g, q, none⟩ (U cy)) g 42 ((digs Wd (R + f * b * Wd ^ i) L).map U).toArray) := by
        have := g0.out.set q (U cy)
        rw [List.setIfInBounds_toArray, hset.out] at this
        exact this
      have b2 := Lib.hid (b0.out.setCell (p := ⟨g, q, none⟩) (Nat.le_refl _) (U cy))
      have hkn : k < n := by omega
      have hq' := Lib.hid hq
      rw [← hq'.out] at c0 f0 gN b2
      clear hT hTT hRq hq hb2 h3 hT2 hzz hcv
      go_wp2
      refine bodyPost_end (results_none rfl _ _ _) rfl ?_
      exact ⟨rfl, gN.out, b2.out⟩
end Go.Proofs.YtmndfncogkjjpaaDoor
