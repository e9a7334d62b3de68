/- Package nat, as it landed: divide. -/
import Derived.Test.YtmndfncogkjjpaaDoorN7Prod
namespace Go.Proofs.YtmndfncogkjjpaaDoor
open Go.RowKit Go.Proofs.Natm
set_option maxRecDepth 100000

abbrev Gr : Nat := 1000000000
theorem div_math (u d : Nat) (hd : d < 4294967296) : (u * 4294967296 + d) / 1000000000 % 4294967296 = (u % 1000000000 * 4294967296 + d) / 1000000000 ∧ (u * 4294967296 + d) % 1000000000 = (u % 1000000000 * 4294967296 + d) % 1000000000 := by omega
theorem div_step {N p r d s : Nat} (hr : N / Wd ^ (p + 1) % Gr = r) (hd : N / Wd ^ p % Wd = d) (hs : r * 4294967296 + d = s) : N / Gr / Wd ^ p % Wd = s / 1000000000 ∧ N / Wd ^ p % Gr = s % 1000000000 := by
  have h1 : N / Wd ^ p = N / Wd ^ (p + 1) * 4294967296 + d := by
    rw [wpow_step, ← hd]
    unfold Wd
    omega
  have hd9 : d < 4294967296 := by rw [← hd]; exact Nat.mod_lt _ (by decide)
  have h2 : N / Gr / Wd ^ p = N / Wd ^ p / Gr := by rw [Nat.div_div_eq_div_mul, Nat.div_div_eq_div_mul, Nat.mul_comm]
  obtain ⟨e1, e2⟩ := div_math (N / Wd ^ (p + 1)) d hd9
  rw [h2, h1, ← hs, ← hr]
  exact ⟨e1, e2⟩
theorem mixW_top (T R L : Nat) : mixW T R L L = digs Wd T L := mixW_full T R L
theorem mixW_zero (T R L : Nat) : mixW T R 0 L = digs Wd R L := mixW_start T R 0 L fun _ h => absurd h (Nat.not_lt_zero _)
theorem mixW_down (T R p L z : Nat) (hz : R / Wd ^ p % Wd = z) (h : p < L) : (mixW T R (p + 1) L).set p z = mixW T R p L := by
  apply List.ext_getElem?
  intro j
  rw [List.getElem?_set, mixW_len]
  by_cases hj : p = j
  · subst hj
    rw [if_pos rfl, if_pos h]; simp [mixW, h, hz]
  · rw [if_neg hj]
    by_cases hL : j < L
    · simp only [mixW, List.getElem?_map, List.getElem?_range hL, Option.map_some]
      by_cases h1 : j < p
      · rw [if_pos h1, if_pos (by omega)]
      · rw [if_neg h1, if_neg (by omega)]
    · rw [List.getElem?_eq_none (by rw [mixW_len]; omega), List.getElem?_eq_none (by rw [mixW_len]; omega)]
theorem mixW_below (T R q L p : Nat) (h : p < q) (hL : p < L) : (mixW T R q L)[p]? = some (T / Wd ^ p % Wd) := by simp [mixW, h, hL]
theorem or_add {r d s : Nat} (hr : r < 1000000000) (hd : d < 4294967296) (hs : r * 4294967296 + d = s) : bits .or .u64 ((r : Int) * 4294967296) (d : Int) = (s : Int) := by
  have e : (r : Int) * 4294967296 = ((r * 4294967296 : Nat) : Int) := by omega
  rw [e]
  show IntKind.u64.wrap ((BitVec.ofInt 64 ((r * 4294967296 : Nat) : Int) ||| BitVec.ofInt 64 (d : Int)).toNat : Int) = _
  rw [BitVec.ofInt_natCast, BitVec.ofInt_natCast, BitVec.toNat_or, BitVec.toNat_ofNat, BitVec.toNat_ofNat, Nat.mod_eq_of_lt (by omega), Nat.mod_eq_of_lt (by omega)]
  have h := Nat.two_pow_add_eq_or_of_lt (i := 32) (b := d) (by omega) r
  rw [show (2 : Nat) ^ 32 * r = r * 4294967296 by omega] at h
  rw [← h, hs]
  exact IntWalk.u64_in _ ⟨by omega, by omega⟩
theorem grown_set (w : World) (b i : Nat) (v : Value) : w.grownBy (w.setCell ⟨b, i, none⟩ v) (some b) :=
  ⟨rfl, rfl, rfl, by simp [World.setCell], fun k _ hk => Below.heap_setCell _ _ _ _ (fun e => hk (by simp [e]))⟩
theorem grown_refl (w : World) (row : Option Nat) : w.grownBy w row := ⟨rfl, rfl, rfl, Nat.le_refl _, fun _ _ _ => rfl⟩

set_option maxHeartbeats 4000000 in
theorem divide_any (base g cap n N : Nat) (h0 : 0 < n) (hn : n ≤ 300) (w : World) (ho : w.ownsRow base 42 1 (.slice (some ⟨g, 0, none⟩) n cap) n ((digs Wd N n).map U)) (hN : N < Wd ^ n) :
    Calls Tryd.prog 45 #[.slice (some ⟨g, 0, none⟩) n cap] w fun e w' => e = .returned (.int .u32 ((N % Gr : Nat) : Int)) ∧ w'.ownsRow base 42 1 (.slice (some ⟨g, 0, none⟩) n cap) n ((digs Wd (N / Gr) n).map U) ∧ w.grownBy w' (some g) := by
  have ho' := Lib.hid ho
  have hN' := Lib.hid hN
  clear ho hN
  go_enter Tryd.func45, Tryd.ntmps45
  go_wp2
  go_loopw [3, 8] (fun y i wr => ∃ k j r : Nat, k + j = n ∧ r < 1000000000 ∧ N / Wd ^ j % Gr = r ∧ y = .int .u64 r ∧ i = .int .i64 k ∧ wr.ownsRow base 42 1 (.slice (some ⟨g, 0, none⟩) n cap) n ((mixW N (N / Gr) j n).map U) ∧ w.grownBy wr (some g)) (fun _ i _ => n - (intOf i).toNat)
  case atStart => exact ⟨0, n, 0, by omega, by omega, by rw [Nat.div_eq_of_lt hN'.out]; rfl, rfl, rfl, by rw [mixW_top]; exact ho'.out, grown_refl _ _⟩
  case round =>
    obtain ⟨k, j, r, hkj, hr9, hr, rfl, rfl, hown, hg⟩ := hrel
    have o0 := Lib.hid hown
    have g0 := Lib.hid hg
    clear hown hg
    by_cases hkn : k < n
    · obtain ⟨p, rfl⟩ : ∃ p, j = p + 1 := ⟨j - 1, by omega⟩
      obtain ⟨_, _, he, hgb, hgw, hLc, hcm, hcell, hfz⟩ := own_form o0.out h0
      cases he
      have hpn : p < n := by omega
      obtain ⟨d, hd⟩ : ∃ d, N / Wd ^ p % Wd = d := ⟨_, rfl⟩
      have hd9 : d < 4294967296 := by rw [← hd]; exact Nat.mod_lt _ (by decide)
      have c0 := hcell p (U d) (by rw [List.getElem?_map, mixW_below _ _ _ _ _ (Nat.lt_succ_self _) hpn, hd]; rfl)
      have f0 := hfz p
      obtain ⟨s, hs⟩ : ∃ s, r * 4294967296 + d = s := ⟨_, rfl⟩
      obtain ⟨e1, e2⟩ := div_step hr hd hs
      obtain ⟨z, hz⟩ : ∃ z, s / 1000000000 = z := ⟨_, rfl⟩
      obtain ⟨t, ht⟩ : ∃ t, s % 1000000000 = t := ⟨_, rfl⟩
      have z9 : z < 4294967296 := by omega
      have t9 : t < 1000000000 := by omega
      have s9 : s < 4611686018427387904 := by omega
      have o2 : Hid ((wr.setCell ⟨g, p, none⟩ (U z)).ownsRow base 42 1 (.slice (some ⟨g, 0, none⟩) n cap) n ((mixW N (N / Gr) p n).map U)) := by
        have := own_set (k := p) o0.out (U z)
        rw [← List.map_set, mixW_down N (N / Gr) p n z (by rw [e1, hz]) hpn] at this
        exact this
      have g2 := Lib.hid (g0.out.trans (grown_set wr g p (U z)))
      have e2' : Hid (N / Wd ^ p % Gr = t) := e2.trans ht
      have i1 : (n : Int) - 1 = ((k + p : Nat) : Int) := by omega
      have i2 : ((k + p : Nat) : Int) - (k : Int) = (p : Int) := by omega
      obtain ⟨q, hq⟩ : ∃ q, k + p = q := ⟨_, rfl⟩
      rw [hq] at i1 i2
      have hkp : Hid (k + 1 + p = n) := by show k + 1 + p = n; omega
      have sI : (s : Int) / 1000000000 = (z : Int) := by omega
      have tI : (s : Int) % 1000000000 = (t : Int) := by omega
      have rI : (r : Int) * 4294967296 = ((r * 4294967296 : Nat) : Int) := by omega
      have bor : bits .or .u64 ((r : Int) * 4294967296) (d : Int) = (s : Int) := or_add hr9 hd9 hs
      clear hr hd hs e1 e2 hz ht hcell hfz hkj hq rI
      go_wp2
      refine ⟨⟨k + 1, p, t, hkp.out, t9, e2'.out, by rw [tI], by go_num, o2.out, g2.out⟩, by simp [intOf]; omega⟩
    · obtain rfl : k = n := by omega
      obtain rfl : j = 0 := by omega
      have o1 := o0.out
      rw [mixW_zero] at o1
      have o2 := Lib.hid o1
      rw [Nat.pow_zero, Nat.div_one] at hr
      have hr' := Lib.hid hr
      clear o1 hr o0
      go_wp2
      go_ret
      exact ⟨by rw [hr'.out]; exact ret_int (by omega), o2.out, g0.out⟩
end Go.Proofs.YtmndfncogkjjpaaDoor
