/- The statement NatPowers of layer 7, walked. -/
import Derived.Test.YtmndfncogkjjpaaDoorL7Rules
namespace Go.Proofs.YtmndfncogkjjpaaDoor
open Go.RowKit Go.Proofs.Natm

theorem cmp_cases (a b : Nat) : (a < b ∧ cmpN a b = -1 ∧ cmpN b a = 1) ∨ (a = b ∧ cmpN a b = 0 ∧ cmpN b a = 0) ∨ (b < a ∧ cmpN a b = 1 ∧ cmpN b a = -1) := by
  unfold cmpN
  rcases Nat.lt_trichotomy a b with h | h | h
  · exact .inl ⟨h, by rw [if_pos h], by rw [if_neg (by omega), if_pos h]⟩
  · subst h; exact .inr (.inl ⟨rfl, by rw [if_neg (Nat.lt_irrefl _), if_neg (Nat.lt_irrefl _)], by rw [if_neg (Nat.lt_irrefl _), if_neg (Nat.lt_irrefl _)]⟩)
  · exact .inr (.inr ⟨h, by rw [if_neg (by omega), if_pos h], by rw [if_pos h]⟩)
theorem cmp_add (a b p : Nat) : cmpN (a + p) (b + p) = cmpN a b := by
  unfold cmpN
  by_cases h : a < b
  · rw [if_pos h, if_pos (by omega)]
  · by_cases h2 : b < a
    · rw [if_neg h, if_pos h2, if_neg (by omega), if_pos (by omega)]
    · rw [if_neg h, if_neg h2, if_neg (by omega), if_neg (by omega)]
theorem small_pow {x i : Nat} (hx : x ≤ 65535) (hi : i ≤ 198) : x ^ i < Wd ^ 100 :=
  Nat.lt_of_le_of_lt (Nat.le_trans (Nat.pow_le_pow_left (Nat.le_trans hx (by decide : 65535 ≤ 2 ^ 16)) i) (by rw [← Nat.pow_mul]; exact Nat.le_refl _)) (two_lt (by omega))
set_option maxRecDepth 100000 in
set_option maxHeartbeats 16000000 in
theorem natPowers_any (hN : NatSays) (x dd ee a b : Nat) (hx : x ≤ 65535) (hdd : dd ≤ 255) (hee : ee ≤ 255) (ha : a < 18446744073709551616) (hb : b < 18446744073709551616) (w : World) (hT : Hid (Tens w)) : Calls Tryd.prog 6 #[.int .u16 x, .int .u8 dd, .int .u8 ee, .int .u64 a, .int .u64 b] w fun e w' => e = .returned (.bool true) ∧ Below w.heap.size w w' := by
  obtain ⟨i, hi⟩ : ∃ i, dd % 100 = i := ⟨_, rfl⟩
  obtain ⟨k, hk⟩ : ∃ k, ee % 100 = k := ⟨_, rfl⟩
  have i9 : i ≤ 99 := by omega
  have k9 : k ≤ 99 := by omega
  have hiI : (dd : Int) % 100 = (i : Int) := by omega
  have hkI : (ee : Int) % 100 = (k : Int) := by omega
  clear hi hk
  obtain ⟨j, hj⟩ : ∃ j, i + k = j := ⟨_, rfl⟩
  have hjI : (i : Int) + (k : Int) = (j : Int) := by omega
  have tx : x < Top := top_small (by omega)
  have ta : a < Top := top_small ha
  have tb : b < Top := top_small hb
  have qi := small_pow hx (i := i) (by omega)
  have qk := small_pow hx (i := k) (by omega)
  have qj := small_pow hx (i := j) (by omega)
  have ti : x ^ i < Top := top_of qi (by omega)
  have tk : x ^ k < Top := top_of qk (by omega)
  have tj : x ^ j < Top := top_of qj (by omega)
  have hij : x ^ i * x ^ k = x ^ j := by rw [← hj, Nat.pow_add]
  have qa : a < Wd ^ 100 := Nat.lt_of_lt_of_le (show a < Wd ^ 2 by unfold Wd; omega) (Nat.pow_le_pow_right (by decide) (by omega))
  have qb : b < Wd ^ 100 := Nat.lt_of_lt_of_le (show b < Wd ^ 2 by unfold Wd; omega) (Nat.pow_le_pow_right (by decide) (by omega))
  have ua : a + x ^ i < Top := top_of (k := 101) (by rw [Nat.pow_succ]; have h : Wd ^ 100 * 2 ≤ Wd ^ 100 * Wd := Nat.mul_le_mul_left _ (by decide); omega) (by omega)
  have ub : b + x ^ i < Top := top_of (k := 101) (by rw [Nat.pow_succ]; have h : Wd ^ 100 * 2 ≤ Wd ^ 100 * Wd := Nat.mul_le_mul_left _ (by decide); omega) (by omega)
  have r1 := pow_d (u := x) (e := i) tx (by omega) ti
  have r2 := pow_d (u := x) (e := k) tx (by omega) tk
  have r3 := pow_d (u := x) (e := j) tx (by omega) tj
  have r4 : mulL (D (x ^ i)) (D (x ^ k)) = D (x ^ j) ∧ mulE (D (x ^ i)) (D (x ^ k)) = 0 := by have := mul_d ti tk (by rw [hij]; exact tj); rwa [hij] at this
  have r5 := add_d ta ti ua
  have r6 := add_d tb ti ub
  have r7 := cmp_d ta tb
  have r8 := cmp_d tb ta
  have r9 := cmp_d ua ub
  rw [cmp_add] at r9
  obtain ⟨lx, hlx⟩ : ∃ l, D (x) = l := ⟨_, rfl⟩
  obtain ⟨nx, hnx⟩ : ∃ k, lx.length = k := ⟨_, rfl⟩
  obtain ⟨li, hli⟩ : ∃ l, D (x ^ i) = l := ⟨_, rfl⟩
  obtain ⟨ni, hni⟩ : ∃ k, li.length = k := ⟨_, rfl⟩
  obtain ⟨lk, hlk⟩ : ∃ l, D (x ^ k) = l := ⟨_, rfl⟩
  obtain ⟨nk, hnk⟩ : ∃ k, lk.length = k := ⟨_, rfl⟩
  obtain ⟨lj, hlj⟩ : ∃ l, D (x ^ j) = l := ⟨_, rfl⟩
  obtain ⟨nj, hnj⟩ : ∃ k, lj.length = k := ⟨_, rfl⟩
  obtain ⟨la, hla⟩ : ∃ l, D (a) = l := ⟨_, rfl⟩
  obtain ⟨na, hna⟩ : ∃ k, la.length = k := ⟨_, rfl⟩
  obtain ⟨lb, hlb⟩ : ∃ l, D (b) = l := ⟨_, rfl⟩
  obtain ⟨nb, hnb⟩ : ∃ k, lb.length = k := ⟨_, rfl⟩
  obtain ⟨lu, hlu⟩ : ∃ l, D (a + x ^ i) = l := ⟨_, rfl⟩
  obtain ⟨nu, hnu⟩ : ∃ k, lu.length = k := ⟨_, rfl⟩
  obtain ⟨lv, hlv⟩ : ∃ l, D (b + x ^ i) = l := ⟨_, rfl⟩
  obtain ⟨nv, hnv⟩ : ∃ k, lv.length = k := ⟨_, rfl⟩
  rw [hlx, hli] at r1
  rw [hlx, hlk] at r2
  rw [hlx, hlj] at r3
  rw [hli, hlk, hlj] at r4
  rw [hla, hli, hlu] at r5
  rw [hlb, hli, hlv] at r6
  rw [hla, hlb] at r7 r8
  rw [hlu, hlv] at r9
  have c1 := Lib.hid (fun W => hN.from_ x nx lx W (by omega) hlx hnx)
  have c2 := Lib.hid (fun A n c W => hN.pow A n c lx i li ni 0 W r1.1 hni r1.2)
  have c3 := Lib.hid (fun A n c W => hN.pow A n c lx k lk nk 0 W r2.1 hnk r2.2)
  have c4 := Lib.hid (fun A n c W => hN.pow A n c lx j lj nj 0 W r3.1 hnj r3.2)
  have c5 := Lib.hid (fun A n c B m d W => hN.mul A n c li B m d lk lj nj 0 W r4.1 hnj r4.2)
  have c6 := Lib.hid (fun W => hN.from_ a na la W ha hla hna)
  have c7 := Lib.hid (fun W => hN.from_ b nb lb W hb hlb hnb)
  have c8 := Lib.hid (fun A n c B m d W => hN.add A n c la B m d li lu nu 0 W r5.1 hnu r5.2)
  have c9 := Lib.hid (fun A n c B m d W => hN.add A n c lb B m d li lv nv 0 W r6.1 hnv r6.2)
  have k0 := Lib.hid (Below.refl w.heap.size w)
  clear hj tx ta tb qi qk qj ti tk tj hij qa qb ua ub r1 r2 r3 r4 r5 r6 hlx hnx hli hni hlk hnk hlj hnj hla hna hlb hnb hlu hnu hlv hnv
  rcases cmp_cases a b with ⟨hab, e1, e2⟩ | ⟨hab, e1, e2⟩ | ⟨hab, e1, e2⟩
  · rw [e1] at r7 r9
    rw [e2] at r8
    have d1 : decide ((a : Int) < (b : Int)) = true := decide_eq_true (by omega)
    have d2 : ((a : Int) == (b : Int)) = false := by simp; omega
    have y1 := Lib.hid (fun A n c B m d W => hN.cmp A n c la B m d lb (-1) W r7)
    have y2 := Lib.hid (fun A n c B m d W => hN.cmp A n c lb B m d la (1) W r8)
    have y3 := Lib.hid (fun A n c B m d W => hN.cmp A n c lu B m d lv (-1) W r9)
    clear r7 r8 r9 e1 e2
    go_enter Tryd.func6, Tryd.ntmps6
    go_wp2_with fail
    refine (c1.out _).mono ?_
    rintro e w1 ⟨A1, q1, rfl, hh, hb⟩
    have k1 := Lib.hid (Below.after k0.out hb)
    have rx1 := Lib.hid hh
    clear hb hh k0
    go_wp2_with fail
    refine (c2.out A1 nx q1 _ rx1.out).mono ?_
    rintro e w2 ⟨A2, q2, rfl, hh, hb⟩
    have rx2 := Lib.hid (rx1.out.next hb)
    have k2 := Lib.hid (Below.after k1.out hb)
    have ri2 := Lib.hid hh
    clear hb hh rx1 k1
    go_wp2_with fail
    refine (c3.out A1 nx q1 _ rx2.out).mono ?_
    rintro e w3 ⟨A3, q3, rfl, hh, hb⟩
    have rx3 := Lib.hid (rx2.out.next hb)
    have ri3 := Lib.hid (ri2.out.next hb)
    have k3 := Lib.hid (Below.after k2.out hb)
    have rk3 := Lib.hid hh
    clear hb hh rx2 ri2 k2
    go_wp2_with fail
    refine (c4.out A1 nx q1 _ rx3.out).mono ?_
    rintro e w4 ⟨A4, q4, rfl, hh, hb⟩
    have ri4 := Lib.hid (ri3.out.next hb)
    have rk4 := Lib.hid (rk3.out.next hb)
    have k4 := Lib.hid (Below.after k3.out hb)
    have rj4 := Lib.hid hh
    clear hb hh ri3 rk3 k3
    go_wp2_with fail
    refine (c5.out A2 ni q2 A3 nk q3 _ ri4.out rk4.out).mono ?_
    rintro e w5 ⟨A5, q5, rfl, hh, hb⟩
    have ri5 := Lib.hid (ri4.out.next hb)
    have rj5 := Lib.hid (rj4.out.next hb)
    have k5 := Lib.hid (Below.after k4.out hb)
    have rm5 := Lib.hid hh
    clear hb hh ri4 rj4 k4
    go_wp2_with fail
    refine (same7_yes A4 A5 nj q4 q5 lj _ rj5.out.lie rm5.out.lie).mono ?_
    rintro e w6 ⟨rfl, hb⟩
    have ri6 := Lib.hid (ri5.out.next hb)
    have k6 := Lib.hid (Below.after k5.out hb)
    clear hb  ri5 k5
    go_wp2_with fail
    refine (c6.out _).mono ?_
    rintro e w7 ⟨A6, q6, rfl, hh, hb⟩
    have ri7 := Lib.hid (ri6.out.next hb)
    have k7 := Lib.hid (Below.after k6.out hb)
    have ra7 := Lib.hid hh
    clear hb hh ri6 k6
    go_wp2_with fail
    refine (c7.out _).mono ?_
    rintro e w8 ⟨A7, q7, rfl, hh, hb⟩
    have ri8 := Lib.hid (ri7.out.next hb)
    have ra8 := Lib.hid (ra7.out.next hb)
    have k8 := Lib.hid (Below.after k7.out hb)
    have rb8 := Lib.hid hh
    clear hb hh ri7 ra7 k7
    go_wp2_with fail
    refine (y1.out A6 na q6 A7 nb q7 _ ra8.out rb8.out).mono ?_
    rintro e w9 ⟨rfl, hb⟩
    have ri9 := Lib.hid (ri8.out.next hb)
    have k9 := Lib.hid (Below.after k8.out hb)
    clear hb  ri8 k8
    go_wp2_with fail
    refine (c7.out _).mono ?_
    rintro e w10 ⟨A8, q8, rfl, hh, hb⟩
    have ri10 := Lib.hid (ri9.out.next hb)
    have k10 := Lib.hid (Below.after k9.out hb)
    have rb10 := Lib.hid hh
    clear hb hh ri9 k9
    go_wp2_with fail
    refine (c6.out _).mono ?_
    rintro e w11 ⟨A9, q9, rfl, hh, hb⟩
    have ri11 := Lib.hid (ri10.out.next hb)
    have rb11 := Lib.hid (rb10.out.next hb)
    have k11 := Lib.hid (Below.after k10.out hb)
    have ra11 := Lib.hid hh
    clear hb hh ri10 rb10 k10
    go_wp2_with fail
    refine (y2.out A8 nb q8 A9 na q9 _ rb11.out ra11.out).mono ?_
    rintro e w12 ⟨rfl, hb⟩
    have ri12 := Lib.hid (ri11.out.next hb)
    have k12 := Lib.hid (Below.after k11.out hb)
    clear hb  ri11 k11
    go_wp2_with fail
    refine (c6.out _).mono ?_
    rintro e w13 ⟨A10, q10, rfl, hh, hb⟩
    have ri13 := Lib.hid (ri12.out.next hb)
    have k13 := Lib.hid (Below.after k12.out hb)
    have ra13 := Lib.hid hh
    clear hb hh ri12 k12
    go_wp2_with fail
    refine (c8.out A10 na q10 A2 ni q2 _ ra13.out ri13.out).mono ?_
    rintro e w14 ⟨A11, q11, rfl, hh, hb⟩
    have ri14 := Lib.hid (ri13.out.next hb)
    have k14 := Lib.hid (Below.after k13.out hb)
    have ru14 := Lib.hid hh
    clear hb hh ri13 k13
    go_wp2_with fail
    refine (c7.out _).mono ?_
    rintro e w15 ⟨A12, q12, rfl, hh, hb⟩
    have ri15 := Lib.hid (ri14.out.next hb)
    have ru15 := Lib.hid (ru14.out.next hb)
    have k15 := Lib.hid (Below.after k14.out hb)
    have rb15 := Lib.hid hh
    clear hb hh ri14 ru14 k14
    go_wp2_with fail
    refine (c9.out A12 nb q12 A2 ni q2 _ rb15.out ri15.out).mono ?_
    rintro e w16 ⟨A13, q13, rfl, hh, hb⟩
    have ru16 := Lib.hid (ru15.out.next hb)
    have k16 := Lib.hid (Below.after k15.out hb)
    have rv16 := Lib.hid hh
    clear hb hh ru15 k15
    go_wp2_with fail
    refine (y3.out A11 nu q11 A13 nv q13 _ ru16.out rv16.out).mono ?_
    rintro e w17 ⟨rfl, hb⟩
    have k17 := Lib.hid (Below.after k16.out hb)
    clear hb  k16
    go_wp2_with fail
    refine (alive7_any hN _ (hT.out.next k17.out)).mono ?_
    rintro e w18 ⟨rfl, hb⟩
    have k18 := Lib.hid (Below.after k17.out hb)
    clear hb  k17
    go_wp2
    go_ret
    exact ⟨rfl, k18.out⟩
  · rw [e1] at r7 r9
    rw [e2] at r8
    have y1 := Lib.hid (fun A n c B m d W => hN.cmp A n c la B m d lb (0) W r7)
    have y2 := Lib.hid (fun A n c B m d W => hN.cmp A n c lb B m d la (0) W r8)
    have y3 := Lib.hid (fun A n c B m d W => hN.cmp A n c lu B m d lv (0) W r9)
    clear r7 r8 r9 e1 e2
    subst hab
    go_enter Tryd.func6, Tryd.ntmps6
    go_wp2_with fail
    refine (c1.out _).mono ?_
    rintro e w1 ⟨A1, q1, rfl, hh, hb⟩
    have k1 := Lib.hid (Below.after k0.out hb)
    have rx1 := Lib.hid hh
    clear hb hh k0
    go_wp2_with fail
    refine (c2.out A1 nx q1 _ rx1.out).mono ?_
    rintro e w2 ⟨A2, q2, rfl, hh, hb⟩
    have rx2 := Lib.hid (rx1.out.next hb)
    have k2 := Lib.hid (Below.after k1.out hb)
    have ri2 := Lib.hid hh
    clear hb hh rx1 k1
    go_wp2_with fail
    refine (c3.out A1 nx q1 _ rx2.out).mono ?_
    rintro e w3 ⟨A3, q3, rfl, hh, hb⟩
    have rx3 := Lib.hid (rx2.out.next hb)
    have ri3 := Lib.hid (ri2.out.next hb)
    have k3 := Lib.hid (Below.after k2.out hb)
    have rk3 := Lib.hid hh
    clear hb hh rx2 ri2 k2
    go_wp2_with fail
    refine (c4.out A1 nx q1 _ rx3.out).mono ?_
    rintro e w4 ⟨A4, q4, rfl, hh, hb⟩
    have ri4 := Lib.hid (ri3.out.next hb)
    have rk4 := Lib.hid (rk3.out.next hb)
    have k4 := Lib.hid (Below.after k3.out hb)
    have rj4 := Lib.hid hh
    clear hb hh ri3 rk3 k3
    go_wp2_with fail
    refine (c5.out A2 ni q2 A3 nk q3 _ ri4.out rk4.out).mono ?_
    rintro e w5 ⟨A5, q5, rfl, hh, hb⟩
    have ri5 := Lib.hid (ri4.out.next hb)
    have rj5 := Lib.hid (rj4.out.next hb)
    have k5 := Lib.hid (Below.after k4.out hb)
    have rm5 := Lib.hid hh
    clear hb hh ri4 rj4 k4
    go_wp2_with fail
    refine (same7_yes A4 A5 nj q4 q5 lj _ rj5.out.lie rm5.out.lie).mono ?_
    rintro e w6 ⟨rfl, hb⟩
    have ri6 := Lib.hid (ri5.out.next hb)
    have k6 := Lib.hid (Below.after k5.out hb)
    clear hb  ri5 k5
    go_wp2_with fail
    refine (c6.out _).mono ?_
    rintro e w7 ⟨A6, q6, rfl, hh, hb⟩
    have ri7 := Lib.hid (ri6.out.next hb)
    have k7 := Lib.hid (Below.after k6.out hb)
    have ra7 := Lib.hid hh
    clear hb hh ri6 k6
    go_wp2_with fail
    refine (c7.out _).mono ?_
    rintro e w8 ⟨A7, q7, rfl, hh, hb⟩
    have ri8 := Lib.hid (ri7.out.next hb)
    have ra8 := Lib.hid (ra7.out.next hb)
    have k8 := Lib.hid (Below.after k7.out hb)
    have rb8 := Lib.hid hh
    clear hb hh ri7 ra7 k7
    go_wp2_with fail
    refine (y1.out A6 na q6 A7 nb q7 _ ra8.out rb8.out).mono ?_
    rintro e w9 ⟨rfl, hb⟩
    have ri9 := Lib.hid (ri8.out.next hb)
    have k9 := Lib.hid (Below.after k8.out hb)
    clear hb  ri8 k8
    go_wp2_with fail
    refine (c7.out _).mono ?_
    rintro e w10 ⟨A8, q8, rfl, hh, hb⟩
    have ri10 := Lib.hid (ri9.out.next hb)
    have k10 := Lib.hid (Below.after k9.out hb)
    have rb10 := Lib.hid hh
    clear hb hh ri9 k9
    go_wp2_with fail
    refine (c6.out _).mono ?_
    rintro e w11 ⟨A9, q9, rfl, hh, hb⟩
    have ri11 := Lib.hid (ri10.out.next hb)
    have rb11 := Lib.hid (rb10.out.next hb)
    have k11 := Lib.hid (Below.after k10.out hb)
    have ra11 := Lib.hid hh
    clear hb hh ri10 rb10 k10
    go_wp2_with fail
    refine (y2.out A8 nb q8 A9 na q9 _ rb11.out ra11.out).mono ?_
    rintro e w12 ⟨rfl, hb⟩
    have ri12 := Lib.hid (ri11.out.next hb)
    have k12 := Lib.hid (Below.after k11.out hb)
    clear hb  ri11 k11
    go_wp2_with fail
    refine (c6.out _).mono ?_
    rintro e w13 ⟨A10, q10, rfl, hh, hb⟩
    have ri13 := Lib.hid (ri12.out.next hb)
    have k13 := Lib.hid (Below.after k12.out hb)
    have ra13 := Lib.hid hh
    clear hb hh ri12 k12
    go_wp2_with fail
    refine (c8.out A10 na q10 A2 ni q2 _ ra13.out ri13.out).mono ?_
    rintro e w14 ⟨A11, q11, rfl, hh, hb⟩
    have ri14 := Lib.hid (ri13.out.next hb)
    have k14 := Lib.hid (Below.after k13.out hb)
    have ru14 := Lib.hid hh
    clear hb hh ri13 k13
    go_wp2_with fail
    refine (c7.out _).mono ?_
    rintro e w15 ⟨A12, q12, rfl, hh, hb⟩
    have ri15 := Lib.hid (ri14.out.next hb)
    have ru15 := Lib.hid (ru14.out.next hb)
    have k15 := Lib.hid (Below.after k14.out hb)
    have rb15 := Lib.hid hh
    clear hb hh ri14 ru14 k14
    go_wp2_with fail
    refine (c9.out A12 nb q12 A2 ni q2 _ rb15.out ri15.out).mono ?_
    rintro e w16 ⟨A13, q13, rfl, hh, hb⟩
    have ru16 := Lib.hid (ru15.out.next hb)
    have k16 := Lib.hid (Below.after k15.out hb)
    have rv16 := Lib.hid hh
    clear hb hh ru15 k15
    go_wp2_with fail
    refine (y3.out A11 nu q11 A13 nv q13 _ ru16.out rv16.out).mono ?_
    rintro e w17 ⟨rfl, hb⟩
    have k17 := Lib.hid (Below.after k16.out hb)
    clear hb  k16
    go_wp2_with fail
    refine (alive7_any hN _ (hT.out.next k17.out)).mono ?_
    rintro e w18 ⟨rfl, hb⟩
    have k18 := Lib.hid (Below.after k17.out hb)
    clear hb  k17
    go_wp2
    go_ret
    exact ⟨rfl, k18.out⟩
  · rw [e1] at r7 r9
    rw [e2] at r8
    have d1 : decide ((a : Int) < (b : Int)) = false := decide_eq_false (by omega)
    have d2 : ((a : Int) == (b : Int)) = false := by simp; omega
    have y1 := Lib.hid (fun A n c B m d W => hN.cmp A n c la B m d lb (1) W r7)
    have y2 := Lib.hid (fun A n c B m d W => hN.cmp A n c lb B m d la (-1) W r8)
    have y3 := Lib.hid (fun A n c B m d W => hN.cmp A n c lu B m d lv (1) W r9)
    clear r7 r8 r9 e1 e2
    go_enter Tryd.func6, Tryd.ntmps6
    go_wp2_with fail
    refine (c1.out _).mono ?_
    rintro e w1 ⟨A1, q1, rfl, hh, hb⟩
    have k1 := Lib.hid (Below.after k0.out hb)
    have rx1 := Lib.hid hh
    clear hb hh k0
    go_wp2_with fail
    refine (c2.out A1 nx q1 _ rx1.out).mono ?_
    rintro e w2 ⟨A2, q2, rfl, hh, hb⟩
    have rx2 := Lib.hid (rx1.out.next hb)
    have k2 := Lib.hid (Below.after k1.out hb)
    have ri2 := Lib.hid hh
    clear hb hh rx1 k1
    go_wp2_with fail
    refine (c3.out A1 nx q1 _ rx2.out).mono ?_
    rintro e w3 ⟨A3, q3, rfl, hh, hb⟩
    have rx3 := Lib.hid (rx2.out.next hb)
    have ri3 := Lib.hid (ri2.out.next hb)
    have k3 := Lib.hid (Below.after k2.out hb)
    have rk3 := Lib.hid hh
    clear hb hh rx2 ri2 k2
    go_wp2_with fail
    refine (c4.out A1 nx q1 _ rx3.out).mono ?_
    rintro e w4 ⟨A4, q4, rfl, hh, hb⟩
    have ri4 := Lib.hid (ri3.out.next hb)
    have rk4 := Lib.hid (rk3.out.next hb)
    have k4 := Lib.hid (Below.after k3.out hb)
    have rj4 := Lib.hid hh
    clear hb hh ri3 rk3 k3
    go_wp2_with fail
    refine (c5.out A2 ni q2 A3 nk q3 _ ri4.out rk4.out).mono ?_
    rintro e w5 ⟨A5, q5, rfl, hh, hb⟩
    have ri5 := Lib.hid (ri4.out.next hb)
    have rj5 := Lib.hid (rj4.out.next hb)
    have k5 := Lib.hid (Below.after k4.out hb)
    have rm5 := Lib.hid hh
    clear hb hh ri4 rj4 k4
    go_wp2_with fail
    refine (same7_yes A4 A5 nj q4 q5 lj _ rj5.out.lie rm5.out.lie).mono ?_
    rintro e w6 ⟨rfl, hb⟩
    have ri6 := Lib.hid (ri5.out.next hb)
    have k6 := Lib.hid (Below.after k5.out hb)
    clear hb  ri5 k5
    go_wp2_with fail
    refine (c6.out _).mono ?_
    rintro e w7 ⟨A6, q6, rfl, hh, hb⟩
    have ri7 := Lib.hid (ri6.out.next hb)
    have k7 := Lib.hid (Below.after k6.out hb)
    have ra7 := Lib.hid hh
    clear hb hh ri6 k6
    go_wp2_with fail
    refine (c7.out _).mono ?_
    rintro e w8 ⟨A7, q7, rfl, hh, hb⟩
    have ri8 := Lib.hid (ri7.out.next hb)
    have ra8 := Lib.hid (ra7.out.next hb)
    have k8 := Lib.hid (Below.after k7.out hb)
    have rb8 := Lib.hid hh
    clear hb hh ri7 ra7 k7
    go_wp2_with fail
    refine (y1.out A6 na q6 A7 nb q7 _ ra8.out rb8.out).mono ?_
    rintro e w9 ⟨rfl, hb⟩
    have ri9 := Lib.hid (ri8.out.next hb)
    have k9 := Lib.hid (Below.after k8.out hb)
    clear hb  ri8 k8
    go_wp2_with fail
    refine (c7.out _).mono ?_
    rintro e w10 ⟨A8, q8, rfl, hh, hb⟩
    have ri10 := Lib.hid (ri9.out.next hb)
    have k10 := Lib.hid (Below.after k9.out hb)
    have rb10 := Lib.hid hh
    clear hb hh ri9 k9
    go_wp2_with fail
    refine (c6.out _).mono ?_
    rintro e w11 ⟨A9, q9, rfl, hh, hb⟩
    have ri11 := Lib.hid (ri10.out.next hb)
    have rb11 := Lib.hid (rb10.out.next hb)
    have k11 := Lib.hid (Below.after k10.out hb)
    have ra11 := Lib.hid hh
    clear hb hh ri10 rb10 k10
    go_wp2_with fail
    refine (y2.out A8 nb q8 A9 na q9 _ rb11.out ra11.out).mono ?_
    rintro e w12 ⟨rfl, hb⟩
    have ri12 := Lib.hid (ri11.out.next hb)
    have k12 := Lib.hid (Below.after k11.out hb)
    clear hb  ri11 k11
    go_wp2_with fail
    refine (c6.out _).mono ?_
    rintro e w13 ⟨A10, q10, rfl, hh, hb⟩
    have ri13 := Lib.hid (ri12.out.next hb)
    have k13 := Lib.hid (Below.after k12.out hb)
    have ra13 := Lib.hid hh
    clear hb hh ri12 k12
    go_wp2_with fail
    refine (c8.out A10 na q10 A2 ni q2 _ ra13.out ri13.out).mono ?_
    rintro e w14 ⟨A11, q11, rfl, hh, hb⟩
    have ri14 := Lib.hid (ri13.out.next hb)
    have k14 := Lib.hid (Below.after k13.out hb)
    have ru14 := Lib.hid hh
    clear hb hh ri13 k13
    go_wp2_with fail
    refine (c7.out _).mono ?_
    rintro e w15 ⟨A12, q12, rfl, hh, hb⟩
    have ri15 := Lib.hid (ri14.out.next hb)
    have ru15 := Lib.hid (ru14.out.next hb)
    have k15 := Lib.hid (Below.after k14.out hb)
    have rb15 := Lib.hid hh
    clear hb hh ri14 ru14 k14
    go_wp2_with fail
    refine (c9.out A12 nb q12 A2 ni q2 _ rb15.out ri15.out).mono ?_
    rintro e w16 ⟨A13, q13, rfl, hh, hb⟩
    have ru16 := Lib.hid (ru15.out.next hb)
    have k16 := Lib.hid (Below.after k15.out hb)
    have rv16 := Lib.hid hh
    clear hb hh ru15 k15
    go_wp2_with fail
    refine (y3.out A11 nu q11 A13 nv q13 _ ru16.out rv16.out).mono ?_
    rintro e w17 ⟨rfl, hb⟩
    have k17 := Lib.hid (Below.after k16.out hb)
    clear hb  k16
    go_wp2_with fail
    refine (alive7_any hN _ (hT.out.next k17.out)).mono ?_
    rintro e w18 ⟨rfl, hb⟩
    have k18 := Lib.hid (Below.after k17.out hb)
    clear hb  k17
    go_wp2
    go_ret
    exact ⟨rfl, k18.out⟩
end Go.Proofs.YtmndfncogkjjpaaDoor
