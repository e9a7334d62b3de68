/- The statement FoldTells of layer 3, walked. -/
import Derived.Test.YtbjfoopiicppeaaL3Alive
namespace Go.Proofs.Ytbjfoopiicppeaa
open Go.RowKit Go.Proofs.Foldm

theorem makes_of_owns {w w' : World} {n : Nat} {xs : List Value} {e : Ending} (h : Owns w w.heap.size n xs e w') : Makes w n xs e w' := by
  obtain ⟨v, he, ho, hb⟩ := h
  rcases ho.2 with ⟨rfl, rfl⟩ | ⟨g, cap, cur, rfl, _, _, hnc, hm, _⟩
  · exact ⟨none, 0, he, Nat.le_refl _, Nat.zero_le _, Row.of_own ho, hb⟩
  · exact ⟨_, cap, he, hnc, hm, Row.of_own ho, hb⟩
theorem own_makes {A : Option Addr} {n c : Nat} {l : List (BitVec 64)} (hl : l.length = n) (h3 : n ≤ 300) {w : World} (hr : Row w w.heap.size A (l.map K)) (hA : A = none → c = 0) :
    Calls Try.prog 9 #[.slice A n c] w (Makes w n (l.map K)) := (own_any A n c l hl h3 w hr hA).mono fun _ _ h => makes_of_owns h
theorem refSums_makes {A : Option Addr} {n c : Nat} {l : List (BitVec 64)} (hl : l.length = n) (hn : n ≤ c) (hc : c ≤ maxLen) (h3 : n ≤ 300) {w : World} (hr : Row w w.heap.size A (l.map K)) :
    Calls Try.prog 17 #[.slice A n c] w (Makes w n ((sums l).map K)) := (refSums_any A n c l hl hn hc h3 w hr).mono fun _ _ h => makes_of_owns h

/-- what Run answers, of whatever policy and row: the reference answers the same -/
theorem run_both (p : Nat) (n : Nat) (l : List (BitVec 64)) (hl : l.length = n) : ∃ x y : Int,
    Hid (∀ A c w, n ≤ c → c ≤ maxLen → Row w w.heap.size A (l.map K) → Calls Try.prog 8 #[.int .u8 p, .slice A n c] w fun e w' => e = .returned (.tuple #[.int .i64 x, .int .i64 y]) ∧ Below w.heap.size w w') ∧
    Hid (∀ A c w, n ≤ c → c ≤ maxLen → Row w w.heap.size A (l.map K) → Calls Try.prog 10 #[.int .u8 p, .slice A n c] w fun e w' => e = .returned (.tuple #[.int .i64 x, .int .i64 y]) ∧ w = w') := by
  by_cases hp : 1 ≤ p ∧ p ≤ 3
  · by_cases h0 : 0 < n
    · exact ⟨(run p l).toInt, 0, fun A c w h1 h2 hr => run_at p hp.1 hp.2 A n c l hl h0 h1 h2 w hr, fun A c w h1 h2 hr => refRun_at p hp.1 hp.2 A n c l hl h0 h1 h2 w hr⟩
    · obtain rfl : n = 0 := by omega
      exact ⟨0, 3, fun A c w _ _ _ => run_empty p hp.1 hp.2 A c w, fun A c w _ _ _ => refRun_empty p hp.1 hp.2 A c w⟩
  · exact ⟨0, 2, fun A c w _ _ _ => run_none p (by omega) A n c w, fun A c w _ _ _ => refRun_none p (by omega) A n c w⟩

set_option maxRecDepth 100000 in
set_option maxHeartbeats 2000000 in
theorem tells_yes (p : Nat) (h1 : 1 ≤ p) (h2 : p ≤ 3) (a b : BitVec 64) (A : Option Addr) (n c : Nat) (l : List (BitVec 64)) (hl : l.length = n) (hn : n ≤ c) (hc : c ≤ maxLen) (hA : A = none → c = 0) (h3 : n ≤ 300) (w : World) (hr : Row w w.heap.size A (l.map K)) :
    Calls Try.prog 3 #[.int .u8 p, K a, K b, .slice A n c] w fun e w' => e = .returned (.bool true) ∧ Below w.heap.size w w' := by
  obtain ⟨x, y, hR, hF⟩ := run_both p n l hl
  have hl' := Lib.hid hl
  have hr' := Lib.hid hr
  have hc' := Lib.hid hc
  have hA' := Lib.hid hA
  have k0 := Lib.hid (Below.refl w.heap.size w)
  clear hl hr hc hA
  obtain ⟨t, ht⟩ : ∃ t, cmb p a b = t := ⟨_, rfl⟩
  have hcm : Hid (∀ W, Calls Try.prog 7 #[.int .u8 p, K a, K b] W fun e w' => e = .returned (.tuple #[K t, .int .i64 0]) ∧ Below W.heap.size W w') := fun W => ht ▸ combine_at p h1 h2 a b W
  have hcr : Hid (∀ W, Calls Try.prog 18 #[.int .u8 p, K a, K b] W fun e w' => e = .returned (K t) ∧ W = w') := fun W => ht ▸ refCombine_any p h1 h2 a b W
  clear ht
  go_enter Try.func3, Try.ntmps3
  go_wp2_with fail
  refine (hcm.out _).mono ?_
  rintro e w1 ⟨rfl, hb⟩
  have k1 := Lib.hid (Below.after k0.out hb)
  clear hb
  go_wp2_with fail
  refine (own_makes hl'.out h3 (hr'.out.next k1.out) hA'.out).mono ?_
  rintro e w2 ⟨A2, c2, rfl, hc1, hc2, hrr, hb⟩
  have k2 := Lib.hid (Below.after k1.out hb)
  have r2 := Lib.hid hrr
  have n2 := Lib.hid (And.intro hc1 hc2)
  have b2 := Lib.hid hb
  clear hb hrr hc1 hc2
  go_wp2_with fail
  refine (hR.out _ _ _ n2.out.1 n2.out.2 r2.out).mono ?_
  rintro e w3 ⟨rfl, hb⟩
  have k3 := Lib.hid (Below.after k2.out hb)
  clear hb
  go_wp2_with fail
  refine (hF.out _ _ _ hn hc'.out (hr'.out.next k3.out)).mono ?_
  rintro e w4 ⟨rfl, rfl⟩
  go_wp2_with fail
  refine (may_at p h1 h2 _).mono ?_
  rintro e w5 ⟨rfl, hb⟩
  have k5 := Lib.hid (Below.after k3.out hb)
  clear hb
  go_wp2_with fail
  refine (refMay_at p h1 h2 _).mono ?_
  rintro e w6 ⟨rfl, rfl⟩
  go_wp2_with fail
  refine (sum_at _ _ _ _ hl'.out hn hc'.out _ (hr'.out.next k5.out)).mono ?_
  rintro e w7 ⟨rfl, hb⟩
  have k7 := Lib.hid (Below.after k5.out hb)
  clear hb
  go_wp2_with fail
  refine (refSum_at _ _ _ _ hl'.out hn hc'.out _ (hr'.out.next k7.out)).mono ?_
  rintro e w8 ⟨rfl, rfl⟩
  go_wp2_with fail
  refine (sums_any _ _ _ _ hl'.out hn h3 _ (hr'.out.next k7.out)).mono ?_
  rintro e w9 ⟨A9, c9, rfl, hc1, hc2, hrr, hb⟩
  have k9 := Lib.hid (Below.after k7.out hb)
  have r9 := Lib.hid hrr
  have n9 := Lib.hid (And.intro hc1 hc2)
  have b9 := Lib.hid hb
  clear hb hrr hc1 hc2
  go_wp2_with fail
  refine (refSums_makes hl'.out hn hc'.out h3 (hr'.out.next k9.out)).mono ?_
  rintro e w10 ⟨A10, c10, rfl, hc1, hc2, hrr, hb⟩
  have k10 := Lib.hid (Below.after k9.out hb)
  have r10 := Lib.hid hrr
  have n10 := Lib.hid (And.intro hc1 hc2)
  have b10 := Lib.hid hb
  clear hb hrr hc1 hc2
  go_wp2_with fail
  refine (same_yes _ _ _ _ _ (sums l) (by rw [sums_length]; exact hl'.out) (by unfold maxLen; omega) _ (r9.out.next b10.out) r10.out).mono ?_
  rintro e w11 ⟨rfl, hb⟩
  have k11 := Lib.hid (Below.after k10.out hb)
  clear hb
  go_wp2_with fail
  refine (refMay_at p h1 h2 _).mono ?_
  rintro e w12 ⟨rfl, rfl⟩
  go_wp2_with fail
  refine (hcr.out _).mono ?_
  rintro e w13 ⟨rfl, rfl⟩
  go_wp2_with fail
  refine (alive3_any _).mono ?_
  rintro e w14 ⟨rfl, hb⟩
  have k14 := Lib.hid (Below.after k11.out hb)
  clear hb
  go_wp2
  go_ret
  exact ⟨rfl, k14.out⟩

set_option maxRecDepth 100000 in
set_option maxHeartbeats 2000000 in
theorem tells_no (p : Nat) (hp : ¬ (1 ≤ (p : Int) ∧ (p : Int) ≤ 3)) (a b : BitVec 64) (A : Option Addr) (n c : Nat) (l : List (BitVec 64)) (hl : l.length = n) (hn : n ≤ c) (hc : c ≤ maxLen) (hA : A = none → c = 0) (h3 : n ≤ 300) (w : World) (hr : Row w w.heap.size A (l.map K)) :
    Calls Try.prog 3 #[.int .u8 p, K a, K b, .slice A n c] w fun e w' => e = .returned (.bool true) ∧ Below w.heap.size w w' := by
  obtain ⟨x, y, hR, hF⟩ := run_both p n l hl
  have hl' := Lib.hid hl
  have hr' := Lib.hid hr
  have hc' := Lib.hid hc
  have hA' := Lib.hid hA
  have k0 := Lib.hid (Below.refl w.heap.size w)
  clear hl hr hc hA
  have hp' := Lib.hid hp
  clear hp
  go_enter Try.func3, Try.ntmps3
  go_wp2_with fail
  refine (combine_none _ hp'.out _ _ _).mono ?_
  rintro e w1 ⟨rfl, hb⟩
  have k1 := Lib.hid (Below.after k0.out hb)
  clear hb
  go_wp2_with fail
  refine (own_makes hl'.out h3 (hr'.out.next k1.out) hA'.out).mono ?_
  rintro e w2 ⟨A2, c2, rfl, hc1, hc2, hrr, hb⟩
  have k2 := Lib.hid (Below.after k1.out hb)
  have r2 := Lib.hid hrr
  have n2 := Lib.hid (And.intro hc1 hc2)
  have b2 := Lib.hid hb
  clear hb hrr hc1 hc2
  go_wp2_with fail
  refine (hR.out _ _ _ n2.out.1 n2.out.2 r2.out).mono ?_
  rintro e w3 ⟨rfl, hb⟩
  have k3 := Lib.hid (Below.after k2.out hb)
  clear hb
  go_wp2_with fail
  refine (hF.out _ _ _ hn hc'.out (hr'.out.next k3.out)).mono ?_
  rintro e w4 ⟨rfl, rfl⟩
  go_wp2_with fail
  refine (may_none _ hp'.out _).mono ?_
  rintro e w5 ⟨rfl, hb⟩
  have k5 := Lib.hid (Below.after k3.out hb)
  clear hb
  go_wp2_with fail
  refine (refMay_none _ hp'.out _).mono ?_
  rintro e w6 ⟨rfl, rfl⟩
  go_wp2_with fail
  refine (sum_at _ _ _ _ hl'.out hn hc'.out _ (hr'.out.next k5.out)).mono ?_
  rintro e w7 ⟨rfl, hb⟩
  have k7 := Lib.hid (Below.after k5.out hb)
  clear hb
  go_wp2_with fail
  refine (refSum_at _ _ _ _ hl'.out hn hc'.out _ (hr'.out.next k7.out)).mono ?_
  rintro e w8 ⟨rfl, rfl⟩
  go_wp2_with fail
  refine (sums_any _ _ _ _ hl'.out hn h3 _ (hr'.out.next k7.out)).mono ?_
  rintro e w9 ⟨A9, c9, rfl, hc1, hc2, hrr, hb⟩
  have k9 := Lib.hid (Below.after k7.out hb)
  have r9 := Lib.hid hrr
  have n9 := Lib.hid (And.intro hc1 hc2)
  have b9 := Lib.hid hb
  clear hb hrr hc1 hc2
  go_wp2_with fail
  refine (refSums_makes hl'.out hn hc'.out h3 (hr'.out.next k9.out)).mono ?_
  rintro e w10 ⟨A10, c10, rfl, hc1, hc2, hrr, hb⟩
  have k10 := Lib.hid (Below.after k9.out hb)
  have r10 := Lib.hid hrr
  have n10 := Lib.hid (And.intro hc1 hc2)
  have b10 := Lib.hid hb
  clear hb hrr hc1 hc2
  go_wp2_with fail
  refine (same_yes _ _ _ _ _ (sums l) (by rw [sums_length]; exact hl'.out) (by unfold maxLen; omega) _ (r9.out.next b10.out) r10.out).mono ?_
  rintro e w11 ⟨rfl, hb⟩
  have k11 := Lib.hid (Below.after k10.out hb)
  clear hb
  go_wp2_with fail
  refine (refMay_none _ hp'.out _).mono ?_
  rintro e w12 ⟨rfl, rfl⟩
  go_wp2_with fail
  refine (alive3_any _).mono ?_
  rintro e w13 ⟨rfl, hb⟩
  have k13 := Lib.hid (Below.after k11.out hb)
  clear hb
  go_wp2
  go_ret
  exact ⟨rfl, k13.out⟩

set_option maxHeartbeats 400000 in
theorem tells_big (p : Nat) (a b : BitVec 64) (A : Option Addr) (n c : Nat) (h3 : 300 < n) (w : World) :
    Calls Try.prog 3 #[.int .u8 p, K a, K b, .slice A n c] w fun e w' => e = .returned (.bool true) ∧ Below w.heap.size w w' := by
  go_enter Try.func3, Try.ntmps3
  go_wp2_with fail
  refine (alive3_any _).mono ?_
  rintro e w1 ⟨rfl, hb⟩
  have k1 := Lib.hid hb
  clear hb
  go_wp2
  go_ret
  exact ⟨rfl, k1.out⟩

theorem tells3 (p : Nat) (a b : BitVec 64) (A : Option Addr) (n c : Nat) (l : List (BitVec 64)) (hl : l.length = n) (hn : n ≤ c) (hc : c ≤ maxLen) (hA : A = none → c = 0) (w : World) (hr : Row w w.heap.size A (l.map K)) :
    Calls Try.prog 3 #[.int .u8 p, K a, K b, .slice A n c] w fun e w' => e = .returned (.bool true) ∧ Below w.heap.size w w' := by
  rcases Nat.lt_or_ge 300 n with h | h
  · exact tells_big p a b A n c h w
  · by_cases hp : 1 ≤ p ∧ p ≤ 3
    · exact tells_yes p hp.1 hp.2 a b A n c l hl hn hc hA h w hr
    · exact tells_no p (by omega) a b A n c l hl hn hc hA h w hr
end Go.Proofs.Ytbjfoopiicppeaa
