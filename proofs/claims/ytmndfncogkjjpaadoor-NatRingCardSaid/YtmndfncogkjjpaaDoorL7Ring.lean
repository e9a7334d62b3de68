/- The statement NatRing of layer 7, walked. -/
import Derived.Test.YtmndfncogkjjpaaDoorL7Rules
namespace Go.Proofs.YtmndfncogkjjpaaDoor
open Go.RowKit Go.Proofs.Natm

set_option maxRecDepth 100000 in
set_option maxHeartbeats 2000000 in
theorem natRing_many1 (hN : NatSays) (A B C : Option Addr) (n c m d k f : Nat) (h : 40 < n) (hn : n ≤ maxLen) (w : World) (hT : Hid (Tens w)) : Calls Tryd.prog 5 #[.slice A n c, .slice B m d, .slice C k f] w fun e w' => e = .returned (.bool true) ∧ Below w.heap.size w w' := by
  unfold maxLen at hn
  have d1 : decide ((40 : Int) < (n : Int)) = true := decide_eq_true (by omega)
  go_enter Tryd.func5, Tryd.ntmps5
  go_wp2_with (go_at_call 7; refine (alive7_any hN _ hT.out).mono ?_; rintro e w1 ⟨rfl, hb⟩; have k1 := Lib.hid hb; clear hb)
  go_ret
  exact ⟨rfl, k1.out⟩

set_option maxRecDepth 100000 in
set_option maxHeartbeats 2000000 in
theorem natRing_many2 (hN : NatSays) (A B C : Option Addr) (n c m d k f : Nat) (h1 : n ≤ 40) (h : 40 < m) (hn : m ≤ maxLen) (w : World) (hT : Hid (Tens w)) : Calls Tryd.prog 5 #[.slice A n c, .slice B m d, .slice C k f] w fun e w' => e = .returned (.bool true) ∧ Below w.heap.size w w' := by
  unfold maxLen at hn
  have d1 : decide ((40 : Int) < (n : Int)) = false := decide_eq_false (by omega)
  have d2 : decide ((40 : Int) < (m : Int)) = true := decide_eq_true (by omega)
  go_enter Tryd.func5, Tryd.ntmps5
  go_wp2_with (go_at_call 7; refine (alive7_any hN _ hT.out).mono ?_; rintro e w1 ⟨rfl, hb⟩; have k1 := Lib.hid hb; clear hb)
  go_ret
  exact ⟨rfl, k1.out⟩

set_option maxRecDepth 100000 in
set_option maxHeartbeats 2000000 in
theorem natRing_many3 (hN : NatSays) (A B C : Option Addr) (n c m d k f : Nat) (h1 : n ≤ 40) (h2 : m ≤ 40) (h : 40 < k) (hn : k ≤ maxLen) (w : World) (hT : Hid (Tens w)) : Calls Tryd.prog 5 #[.slice A n c, .slice B m d, .slice C k f] w fun e w' => e = .returned (.bool true) ∧ Below w.heap.size w w' := by
  unfold maxLen at hn
  have d1 : decide ((40 : Int) < (n : Int)) = false := decide_eq_false (by omega)
  have d2 : decide ((40 : Int) < (m : Int)) = false := decide_eq_false (by omega)
  have d3 : decide ((40 : Int) < (k : Int)) = true := decide_eq_true (by omega)
  go_enter Tryd.func5, Tryd.ntmps5
  go_wp2_with (go_at_call 7; refine (alive7_any hN _ hT.out).mono ?_; rintro e w1 ⟨rfl, hb⟩; have k1 := Lib.hid hb; clear hb)
  go_ret
  exact ⟨rfl, k1.out⟩

set_option maxRecDepth 100000 in
set_option maxHeartbeats 4000000 in
theorem natRing_no1 (hN : NatSays) (A B C : Option Addr) (n c m d k f : Nat) (a b e : List Nat) (h1 : n ≤ 40) (h2 : m ≤ 40) (h3 : k ≤ 40) (ma : mayL a = false) (w : World) (hT : Hid (Tens w)) (hA : LieW w A n c a) (hB : LieW w B m d b) (hC : LieW w C k f e) : Calls Tryd.prog 5 #[.slice A n c, .slice B m d, .slice C k f] w fun e w' => e = .returned (.bool true) ∧ Below w.heap.size w w' := by
  have d1 : decide ((40 : Int) < (n : Int)) = false := decide_eq_false (by omega)
  have d2 : decide ((40 : Int) < (m : Int)) = false := decide_eq_false (by omega)
  have d3 : decide ((40 : Int) < (k : Int)) = false := decide_eq_false (by omega)
  have k0 := Lib.hid (Below.refl w.heap.size w)
  have la0 := Lib.hid hA
  have lb0 := Lib.hid hB
  have lc0 := Lib.hid hC
  have ya := Lib.hid (fun W => hN.may A n c a false W ma)
  clear hA hB hC ma
  go_enter Tryd.func5, Tryd.ntmps5
  go_wp2_with fail
  refine (ya.out _ la0.out).mono ?_
  rintro e w1 ⟨rfl, hb⟩
  have la1 := Lib.hid (la0.out.next hb)
  have lb1 := Lib.hid (lb0.out.next hb)
  have lc1 := Lib.hid (lc0.out.next hb)
  have k1 := Lib.hid (Below.after k0.out hb)
  clear hb  la0 lb0 lc0 k0
  go_wp2_with fail
  refine (alive7_any hN _ (hT.out.next k1.out)).mono ?_
  rintro e w2 ⟨rfl, hb⟩
  have la2 := Lib.hid (la1.out.next hb)
  have lb2 := Lib.hid (lb1.out.next hb)
  have lc2 := Lib.hid (lc1.out.next hb)
  have k2 := Lib.hid (Below.after k1.out hb)
  clear hb  la1 lb1 lc1 k1
  go_wp2
  go_ret
  exact ⟨rfl, k2.out⟩

set_option maxRecDepth 100000 in
set_option maxHeartbeats 4000000 in
theorem natRing_no2 (hN : NatSays) (A B C : Option Addr) (n c m d k f : Nat) (a b e : List Nat) (h1 : n ≤ 40) (h2 : m ≤ 40) (h3 : k ≤ 40) (ma : mayL a = true) (mb : mayL b = false) (w : World) (hT : Hid (Tens w)) (hA : LieW w A n c a) (hB : LieW w B m d b) (hC : LieW w C k f e) : Calls Tryd.prog 5 #[.slice A n c, .slice B m d, .slice C k f] w fun e w' => e = .returned (.bool true) ∧ Below w.heap.size w w' := by
  have d1 : decide ((40 : Int) < (n : Int)) = false := decide_eq_false (by omega)
  have d2 : decide ((40 : Int) < (m : Int)) = false := decide_eq_false (by omega)
  have d3 : decide ((40 : Int) < (k : Int)) = false := decide_eq_false (by omega)
  have k0 := Lib.hid (Below.refl w.heap.size w)
  have la0 := Lib.hid hA
  have lb0 := Lib.hid hB
  have lc0 := Lib.hid hC
  have ya := Lib.hid (fun W => hN.may A n c a true W ma)
  have yb := Lib.hid (fun W => hN.may B m d b false W mb)
  clear hA hB hC ma mb
  go_enter Tryd.func5, Tryd.ntmps5
  go_wp2_with fail
  refine (ya.out _ la0.out).mono ?_
  rintro e w1 ⟨rfl, hb⟩
  have la1 := Lib.hid (la0.out.next hb)
  have lb1 := Lib.hid (lb0.out.next hb)
  have lc1 := Lib.hid (lc0.out.next hb)
  have k1 := Lib.hid (Below.after k0.out hb)
  clear hb  la0 lb0 lc0 k0
  go_wp2_with fail
  refine (yb.out _ lb1.out).mono ?_
  rintro e w2 ⟨rfl, hb⟩
  have la2 := Lib.hid (la1.out.next hb)
  have lb2 := Lib.hid (lb1.out.next hb)
  have lc2 := Lib.hid (lc1.out.next hb)
  have k2 := Lib.hid (Below.after k1.out hb)
  clear hb  la1 lb1 lc1 k1
  go_wp2_with fail
  refine (alive7_any hN _ (hT.out.next k2.out)).mono ?_
  rintro e w3 ⟨rfl, hb⟩
  have la3 := Lib.hid (la2.out.next hb)
  have lb3 := Lib.hid (lb2.out.next hb)
  have lc3 := Lib.hid (lc2.out.next hb)
  have k3 := Lib.hid (Below.after k2.out hb)
  clear hb  la2 lb2 lc2 k2
  go_wp2
  go_ret
  exact ⟨rfl, k3.out⟩

set_option maxRecDepth 100000 in
set_option maxHeartbeats 4000000 in
theorem natRing_no3 (hN : NatSays) (A B C : Option Addr) (n c m d k f : Nat) (a b e : List Nat) (h1 : n ≤ 40) (h2 : m ≤ 40) (h3 : k ≤ 40) (ma : mayL a = true) (mb : mayL b = true) (me : mayL e = false) (w : World) (hT : Hid (Tens w)) (hA : LieW w A n c a) (hB : LieW w B m d b) (hC : LieW w C k f e) : Calls Tryd.prog 5 #[.slice A n c, .slice B m d, .slice C k f] w fun e w' => e = .returned (.bool true) ∧ Below w.heap.size w w' := by
  have d1 : decide ((40 : Int) < (n : Int)) = false := decide_eq_false (by omega)
  have d2 : decide ((40 : Int) < (m : Int)) = false := decide_eq_false (by omega)
  have d3 : decide ((40 : Int) < (k : Int)) = false := decide_eq_false (by omega)
  have k0 := Lib.hid (Below.refl w.heap.size w)
  have la0 := Lib.hid hA
  have lb0 := Lib.hid hB
  have lc0 := Lib.hid hC
  have ya := Lib.hid (fun W => hN.may A n c a true W ma)
  have yb := Lib.hid (fun W => hN.may B m d b true W mb)
  have ye := Lib.hid (fun W => hN.may C k f e false W me)
  clear hA hB hC ma mb me
  go_enter Tryd.func5, Tryd.ntmps5
  go_wp2_with fail
  refine (ya.out _ la0.out).mono ?_
  rintro e w1 ⟨rfl, hb⟩
  have la1 := Lib.hid (la0.out.next hb)
  have lb1 := Lib.hid (lb0.out.next hb)
  have lc1 := Lib.hid (lc0.out.next hb)
  have k1 := Lib.hid (Below.after k0.out hb)
  clear hb  la0 lb0 lc0 k0
  go_wp2_with fail
  refine (yb.out _ lb1.out).mono ?_
  rintro e w2 ⟨rfl, hb⟩
  have la2 := Lib.hid (la1.out.next hb)
  have lb2 := Lib.hid (lb1.out.next hb)
  have lc2 := Lib.hid (lc1.out.next hb)
  have k2 := Lib.hid (Below.after k1.out hb)
  clear hb  la1 lb1 lc1 k1
  go_wp2_with fail
  refine (ye.out _ lc2.out).mono ?_
  rintro e w3 ⟨rfl, hb⟩
  have la3 := Lib.hid (la2.out.next hb)
  have lb3 := Lib.hid (lb2.out.next hb)
  have lc3 := Lib.hid (lc2.out.next hb)
  have k3 := Lib.hid (Below.after k2.out hb)
  clear hb  la2 lb2 lc2 k2
  go_wp2_with fail
  refine (alive7_any hN _ (hT.out.next k3.out)).mono ?_
  rintro e w4 ⟨rfl, hb⟩
  have la4 := Lib.hid (la3.out.next hb)
  have lb4 := Lib.hid (lb3.out.next hb)
  have lc4 := Lib.hid (lc3.out.next hb)
  have k4 := Lib.hid (Below.after k3.out hb)
  clear hb  la3 lb3 lc3 k3
  go_wp2
  go_ret
  exact ⟨rfl, k4.out⟩

/-- a row of at most 40 words that may be -/
theorem ring_row {W : World} {A : Option Addr} {n c : Nat} {l : List Nat} (hm : mayL l = true) (h4 : n ≤ 40) (h : LieW W A n c l) : l = D (num l) ∧ num l < Wd ^ 40 := by
  obtain ⟨h1, _⟩ := may_dig hm h.words
  exact ⟨h1.symm, Nat.lt_of_lt_of_le (val_lt h.words) (Nat.pow_le_pow_right (by decide) (by rw [h.len]; exact h4))⟩
theorem pow_more {v i j : Nat} (h : v < Wd ^ i) (hij : i ≤ j) : v < Wd ^ j := Nat.lt_of_lt_of_le h (Nat.pow_le_pow_right (by decide) hij)
theorem sum_pow {u v i : Nat} (hu : u < Wd ^ i) (hv : v < Wd ^ i) : u + v < Wd ^ (i + 1) := by
  rw [Nat.pow_succ]
  have h : Wd ^ i * 2 ≤ Wd ^ i * Wd := Nat.mul_le_mul_left _ (by decide)
  omega
theorem mul_pow {u v i j : Nat} (hu : u < Wd ^ i) (hv : v < Wd ^ j) : u * v < Wd ^ (i + j) := by
  rw [Nat.pow_add]
  exact Nat.mul_lt_mul'' hu hv
set_option maxRecDepth 100000 in
set_option maxHeartbeats 16000000 in
theorem natRing_yes (hN : NatSays) (A B C : Option Addr) (n c m d k f : Nat) (a b e : List Nat) (h1 : n ≤ 40) (h2 : m ≤ 40) (h3 : k ≤ 40) (ma : mayL a = true) (mb : mayL b = true) (me : mayL e = true) (w : World) (hT : Hid (Tens w)) (hA : LieW w A n c a) (hB : LieW w B m d b) (hC : LieW w C k f e) : Calls Tryd.prog 5 #[.slice A n c, .slice B m d, .slice C k f] w fun e w' => e = .returned (.bool true) ∧ Below w.heap.size w w' := by
  have d1 : decide ((40 : Int) < (n : Int)) = false := decide_eq_false (by omega)
  have d2 : decide ((40 : Int) < (m : Int)) = false := decide_eq_false (by omega)
  have d3 : decide ((40 : Int) < (k : Int)) = false := decide_eq_false (by omega)
  obtain ⟨ea, pa⟩ := ring_row ma h1 hA
  obtain ⟨eb, pb⟩ := ring_row mb h2 hB
  obtain ⟨ee, pe⟩ := ring_row me h3 hC
  obtain ⟨N, hNN⟩ : ∃ N, num a = N := ⟨_, rfl⟩
  obtain ⟨M, hMM⟩ : ∃ M, num b = M := ⟨_, rfl⟩
  obtain ⟨L, hLL⟩ : ∃ L, num e = L := ⟨_, rfl⟩
  rw [hNN] at ea pa
  rw [hMM] at eb pb
  rw [hLL] at ee pe
  have tN : N < Top := top_of pa (by omega)
  have tM : M < Top := top_of pb (by omega)
  have tL : L < Top := top_of pe (by omega)
  have pX := sum_pow pa pb
  have pZ := sum_pow pb pe
  have pP := mul_pow pa pb
  have pQ := mul_pow pb pe
  have pT := mul_pow pa pe
  have pS := sum_pow pX (pow_more pe (Nat.le_succ 40))
  have pV := mul_pow pa pZ
  have pU := mul_pow pP pe
  have tX : N + M < Top := top_of pX (by omega)
  have tZ : M + L < Top := top_of pZ (by omega)
  have tP : N * M < Top := top_of pP (by omega)
  have tQ : M * L < Top := top_of pQ (by omega)
  have tT : N * L < Top := top_of pT (by omega)
  have tS : N + M + L < Top := top_of pS (by omega)
  have tV : N * (M + L) < Top := top_of pV (by omega)
  have tU : N * M * L < Top := top_of pU (by omega)
  have rX := add_d tN tM tX
  have rY : addL (D M) (D N) = D (N + M) ∧ addE (D M) (D N) = 0 := by have := add_d tM tN (by rw [Nat.add_comm]; exact tX); rwa [Nat.add_comm M N] at this
  have rZ := add_d tM tL tZ
  have rP := mul_d tN tM tP
  have rO : mulL (D M) (D N) = D (N * M) ∧ mulE (D M) (D N) = 0 := by have := mul_d tM tN (by rw [Nat.mul_comm]; exact tP); rwa [Nat.mul_comm M N] at this
  have rQ := mul_d tM tL tQ
  have rT := mul_d tN tL tT
  have rS := add_d tX tL tS
  have rS2 : addL (D N) (D (M + L)) = D (N + M + L) ∧ addE (D N) (D (M + L)) = 0 := by have := add_d tN tZ (by rw [← Nat.add_assoc]; exact tS); rwa [← Nat.add_assoc] at this
  have rV := mul_d tN tZ tV
  have rV2 : addL (D (N * M)) (D (N * L)) = D (N * (M + L)) ∧ addE (D (N * M)) (D (N * L)) = 0 := by have := add_d tP tT (by rw [← Nat.mul_add]; exact tV); rwa [← Nat.mul_add] at this
  have rU := mul_d tP tL tU
  have rU2 : mulL (D N) (D (M * L)) = D (N * M * L) ∧ mulE (D N) (D (M * L)) = 0 := by have := mul_d tN tQ (by rw [← Nat.mul_assoc]; exact tU); rwa [← Nat.mul_assoc] at this
  obtain ⟨cv, hcv⟩ : ∃ cv, cmpL (D (N + M)) (D N) = cv := ⟨_, rfl⟩
  have hcv0 : 0 ≤ cv := by rw [← hcv, cmp_d tX tN]; unfold cmpN; rw [if_neg (by omega)]; split <;> omega
  have dcv : decide (0 ≤ cv) = true := decide_eq_true hcv0
  have yX : mayL (D (N + M)) = true := dig_may tX
  have yP : mayL (D (N * M)) = true := dig_may tP
  rw [← ea] at rX rY rP rO rT rS2 rV rU2 hcv
  rw [← eb] at rX rY rZ rP rO rQ
  rw [← ee] at rZ rQ rT rS rU
  obtain ⟨lX, hlX⟩ : ∃ l, D (N + M) = l := ⟨_, rfl⟩
  obtain ⟨kX, hkX⟩ : ∃ k, lX.length = k := ⟨_, rfl⟩
  obtain ⟨lZ, hlZ⟩ : ∃ l, D (M + L) = l := ⟨_, rfl⟩
  obtain ⟨kZ, hkZ⟩ : ∃ k, lZ.length = k := ⟨_, rfl⟩
  obtain ⟨lP, hlP⟩ : ∃ l, D (N * M) = l := ⟨_, rfl⟩
  obtain ⟨kP, hkP⟩ : ∃ k, lP.length = k := ⟨_, rfl⟩
  obtain ⟨lQ, hlQ⟩ : ∃ l, D (M * L) = l := ⟨_, rfl⟩
  obtain ⟨kQ, hkQ⟩ : ∃ k, lQ.length = k := ⟨_, rfl⟩
  obtain ⟨lT, hlT⟩ : ∃ l, D (N * L) = l := ⟨_, rfl⟩
  obtain ⟨kT, hkT⟩ : ∃ k, lT.length = k := ⟨_, rfl⟩
  obtain ⟨lS, hlS⟩ : ∃ l, D (N + M + L) = l := ⟨_, rfl⟩
  obtain ⟨kS, hkS⟩ : ∃ k, lS.length = k := ⟨_, rfl⟩
  obtain ⟨lV, hlV⟩ : ∃ l, D (N * (M + L)) = l := ⟨_, rfl⟩
  obtain ⟨kV, hkV⟩ : ∃ k, lV.length = k := ⟨_, rfl⟩
  obtain ⟨lU, hlU⟩ : ∃ l, D (N * M * L) = l := ⟨_, rfl⟩
  obtain ⟨kU, hkU⟩ : ∃ k, lU.length = k := ⟨_, rfl⟩
  rw [hlX] at rX rY rS hcv yX
  rw [hlZ] at rZ rS2 rV
  rw [hlP] at rP rO rV2 rU yP
  rw [hlQ] at rQ rU2
  rw [hlT] at rT rV2
  rw [hlS] at rS rS2
  rw [hlV] at rV rV2
  rw [hlU] at rU rU2
  have c0 := Lib.hid (fun A n c B m d W => hN.add A n c a B m d b lX kX 0 W rX.1 hkX rX.2)
  have c1 := Lib.hid (fun A n c B m d W => hN.add A n c b B m d a lX kX 0 W rY.1 hkX rY.2)
  have c2 := Lib.hid (fun A n c B m d W => hN.add A n c b B m d e lZ kZ 0 W rZ.1 hkZ rZ.2)
  have c3 := Lib.hid (fun A n c B m d W => hN.mul A n c a B m d b lP kP 0 W rP.1 hkP rP.2)
  have c4 := Lib.hid (fun A n c B m d W => hN.mul A n c b B m d a lP kP 0 W rO.1 hkP rO.2)
  have c5 := Lib.hid (fun A n c B m d W => hN.mul A n c b B m d e lQ kQ 0 W rQ.1 hkQ rQ.2)
  have c6 := Lib.hid (fun A n c B m d W => hN.mul A n c a B m d e lT kT 0 W rT.1 hkT rT.2)
  have c7 := Lib.hid (fun A n c B m d W => hN.add A n c lX B m d e lS kS 0 W rS.1 hkS rS.2)
  have c8 := Lib.hid (fun A n c B m d W => hN.add A n c a B m d lZ lS kS 0 W rS2.1 hkS rS2.2)
  have c9 := Lib.hid (fun A n c B m d W => hN.mul A n c a B m d lZ lV kV 0 W rV.1 hkV rV.2)
  have c10 := Lib.hid (fun A n c B m d W => hN.add A n c lP B m d lT lV kV 0 W rV2.1 hkV rV2.2)
  have c11 := Lib.hid (fun A n c B m d W => hN.mul A n c lP B m d e lU kU 0 W rU.1 hkU rU.2)
  have c12 := Lib.hid (fun A n c B m d W => hN.mul A n c a B m d lQ lU kU 0 W rU2.1 hkU rU2.2)
  have ya := Lib.hid (fun W => hN.may A n c a true W ma)
  have yb := Lib.hid (fun W => hN.may B m d b true W mb)
  have ye := Lib.hid (fun W => hN.may C k f e true W me)
  have yX' := Lib.hid (fun A n c W => hN.may A n c lX true W yX)
  have yP' := Lib.hid (fun A n c W => hN.may A n c lP true W yP)
  have ccv := Lib.hid (fun A n c B m d W => hN.cmp A n c lX B m d a cv W hcv)
  have la0 := Lib.hid hA
  have lb0 := Lib.hid hB
  have lc0 := Lib.hid hC
  have k0 := Lib.hid (Below.refl w.heap.size w)
  clear hA hB hC ma mb me ea eb ee pa pb pe hNN hMM hLL tN tM tL pX pZ pP pQ pT pS pV pU tX tZ tP tQ tT tS tV tU rX rY rZ rP rO rQ rT rS rS2 rV rV2 rU rU2 hcv yX yP hlX hkX hlZ hkZ hlP hkP hlQ hkQ hlT hkT hlS hkS hlV hkV hlU hkU
  go_enter Tryd.func5, Tryd.ntmps5
  go_wp2_with fail
  refine (ya.out _ la0.out).mono ?_
  rintro e w1 ⟨rfl, hb⟩
  have la1 := Lib.hid (la0.out.next hb)
  have lb1 := Lib.hid (lb0.out.next hb)
  have lc1 := Lib.hid (lc0.out.next hb)
  have k1 := Lib.hid (Below.after k0.out hb)
  clear hb  la0 lb0 lc0 k0
  go_wp2_with fail
  refine (yb.out _ lb1.out).mono ?_
  rintro e w2 ⟨rfl, hb⟩
  have la2 := Lib.hid (la1.out.next hb)
  have lb2 := Lib.hid (lb1.out.next hb)
  have lc2 := Lib.hid (lc1.out.next hb)
  have k2 := Lib.hid (Below.after k1.out hb)
  clear hb  la1 lb1 lc1 k1
  go_wp2_with fail
  refine (ye.out _ lc2.out).mono ?_
  rintro e w3 ⟨rfl, hb⟩
  have la3 := Lib.hid (la2.out.next hb)
  have lb3 := Lib.hid (lb2.out.next hb)
  have lc3 := Lib.hid (lc2.out.next hb)
  have k3 := Lib.hid (Below.after k2.out hb)
  clear hb  la2 lb2 lc2 k2
  go_wp2_with fail
  refine (c0.out A n c B m d _ la3.out lb3.out).mono ?_
  rintro e w4 ⟨A0, q0, rfl, hh, hb⟩
  have la4 := Lib.hid (la3.out.next hb)
  have lb4 := Lib.hid (lb3.out.next hb)
  have lc4 := Lib.hid (lc3.out.next hb)
  have k4 := Lib.hid (Below.after k3.out hb)
  have r0_4 := Lib.hid hh
  clear hb hh la3 lb3 lc3 k3
  go_wp2_with fail
  refine (c1.out B m d A n c _ lb4.out la4.out).mono ?_
  rintro e w5 ⟨A1, q1, rfl, hh, hb⟩
  have la5 := Lib.hid (la4.out.next hb)
  have lb5 := Lib.hid (lb4.out.next hb)
  have lc5 := Lib.hid (lc4.out.next hb)
  have r0_5 := Lib.hid (r0_4.out.next hb)
  have k5 := Lib.hid (Below.after k4.out hb)
  have r1_5 := Lib.hid hh
  clear hb hh la4 lb4 lc4 r0_4 k4
  go_wp2_with fail
  refine (c2.out B m d C k f _ lb5.out lc5.out).mono ?_
  rintro e w6 ⟨A2, q2, rfl, hh, hb⟩
  have la6 := Lib.hid (la5.out.next hb)
  have lb6 := Lib.hid (lb5.out.next hb)
  have lc6 := Lib.hid (lc5.out.next hb)
  have r0_6 := Lib.hid (r0_5.out.next hb)
  have r1_6 := Lib.hid (r1_5.out.next hb)
  have k6 := Lib.hid (Below.after k5.out hb)
  have r2_6 := Lib.hid hh
  clear hb hh la5 lb5 lc5 r0_5 r1_5 k5
  go_wp2_with fail
  refine (c3.out A n c B m d _ la6.out lb6.out).mono ?_
  rintro e w7 ⟨A3, q3, rfl, hh, hb⟩
  have la7 := Lib.hid (la6.out.next hb)
  have lb7 := Lib.hid (lb6.out.next hb)
  have lc7 := Lib.hid (lc6.out.next hb)
  have r0_7 := Lib.hid (r0_6.out.next hb)
  have r1_7 := Lib.hid (r1_6.out.next hb)
  have r2_7 := Lib.hid (r2_6.out.next hb)
  have k7 := Lib.hid (Below.after k6.out hb)
  have r3_7 := Lib.hid hh
  clear hb hh la6 lb6 lc6 r0_6 r1_6 r2_6 k6
  go_wp2_with fail
  refine (c4.out B m d A n c _ lb7.out la7.out).mono ?_
  rintro e w8 ⟨A4, q4, rfl, hh, hb⟩
  have la8 := Lib.hid (la7.out.next hb)
  have lb8 := Lib.hid (lb7.out.next hb)
  have lc8 := Lib.hid (lc7.out.next hb)
  have r0_8 := Lib.hid (r0_7.out.next hb)
  have r1_8 := Lib.hid (r1_7.out.next hb)
  have r2_8 := Lib.hid (r2_7.out.next hb)
  have r3_8 := Lib.hid (r3_7.out.next hb)
  have k8 := Lib.hid (Below.after k7.out hb)
  have r4_8 := Lib.hid hh
  clear hb hh la7 lb7 lc7 r0_7 r1_7 r2_7 r3_7 k7
  go_wp2_with fail
  refine (c5.out B m d C k f _ lb8.out lc8.out).mono ?_
  rintro e w9 ⟨A5, q5, rfl, hh, hb⟩
  have la9 := Lib.hid (la8.out.next hb)
  have lb9 := Lib.hid (lb8.out.next hb)
  have lc9 := Lib.hid (lc8.out.next hb)
  have r0_9 := Lib.hid (r0_8.out.next hb)
  have r1_9 := Lib.hid (r1_8.out.next hb)
  have r2_9 := Lib.hid (r2_8.out.next hb)
  have r3_9 := Lib.hid (r3_8.out.next hb)
  have r4_9 := Lib.hid (r4_8.out.next hb)
  have k9 := Lib.hid (Below.after k8.out hb)
  have r5_9 := Lib.hid hh
  clear hb hh la8 lb8 lc8 r0_8 r1_8 r2_8 r3_8 r4_8 k8
  go_wp2_with fail
  refine (c6.out A n c C k f _ la9.out lc9.out).mono ?_
  rintro e w10 ⟨A6, q6, rfl, hh, hb⟩
  have la10 := Lib.hid (la9.out.next hb)
  have lb10 := Lib.hid (lb9.out.next hb)
  have lc10 := Lib.hid (lc9.out.next hb)
  have r0_10 := Lib.hid (r0_9.out.next hb)
  have r1_10 := Lib.hid (r1_9.out.next hb)
  have r2_10 := Lib.hid (r2_9.out.next hb)
  have r3_10 := Lib.hid (r3_9.out.next hb)
  have r4_10 := Lib.hid (r4_9.out.next hb)
  have r5_10 := Lib.hid (r5_9.out.next hb)
  have k10 := Lib.hid (Below.after k9.out hb)
  have r6_10 := Lib.hid hh
  clear hb hh la9 lb9 lc9 r0_9 r1_9 r2_9 r3_9 r4_9 r5_9 k9
  go_wp2_with fail
  refine (c7.out A0 kX q0 C k f _ r0_10.out lc10.out).mono ?_
  rintro e w11 ⟨A7, q7, rfl, hh, hb⟩
  have la11 := Lib.hid (la10.out.next hb)
  have lb11 := Lib.hid (lb10.out.next hb)
  have lc11 := Lib.hid (lc10.out.next hb)
  have r0_11 := Lib.hid (r0_10.out.next hb)
  have r1_11 := Lib.hid (r1_10.out.next hb)
  have r2_11 := Lib.hid (r2_10.out.next hb)
  have r3_11 := Lib.hid (r3_10.out.next hb)
  have r4_11 := Lib.hid (r4_10.out.next hb)
  have r5_11 := Lib.hid (r5_10.out.next hb)
  have r6_11 := Lib.hid (r6_10.out.next hb)
  have k11 := Lib.hid (Below.after k10.out hb)
  have r7_11 := Lib.hid hh
  clear hb hh la10 lb10 lc10 r0_10 r1_10 r2_10 r3_10 r4_10 r5_10 r6_10 k10
  go_wp2_with fail
  refine (c8.out A n c A2 kZ q2 _ la11.out r2_11.out).mono ?_
  rintro e w12 ⟨A8, q8, rfl, hh, hb⟩
  have la12 := Lib.hid (la11.out.next hb)
  have lb12 := Lib.hid (lb11.out.next hb)
  have lc12 := Lib.hid (lc11.out.next hb)
  have r0_12 := Lib.hid (r0_11.out.next hb)
  have r1_12 := Lib.hid (r1_11.out.next hb)
  have r2_12 := Lib.hid (r2_11.out.next hb)
  have r3_12 := Lib.hid (r3_11.out.next hb)
  have r4_12 := Lib.hid (r4_11.out.next hb)
  have r5_12 := Lib.hid (r5_11.out.next hb)
  have r6_12 := Lib.hid (r6_11.out.next hb)
  have r7_12 := Lib.hid (r7_11.out.next hb)
  have k12 := Lib.hid (Below.after k11.out hb)
  have r8_12 := Lib.hid hh
  clear hb hh la11 lb11 lc11 r0_11 r1_11 r2_11 r3_11 r4_11 r5_11 r6_11 r7_11 k11
  go_wp2_with fail
  refine (c9.out A n c A2 kZ q2 _ la12.out r2_12.out).mono ?_
  rintro e w13 ⟨A9, q9, rfl, hh, hb⟩
  have la13 := Lib.hid (la12.out.next hb)
  have lb13 := Lib.hid (lb12.out.next hb)
  have lc13 := Lib.hid (lc12.out.next hb)
  have r0_13 := Lib.hid (r0_12.out.next hb)
  have r1_13 := Lib.hid (r1_12.out.next hb)
  have r2_13 := Lib.hid (r2_12.out.next hb)
  have r3_13 := Lib.hid (r3_12.out.next hb)
  have r4_13 := Lib.hid (r4_12.out.next hb)
  have r5_13 := Lib.hid (r5_12.out.next hb)
  have r6_13 := Lib.hid (r6_12.out.next hb)
  have r7_13 := Lib.hid (r7_12.out.next hb)
  have r8_13 := Lib.hid (r8_12.out.next hb)
  have k13 := Lib.hid (Below.after k12.out hb)
  have r9_13 := Lib.hid hh
  clear hb hh la12 lb12 lc12 r0_12 r1_12 r2_12 r3_12 r4_12 r5_12 r6_12 r7_12 r8_12 k12
  go_wp2_with fail
  refine (c10.out A3 kP q3 A6 kT q6 _ r3_13.out r6_13.out).mono ?_
  rintro e w14 ⟨A10, q10, rfl, hh, hb⟩
  have la14 := Lib.hid (la13.out.next hb)
  have lb14 := Lib.hid (lb13.out.next hb)
  have lc14 := Lib.hid (lc13.out.next hb)
  have r0_14 := Lib.hid (r0_13.out.next hb)
  have r1_14 := Lib.hid (r1_13.out.next hb)
  have r2_14 := Lib.hid (r2_13.out.next hb)
  have r3_14 := Lib.hid (r3_13.out.next hb)
  have r4_14 := Lib.hid (r4_13.out.next hb)
  have r5_14 := Lib.hid (r5_13.out.next hb)
  have r6_14 := Lib.hid (r6_13.out.next hb)
  have r7_14 := Lib.hid (r7_13.out.next hb)
  have r8_14 := Lib.hid (r8_13.out.next hb)
  have r9_14 := Lib.hid (r9_13.out.next hb)
  have k14 := Lib.hid (Below.after k13.out hb)
  have r10_14 := Lib.hid hh
  clear hb hh la13 lb13 lc13 r0_13 r1_13 r2_13 r3_13 r4_13 r5_13 r6_13 r7_13 r8_13 r9_13 k13
  go_wp2_with fail
  refine (c11.out A3 kP q3 C k f _ r3_14.out lc14.out).mono ?_
  rintro e w15 ⟨A11, q11, rfl, hh, hb⟩
  have la15 := Lib.hid (la14.out.next hb)
  have lb15 := Lib.hid (lb14.out.next hb)
  have lc15 := Lib.hid (lc14.out.next hb)
  have r0_15 := Lib.hid (r0_14.out.next hb)
  have r1_15 := Lib.hid (r1_14.out.next hb)
  have r2_15 := Lib.hid (r2_14.out.next hb)
  have r3_15 := Lib.hid (r3_14.out.next hb)
  have r4_15 := Lib.hid (r4_14.out.next hb)
  have r5_15 := Lib.hid (r5_14.out.next hb)
  have r6_15 := Lib.hid (r6_14.out.next hb)
  have r7_15 := Lib.hid (r7_14.out.next hb)
  have r8_15 := Lib.hid (r8_14.out.next hb)
  have r9_15 := Lib.hid (r9_14.out.next hb)
  have r10_15 := Lib.hid (r10_14.out.next hb)
  have k15 := Lib.hid (Below.after k14.out hb)
  have r11_15 := Lib.hid hh
  clear hb hh la14 lb14 lc14 r0_14 r1_14 r2_14 r3_14 r4_14 r5_14 r6_14 r7_14 r8_14 r9_14 r10_14 k14
  go_wp2_with fail
  refine (c12.out A n c A5 kQ q5 _ la15.out r5_15.out).mono ?_
  rintro e w16 ⟨A12, q12, rfl, hh, hb⟩
  have la16 := Lib.hid (la15.out.next hb)
  have lb16 := Lib.hid (lb15.out.next hb)
  have lc16 := Lib.hid (lc15.out.next hb)
  have r0_16 := Lib.hid (r0_15.out.next hb)
  have r1_16 := Lib.hid (r1_15.out.next hb)
  have r2_16 := Lib.hid (r2_15.out.next hb)
  have r3_16 := Lib.hid (r3_15.out.next hb)
  have r4_16 := Lib.hid (r4_15.out.next hb)
  have r5_16 := Lib.hid (r5_15.out.next hb)
  have r6_16 := Lib.hid (r6_15.out.next hb)
  have r7_16 := Lib.hid (r7_15.out.next hb)
  have r8_16 := Lib.hid (r8_15.out.next hb)
  have r9_16 := Lib.hid (r9_15.out.next hb)
  have r10_16 := Lib.hid (r10_15.out.next hb)
  have r11_16 := Lib.hid (r11_15.out.next hb)
  have k16 := Lib.hid (Below.after k15.out hb)
  have r12_16 := Lib.hid hh
  clear hb hh la15 lb15 lc15 r0_15 r1_15 r2_15 r3_15 r4_15 r5_15 r6_15 r7_15 r8_15 r9_15 r10_15 r11_15 k15
  go_wp2_with fail
  refine (same7_yes A0 A1 kX q0 q1 lX _ r0_16.out.lie r1_16.out.lie).mono ?_
  rintro e w17 ⟨rfl, hb⟩
  have la17 := Lib.hid (la16.out.next hb)
  have lb17 := Lib.hid (lb16.out.next hb)
  have lc17 := Lib.hid (lc16.out.next hb)
  have r0_17 := Lib.hid (r0_16.out.next hb)
  have r1_17 := Lib.hid (r1_16.out.next hb)
  have r2_17 := Lib.hid (r2_16.out.next hb)
  have r3_17 := Lib.hid (r3_16.out.next hb)
  have r4_17 := Lib.hid (r4_16.out.next hb)
  have r5_17 := Lib.hid (r5_16.out.next hb)
  have r6_17 := Lib.hid (r6_16.out.next hb)
  have r7_17 := Lib.hid (r7_16.out.next hb)
  have r8_17 := Lib.hid (r8_16.out.next hb)
  have r9_17 := Lib.hid (r9_16.out.next hb)
  have r10_17 := Lib.hid (r10_16.out.next hb)
  have r11_17 := Lib.hid (r11_16.out.next hb)
  have r12_17 := Lib.hid (r12_16.out.next hb)
  have k17 := Lib.hid (Below.after k16.out hb)
  clear hb  la16 lb16 lc16 r0_16 r1_16 r2_16 r3_16 r4_16 r5_16 r6_16 r7_16 r8_16 r9_16 r10_16 r11_16 r12_16 k16
  go_wp2_with fail
  refine (same7_yes A3 A4 kP q3 q4 lP _ r3_17.out.lie r4_17.out.lie).mono ?_
  rintro e w18 ⟨rfl, hb⟩
  have la18 := Lib.hid (la17.out.next hb)
  have lb18 := Lib.hid (lb17.out.next hb)
  have lc18 := Lib.hid (lc17.out.next hb)
  have r0_18 := Lib.hid (r0_17.out.next hb)
  have r1_18 := Lib.hid (r1_17.out.next hb)
  have r2_18 := Lib.hid (r2_17.out.next hb)
  have r3_18 := Lib.hid (r3_17.out.next hb)
  have r4_18 := Lib.hid (r4_17.out.next hb)
  have r5_18 := Lib.hid (r5_17.out.next hb)
  have r6_18 := Lib.hid (r6_17.out.next hb)
  have r7_18 := Lib.hid (r7_17.out.next hb)
  have r8_18 := Lib.hid (r8_17.out.next hb)
  have r9_18 := Lib.hid (r9_17.out.next hb)
  have r10_18 := Lib.hid (r10_17.out.next hb)
  have r11_18 := Lib.hid (r11_17.out.next hb)
  have r12_18 := Lib.hid (r12_17.out.next hb)
  have k18 := Lib.hid (Below.after k17.out hb)
  clear hb  la17 lb17 lc17 r0_17 r1_17 r2_17 r3_17 r4_17 r5_17 r6_17 r7_17 r8_17 r9_17 r10_17 r11_17 r12_17 k17
  go_wp2_with fail
  refine (same7_yes A7 A8 kS q7 q8 lS _ r7_18.out.lie r8_18.out.lie).mono ?_
  rintro e w19 ⟨rfl, hb⟩
  have la19 := Lib.hid (la18.out.next hb)
  have lb19 := Lib.hid (lb18.out.next hb)
  have lc19 := Lib.hid (lc18.out.next hb)
  have r0_19 := Lib.hid (r0_18.out.next hb)
  have r1_19 := Lib.hid (r1_18.out.next hb)
  have r2_19 := Lib.hid (r2_18.out.next hb)
  have r3_19 := Lib.hid (r3_18.out.next hb)
  have r4_19 := Lib.hid (r4_18.out.next hb)
  have r5_19 := Lib.hid (r5_18.out.next hb)
  have r6_19 := Lib.hid (r6_18.out.next hb)
  have r7_19 := Lib.hid (r7_18.out.next hb)
  have r8_19 := Lib.hid (r8_18.out.next hb)
  have r9_19 := Lib.hid (r9_18.out.next hb)
  have r10_19 := Lib.hid (r10_18.out.next hb)
  have r11_19 := Lib.hid (r11_18.out.next hb)
  have r12_19 := Lib.hid (r12_18.out.next hb)
  have k19 := Lib.hid (Below.after k18.out hb)
  clear hb  la18 lb18 lc18 r0_18 r1_18 r2_18 r3_18 r4_18 r5_18 r6_18 r7_18 r8_18 r9_18 r10_18 r11_18 r12_18 k18
  go_wp2_with fail
  refine (same7_yes A9 A10 kV q9 q10 lV _ r9_19.out.lie r10_19.out.lie).mono ?_
  rintro e w20 ⟨rfl, hb⟩
  have la20 := Lib.hid (la19.out.next hb)
  have lb20 := Lib.hid (lb19.out.next hb)
  have lc20 := Lib.hid (lc19.out.next hb)
  have r0_20 := Lib.hid (r0_19.out.next hb)
  have r1_20 := Lib.hid (r1_19.out.next hb)
  have r2_20 := Lib.hid (r2_19.out.next hb)
  have r3_20 := Lib.hid (r3_19.out.next hb)
  have r4_20 := Lib.hid (r4_19.out.next hb)
  have r5_20 := Lib.hid (r5_19.out.next hb)
  have r6_20 := Lib.hid (r6_19.out.next hb)
  have r7_20 := Lib.hid (r7_19.out.next hb)
  have r8_20 := Lib.hid (r8_19.out.next hb)
  have r9_20 := Lib.hid (r9_19.out.next hb)
  have r10_20 := Lib.hid (r10_19.out.next hb)
  have r11_20 := Lib.hid (r11_19.out.next hb)
  have r12_20 := Lib.hid (r12_19.out.next hb)
  have k20 := Lib.hid (Below.after k19.out hb)
  clear hb  la19 lb19 lc19 r0_19 r1_19 r2_19 r3_19 r4_19 r5_19 r6_19 r7_19 r8_19 r9_19 r10_19 r11_19 r12_19 k19
  go_wp2_with fail
  refine (same7_yes A11 A12 kU q11 q12 lU _ r11_20.out.lie r12_20.out.lie).mono ?_
  rintro e w21 ⟨rfl, hb⟩
  have la21 := Lib.hid (la20.out.next hb)
  have lb21 := Lib.hid (lb20.out.next hb)
  have lc21 := Lib.hid (lc20.out.next hb)
  have r0_21 := Lib.hid (r0_20.out.next hb)
  have r1_21 := Lib.hid (r1_20.out.next hb)
  have r2_21 := Lib.hid (r2_20.out.next hb)
  have r3_21 := Lib.hid (r3_20.out.next hb)
  have r4_21 := Lib.hid (r4_20.out.next hb)
  have r5_21 := Lib.hid (r5_20.out.next hb)
  have r6_21 := Lib.hid (r6_20.out.next hb)
  have r7_21 := Lib.hid (r7_20.out.next hb)
  have r8_21 := Lib.hid (r8_20.out.next hb)
  have r9_21 := Lib.hid (r9_20.out.next hb)
  have r10_21 := Lib.hid (r10_20.out.next hb)
  have r11_21 := Lib.hid (r11_20.out.next hb)
  have r12_21 := Lib.hid (r12_20.out.next hb)
  have k21 := Lib.hid (Below.after k20.out hb)
  clear hb  la20 lb20 lc20 r0_20 r1_20 r2_20 r3_20 r4_20 r5_20 r6_20 r7_20 r8_20 r9_20 r10_20 r11_20 r12_20 k20
  go_wp2_with fail
  refine (yX'.out A0 kX q0 _ r0_21.out).mono ?_
  rintro e w22 ⟨rfl, hb⟩
  have la22 := Lib.hid (la21.out.next hb)
  have lb22 := Lib.hid (lb21.out.next hb)
  have lc22 := Lib.hid (lc21.out.next hb)
  have r0_22 := Lib.hid (r0_21.out.next hb)
  have r1_22 := Lib.hid (r1_21.out.next hb)
  have r2_22 := Lib.hid (r2_21.out.next hb)
  have r3_22 := Lib.hid (r3_21.out.next hb)
  have r4_22 := Lib.hid (r4_21.out.next hb)
  have r5_22 := Lib.hid (r5_21.out.next hb)
  have r6_22 := Lib.hid (r6_21.out.next hb)
  have r7_22 := Lib.hid (r7_21.out.next hb)
  have r8_22 := Lib.hid (r8_21.out.next hb)
  have r9_22 := Lib.hid (r9_21.out.next hb)
  have r10_22 := Lib.hid (r10_21.out.next hb)
  have r11_22 := Lib.hid (r11_21.out.next hb)
  have r12_22 := Lib.hid (r12_21.out.next hb)
  have k22 := Lib.hid (Below.after k21.out hb)
  clear hb  la21 lb21 lc21 r0_21 r1_21 r2_21 r3_21 r4_21 r5_21 r6_21 r7_21 r8_21 r9_21 r10_21 r11_21 r12_21 k21
  go_wp2_with fail
  refine (yP'.out A3 kP q3 _ r3_22.out).mono ?_
  rintro e w23 ⟨rfl, hb⟩
  have la23 := Lib.hid (la22.out.next hb)
  have lb23 := Lib.hid (lb22.out.next hb)
  have lc23 := Lib.hid (lc22.out.next hb)
  have r0_23 := Lib.hid (r0_22.out.next hb)
  have r1_23 := Lib.hid (r1_22.out.next hb)
  have r2_23 := Lib.hid (r2_22.out.next hb)
  have r3_23 := Lib.hid (r3_22.out.next hb)
  have r4_23 := Lib.hid (r4_22.out.next hb)
  have r5_23 := Lib.hid (r5_22.out.next hb)
  have r6_23 := Lib.hid (r6_22.out.next hb)
  have r7_23 := Lib.hid (r7_22.out.next hb)
  have r8_23 := Lib.hid (r8_22.out.next hb)
  have r9_23 := Lib.hid (r9_22.out.next hb)
  have r10_23 := Lib.hid (r10_22.out.next hb)
  have r11_23 := Lib.hid (r11_22.out.next hb)
  have r12_23 := Lib.hid (r12_22.out.next hb)
  have k23 := Lib.hid (Below.after k22.out hb)
  clear hb  la22 lb22 lc22 r0_22 r1_22 r2_22 r3_22 r4_22 r5_22 r6_22 r7_22 r8_22 r9_22 r10_22 r11_22 r12_22 k22
  go_wp2_with fail
  refine (ccv.out A0 kX q0 A n c _ r0_23.out la23.out).mono ?_
  rintro e w24 ⟨rfl, hb⟩
  have la24 := Lib.hid (la23.out.next hb)
  have lb24 := Lib.hid (lb23.out.next hb)
  have lc24 := Lib.hid (lc23.out.next hb)
  have r0_24 := Lib.hid (r0_23.out.next hb)
  have r1_24 := Lib.hid (r1_23.out.next hb)
  have r2_24 := Lib.hid (r2_23.out.next hb)
  have r3_24 := Lib.hid (r3_23.out.next hb)
  have r4_24 := Lib.hid (r4_23.out.next hb)
  have r5_24 := Lib.hid (r5_23.out.next hb)
  have r6_24 := Lib.hid (r6_23.out.next hb)
  have r7_24 := Lib.hid (r7_23.out.next hb)
  have r8_24 := Lib.hid (r8_23.out.next hb)
  have r9_24 := Lib.hid (r9_23.out.next hb)
  have r10_24 := Lib.hid (r10_23.out.next hb)
  have r11_24 := Lib.hid (r11_23.out.next hb)
  have r12_24 := Lib.hid (r12_23.out.next hb)
  have k24 := Lib.hid (Below.after k23.out hb)
  clear hb  la23 lb23 lc23 r0_23 r1_23 r2_23 r3_23 r4_23 r5_23 r6_23 r7_23 r8_23 r9_23 r10_23 r11_23 r12_23 k23
  go_wp2_with fail
  refine (alive7_any hN _ (hT.out.next k24.out)).mono ?_
  rintro e w25 ⟨rfl, hb⟩
  have la25 := Lib.hid (la24.out.next hb)
  have lb25 := Lib.hid (lb24.out.next hb)
  have lc25 := Lib.hid (lc24.out.next hb)
  have r0_25 := Lib.hid (r0_24.out.next hb)
  have r1_25 := Lib.hid (r1_24.out.next hb)
  have r2_25 := Lib.hid (r2_24.out.next hb)
  have r3_25 := Lib.hid (r3_24.out.next hb)
  have r4_25 := Lib.hid (r4_24.out.next hb)
  have r5_25 := Lib.hid (r5_24.out.next hb)
  have r6_25 := Lib.hid (r6_24.out.next hb)
  have r7_25 := Lib.hid (r7_24.out.next hb)
  have r8_25 := Lib.hid (r8_24.out.next hb)
  have r9_25 := Lib.hid (r9_24.out.next hb)
  have r10_25 := Lib.hid (r10_24.out.next hb)
  have r11_25 := Lib.hid (r11_24.out.next hb)
  have r12_25 := Lib.hid (r12_24.out.next hb)
  have k25 := Lib.hid (Below.after k24.out hb)
  clear hb  la24 lb24 lc24 r0_24 r1_24 r2_24 r3_24 r4_24 r5_24 r6_24 r7_24 r8_24 r9_24 r10_24 r11_24 r12_24 k24
  go_wp2
  go_ret
  exact ⟨rfl, k25.out⟩
end Go.Proofs.YtmndfncogkjjpaaDoor
