/- One more statement of layer 2, walked: OrderMeans. -/
import Derived.Test.YtmiponffkhbniaaDoorL2Rows
namespace Go.Proofs.YtmiponffkhbniaaDoor
open Go.RowKit Go.Proofs.Mixm

theorem cmp_ltI {x y : BitVec 64} (h : (x.toNat : Int) < (y.toNat : Int)) : Ordm.cmp x y = -1 := Ordm.cmp_lt (by omega)
theorem cmp_gtI {x y : BitVec 64} (h : (y.toNat : Int) < (x.toNat : Int)) : Ordm.cmp x y = 1 := Ordm.cmp_gt (by omega)
theorem up_lt {a b : BitVec 64} (h : a.toInt < b.toInt) : Ordm.stand 1 a b = -1 := cmp_ltI (by show ((Ordm.up a).toNat : Int) < ((Ordm.up b).toNat : Int); rw [Ordm.up_toNat, Ordm.up_toNat]; omega)
theorem up_gt {a b : BitVec 64} (h : b.toInt < a.toInt) : Ordm.stand 1 a b = 1 := cmp_gtI (by show ((Ordm.up b).toNat : Int) < ((Ordm.up a).toNat : Int); rw [Ordm.up_toNat, Ordm.up_toNat]; omega)
theorem down_lt {a b : BitVec 64} (h : a.toInt < b.toInt) : Ordm.stand 2 a b = 1 := cmp_gtI (by show ((Ordm.down b).toNat : Int) < ((Ordm.down a).toNat : Int); rw [Ordm.down_toNat, Ordm.down_toNat]; omega)
theorem down_gt {a b : BitVec 64} (h : b.toInt < a.toInt) : Ordm.stand 2 a b = -1 := cmp_ltI (by show ((Ordm.down a).toNat : Int) < ((Ordm.down b).toNat : Int); rw [Ordm.down_toNat, Ordm.down_toNat]; omega)
theorem stand_same (m : Nat) (a : BitVec 64) : Ordm.stand m a a = 0 := Ordm.cmp_eq rfl
theorem size_0 {a : BitVec 64} (h : a.toInt ≠ 0) : Ordm.stand 3 0#64 a = -1 := cmp_ltI (by
  show ((Ordm.size 0#64).toNat : Int) < ((Ordm.size a).toNat : Int)
  rw [Ordm.size_toNat, Ordm.size_toNat, if_neg (by decide), show (0#64).toInt = 0 from rfl]; split <;> omega)
theorem size_up {a b : BitVec 64} (h0 : 0 ≤ a.toInt) (h : a.toInt < b.toInt) : Ordm.stand 3 a b = -1 := cmp_ltI (by
  show ((Ordm.size a).toNat : Int) < ((Ordm.size b).toNat : Int)
  rw [Ordm.size_toNat, Ordm.size_toNat, if_neg (by omega), if_neg (by omega)]; omega)
theorem neg_toInt {a : BitVec 64} (h0 : 0 ≤ a.toInt) : (-a).toInt = -a.toInt := by
  have hi := BitVec.toInt_lt (x := a)
  simp only [Nat.reduceSub, Int.reducePow] at hi
  rw [BitVec.toInt_neg]
  exact Int.bmod_eq_of_le (by omega) (by omega)
theorem neg_wrap {a : BitVec 64} (h0 : 0 ≤ a.toInt) : wrap64 (-a.toInt) = (-a).toInt := by
  have hi := BitVec.toInt_lt (x := a)
  simp only [Nat.reduceSub, Int.reducePow] at hi
  rw [neg_toInt h0]
  exact IntWalk.wrap64_in _ ⟨by omega, by omega⟩
theorem size_down {a b : BitVec 64} (h0 : 0 ≤ a.toInt) (h : a.toInt < b.toInt) : Ordm.stand 3 (-a) (-b) = -1 := cmp_ltI (by
  show ((Ordm.size (-a)).toNat : Int) < ((Ordm.size (-b)).toNat : Int)
  rw [Ordm.size_toNat, Ordm.size_toNat, neg_toInt h0, neg_toInt (a := b) (by omega), if_pos (c := - b.toInt < 0) (by omega)]; split <;> omega)
/-- whether a key is even, as the walk asks it, each way -/
structure Even (a : BitVec 64) (p : Bool) : Prop where
  yes : (a.toInt.tmod 2 == 0) = p
  no : (a.toInt.tmod 2 != 0) = !p
theorem tmod2 (n : Int) : (n.tmod 2 = 0 ↔ n % 2 = 0) := by
  constructor
  · intro h; exact Int.emod_eq_zero_of_dvd (Int.dvd_of_tmod_eq_zero h)
  · intro h; exact Int.tmod_eq_zero_of_dvd (Int.dvd_of_emod_eq_zero h)
theorem even_yes {a : BitVec 64} (h : a.toInt % 2 = 0) : Even a true := by
  have := (tmod2 a.toInt).2 h
  exact ⟨by rw [this]; rfl, by rw [this]; rfl⟩
theorem even_no {a : BitVec 64} (h : a.toInt % 2 = 1) : Even a false := by
  have : a.toInt.tmod 2 ≠ 0 := fun e => by have := (tmod2 a.toInt).1 e; omega
  exact ⟨by simpa using this, by simpa using this⟩
theorem even_cases (a b : BitVec 64) : ∃ (p q : Bool) (v : Int), Even a p ∧ Even b q ∧ Ordm.stand 5 a b = v ∧
    ((p = true ∧ q = false ∧ v = -1) ∨ (p = true ∧ q = true ∧ v = Ordm.stand 1 a b) ∨ (p = false ∧ q = false ∧ v = Ordm.stand 1 a b) ∨ (p = false ∧ q = true ∧ v = 1)) := by
  have ea := Ordm.even_toNat a
  have eb := Ordm.even_toNat b
  have la := BitVec.le_toInt a
  have lb := BitVec.le_toInt b
  have ha := BitVec.toInt_lt (x := a)
  have hb := BitVec.toInt_lt (x := b)
  simp only [Nat.reduceSub, Int.reducePow, Int.reduceNeg] at la lb ha hb
  have same : a.toInt % 2 = b.toInt % 2 → Ordm.stand 5 a b = Ordm.stand 1 a b := by
    intro h
    rw [h] at ea
    by_cases e : a = b
    · subst e; rw [stand_same, stand_same]
    · have ne : a.toInt ≠ b.toInt := fun e' => e (BitVec.eq_of_toInt_eq e')
      by_cases l : a.toInt < b.toInt
      · rw [up_lt l]
        exact cmp_ltI (by show ((Ordm.even a).toNat : Int) < ((Ordm.even b).toNat : Int); rw [ea, eb]; omega)
      · rw [up_gt (by omega)]
        exact cmp_gtI (by show ((Ordm.even b).toNat : Int) < ((Ordm.even a).toNat : Int); rw [ea, eb]; omega)
  have pa : a.toInt % 2 = 0 ∨ a.toInt % 2 = 1 := by omega
  have pb : b.toInt % 2 = 0 ∨ b.toInt % 2 = 1 := by omega
  rcases pa with h | h <;> rcases pb with h' | h'
  · exact ⟨true, true, _, even_yes h, even_yes h', rfl, .inr (.inl ⟨rfl, rfl, same (by omega)⟩)⟩
  · refine ⟨true, false, _, even_yes h, even_no h', rfl, .inl ⟨rfl, rfl, cmp_ltI ?_⟩⟩
    show ((Ordm.even a).toNat : Int) < ((Ordm.even b).toNat : Int)
    rw [ea, eb, h, h']; omega
  · refine ⟨false, true, _, even_no h, even_yes h', rfl, .inr (.inr (.inr ⟨rfl, rfl, cmp_gtI ?_⟩))⟩
    show ((Ordm.even b).toNat : Int) < ((Ordm.even a).toNat : Int)
    rw [ea, eb, h, h']; omega
  · exact ⟨false, false, _, even_no h, even_no h', rfl, .inr (.inr (.inl ⟨rfl, rfl, same (by omega)⟩))⟩

set_option maxRecDepth 100000 in
set_option maxHeartbeats 2000000 in
theorem means_c1 (a b : BitVec 64) (hl : a.toInt < b.toInt) (h0 : a.toInt = 0) (w : World) (k0 : Hid (KeepsO w w)) : Calls Tryd.prog 6 #[K a, K b] w fun e w' => e = .returned (.bool true) ∧ Below w.heap.size w w' := by
  have gu := Lib.hid (up_lt hl)
  have gd := Lib.hid (down_lt hl)
  have hz : (a.toInt != 0) = false := by simpa using h0
  have hp : 0 ≤ a.toInt := by omega
  have na := Lib.hid (neg_wrap hp)
  have nb := Lib.hid (neg_wrap (a := b) (by omega))
  have gs := Lib.hid (size_up hp hl)
  have gt := Lib.hid (size_down hp hl)
  clear h0
  obtain ⟨p, q, v, ⟨ep, ep'⟩, ⟨eq, eq'⟩, hv, hcs⟩ := even_cases a b
  have gv := Lib.hid hv
  rw [gu.out] at hcs
  clear hv
  have hcs := Lib.hid hcs
  go_enter Tryd.func6, Tryd.ntmps6
  go_wp2_with fail
  refine (compare_is (m := 1) (by omega) (by omega) gu.out _ k0.out.some k0.out.steps).mono ?_
  rintro e w1 ⟨rfl, hb⟩
  have k1 := Lib.hid (k0.out.next hb)
  clear hb k0
  go_wp2_with fail
  refine (compare_is (m := 2) (by omega) (by omega) gd.out _ k1.out.some k1.out.steps).mono ?_
  rintro e w2 ⟨rfl, hb⟩
  have k2 := Lib.hid (k1.out.next hb)
  clear hb k1
  go_wp2_with fail
  refine (compare_is (m := 3) (by omega) (by omega) gs.out _ k2.out.some k2.out.steps).mono ?_
  rintro e w3 ⟨rfl, hb⟩
  have k3 := Lib.hid (k2.out.next hb)
  clear hb k2
  go_wp2_with fail
  rw [na.out, nb.out]
  refine (compare_is (m := 3) (by omega) (by omega) gt.out _ k3.out.some k3.out.steps).mono ?_
  rintro e w4 ⟨rfl, hb⟩
  have k4 := Lib.hid (k3.out.next hb)
  clear hb k3
  go_wp2_with fail
  refine (compare_is (m := 5) (by omega) (by omega) gv.out _ k4.out.some k4.out.steps).mono ?_
  rintro e w5 ⟨rfl, hb⟩
  have k5 := Lib.hid (k4.out.next hb)
  clear hb k4
  clear hl hp hz
  have hcs' := hcs.out
  clear hcs
  rcases hcs' with ⟨rfl, rfl, rfl⟩ | ⟨rfl, rfl, rfl⟩ | ⟨rfl, rfl, rfl⟩ | ⟨rfl, rfl, rfl⟩
  all_goals
    go_wp2_with fail
    refine (alive2_any _ k5.out.some k5.out.steps k5.out.names).mono ?_
    rintro e wz ⟨rfl, hb⟩
    have kz := Lib.hid (k5.out.next hb)
    clear hb
    go_wp2
    go_ret
    exact ⟨rfl, kz.out.below⟩

set_option maxRecDepth 100000 in
set_option maxHeartbeats 2000000 in
theorem means_c2 (a b : BitVec 64) (hl : a.toInt < b.toInt) (h0 : a.toInt ≠ 0) (hp : 0 ≤ a.toInt) (w : World) (k0 : Hid (KeepsO w w)) : Calls Tryd.prog 6 #[K a, K b] w fun e w' => e = .returned (.bool true) ∧ Below w.heap.size w w' := by
  have gu := Lib.hid (up_lt hl)
  have gd := Lib.hid (down_lt hl)
  have hz : (a.toInt != 0) = true := by simpa using h0
  have gz := Lib.hid (size_0 h0)
  have na := Lib.hid (neg_wrap hp)
  have nb := Lib.hid (neg_wrap (a := b) (by omega))
  have gs := Lib.hid (size_up hp hl)
  have gt := Lib.hid (size_down hp hl)
  obtain ⟨p, q, v, ⟨ep, ep'⟩, ⟨eq, eq'⟩, hv, hcs⟩ := even_cases a b
  have gv := Lib.hid hv
  rw [gu.out] at hcs
  clear hv
  have hcs := Lib.hid hcs
  go_enter Tryd.func6, Tryd.ntmps6
  go_wp2_with fail
  refine (compare_is (m := 1) (by omega) (by omega) gu.out _ k0.out.some k0.out.steps).mono ?_
  rintro e w1 ⟨rfl, hb⟩
  have k1 := Lib.hid (k0.out.next hb)
  clear hb k0
  go_wp2_with fail
  refine (compare_is (m := 2) (by omega) (by omega) gd.out _ k1.out.some k1.out.steps).mono ?_
  rintro e w2 ⟨rfl, hb⟩
  have k2 := Lib.hid (k1.out.next hb)
  clear hb k1
  go_wp2_with fail
  refine (compare_is (m := 3) (a := 0#64) (by omega) (by omega) gz.out _ k2.out.some k2.out.steps).mono ?_
  rintro e w3 ⟨rfl, hb⟩
  have k3 := Lib.hid (k2.out.next hb)
  clear hb k2
  go_wp2_with fail
  refine (compare_is (m := 3) (by omega) (by omega) gs.out _ k3.out.some k3.out.steps).mono ?_
  rintro e w4 ⟨rfl, hb⟩
  have k4 := Lib.hid (k3.out.next hb)
  clear hb k3
  go_wp2_with fail
  rw [na.out, nb.out]
  refine (compare_is (m := 3) (by omega) (by omega) gt.out _ k4.out.some k4.out.steps).mono ?_
  rintro e w5 ⟨rfl, hb⟩
  have k5 := Lib.hid (k4.out.next hb)
  clear hb k4
  go_wp2_with fail
  refine (compare_is (m := 5) (by omega) (by omega) gv.out _ k5.out.some k5.out.steps).mono ?_
  rintro e w6 ⟨rfl, hb⟩
  have k6 := Lib.hid (k5.out.next hb)
  clear hb k5
  clear hl hp hz
  have hcs' := hcs.out
  clear hcs
  rcases hcs' with ⟨rfl, rfl, rfl⟩ | ⟨rfl, rfl, rfl⟩ | ⟨rfl, rfl, rfl⟩ | ⟨rfl, rfl, rfl⟩
  all_goals
    go_wp2_with fail
    refine (alive2_any _ k6.out.some k6.out.steps k6.out.names).mono ?_
    rintro e wz ⟨rfl, hb⟩
    have kz := Lib.hid (k6.out.next hb)
    clear hb
    go_wp2
    go_ret
    exact ⟨rfl, kz.out.below⟩

set_option maxRecDepth 100000 in
set_option maxHeartbeats 2000000 in
theorem means_c3 (a b : BitVec 64) (hl : a.toInt < b.toInt) (h0 : a.toInt ≠ 0) (hp : a.toInt < 0) (w : World) (k0 : Hid (KeepsO w w)) : Calls Tryd.prog 6 #[K a, K b] w fun e w' => e = .returned (.bool true) ∧ Below w.heap.size w w' := by
  have gu := Lib.hid (up_lt hl)
  have gd := Lib.hid (down_lt hl)
  have hz : (a.toInt != 0) = true := by simpa using h0
  have gz := Lib.hid (size_0 h0)
  have hd : decide (0 ≤ a.toInt) = false := by simpa using hp
  clear hp
  obtain ⟨p, q, v, ⟨ep, ep'⟩, ⟨eq, eq'⟩, hv, hcs⟩ := even_cases a b
  have gv := Lib.hid hv
  rw [gu.out] at hcs
  clear hv
  have hcs := Lib.hid hcs
  go_enter Tryd.func6, Tryd.ntmps6
  go_wp2_with fail
  refine (compare_is (m := 1) (by omega) (by omega) gu.out _ k0.out.some k0.out.steps).mono ?_
  rintro e w1 ⟨rfl, hb⟩
  have k1 := Lib.hid (k0.out.next hb)
  clear hb k0
  go_wp2_with fail
  refine (compare_is (m := 2) (by omega) (by omega) gd.out _ k1.out.some k1.out.steps).mono ?_
  rintro e w2 ⟨rfl, hb⟩
  have k2 := Lib.hid (k1.out.next hb)
  clear hb k1
  go_wp2_with fail
  refine (compare_is (m := 3) (a := 0#64) (by omega) (by omega) gz.out _ k2.out.some k2.out.steps).mono ?_
  rintro e w3 ⟨rfl, hb⟩
  have k3 := Lib.hid (k2.out.next hb)
  clear hb k2
  go_wp2_with fail
  refine (compare_is (m := 5) (by omega) (by omega) gv.out _ k3.out.some k3.out.steps).mono ?_
  rintro e w4 ⟨rfl, hb⟩
  have k4 := Lib.hid (k3.out.next hb)
  clear hb k3
  clear hl hz hd
  have hcs' := hcs.out
  clear hcs
  rcases hcs' with ⟨rfl, rfl, rfl⟩ | ⟨rfl, rfl, rfl⟩ | ⟨rfl, rfl, rfl⟩ | ⟨rfl, rfl, rfl⟩
  all_goals
    go_wp2_with fail
    refine (alive2_any _ k4.out.some k4.out.steps k4.out.names).mono ?_
    rintro e wz ⟨rfl, hb⟩
    have kz := Lib.hid (k4.out.next hb)
    clear hb
    go_wp2
    go_ret
    exact ⟨rfl, kz.out.below⟩

set_option maxRecDepth 100000 in
set_option maxHeartbeats 2000000 in
theorem means_c4 (a : BitVec 64) (h0 : a.toInt = 0) (w : World) (k0 : Hid (KeepsO w w)) : Calls Tryd.prog 6 #[K a, K a] w fun e w' => e = .returned (.bool true) ∧ Below w.heap.size w w' := by
  have gu := Lib.hid (stand_same 1 a)
  have gd := Lib.hid (stand_same 2 a)
  have hz : (a.toInt != 0) = false := by simpa using h0
  have hp : 0 ≤ a.toInt := by omega
  have he : decide (a.toInt < a.toInt) = false := by simp
  clear h0
  obtain ⟨p, q, v, ⟨ep, ep'⟩, ⟨eq, eq'⟩, hv, hcs⟩ := even_cases a a
  have gv := Lib.hid hv
  rw [gu.out] at hcs
  clear hv
  have hcs := Lib.hid hcs
  go_enter Tryd.func6, Tryd.ntmps6
  go_wp2_with fail
  refine (compare_is (m := 1) (by omega) (by omega) gu.out _ k0.out.some k0.out.steps).mono ?_
  rintro e w1 ⟨rfl, hb⟩
  have k1 := Lib.hid (k0.out.next hb)
  clear hb k0
  go_wp2_with fail
  refine (compare_is (m := 2) (by omega) (by omega) gd.out _ k1.out.some k1.out.steps).mono ?_
  rintro e w2 ⟨rfl, hb⟩
  have k2 := Lib.hid (k1.out.next hb)
  clear hb k1
  go_wp2_with fail
  refine (compare_is (m := 5) (by omega) (by omega) gv.out _ k2.out.some k2.out.steps).mono ?_
  rintro e w3 ⟨rfl, hb⟩
  have k3 := Lib.hid (k2.out.next hb)
  clear hb k2
  clear he hp hz
  have hcs' := hcs.out
  clear hcs
  rcases hcs' with ⟨rfl, rfl, rfl⟩ | ⟨rfl, rfl, rfl⟩ | ⟨rfl, rfl, rfl⟩ | ⟨rfl, rfl, rfl⟩
  · exact absurd (ep.symm.trans eq) (by decide)
  rotate_left 2
  · exact absurd (ep.symm.trans eq) (by decide)
  all_goals
    go_wp2_with fail
    refine (alive2_any _ k3.out.some k3.out.steps k3.out.names).mono ?_
    rintro e wz ⟨rfl, hb⟩
    have kz := Lib.hid (k3.out.next hb)
    clear hb
    go_wp2
    go_ret
    exact ⟨rfl, kz.out.below⟩

set_option maxRecDepth 100000 in
set_option maxHeartbeats 2000000 in
theorem means_c5 (a : BitVec 64) (h0 : a.toInt ≠ 0) (hp : 0 ≤ a.toInt) (w : World) (k0 : Hid (KeepsO w w)) : Calls Tryd.prog 6 #[K a, K a] w fun e w' => e = .returned (.bool true) ∧ Below w.heap.size w w' := by
  have gu := Lib.hid (stand_same 1 a)
  have gd := Lib.hid (stand_same 2 a)
  have hz : (a.toInt != 0) = true := by simpa using h0
  have gz := Lib.hid (size_0 h0)
  have he : decide (a.toInt < a.toInt) = false := by simp
  obtain ⟨p, q, v, ⟨ep, ep'⟩, ⟨eq, eq'⟩, hv, hcs⟩ := even_cases a a
  have gv := Lib.hid hv
  rw [gu.out] at hcs
  clear hv
  have hcs := Lib.hid hcs
  go_enter Tryd.func6, Tryd.ntmps6
  go_wp2_with fail
  refine (compare_is (m := 1) (by omega) (by omega) gu.out _ k0.out.some k0.out.steps).mono ?_
  rintro e w1 ⟨rfl, hb⟩
  have k1 := Lib.hid (k0.out.next hb)
  clear hb k0
  go_wp2_with fail
  refine (compare_is (m := 2) (by omega) (by omega) gd.out _ k1.out.some k1.out.steps).mono ?_
  rintro e w2 ⟨rfl, hb⟩
  have k2 := Lib.hid (k1.out.next hb)
  clear hb k1
  go_wp2_with fail
  refine (compare_is (m := 3) (a := 0#64) (by omega) (by omega) gz.out _ k2.out.some k2.out.steps).mono ?_
  rintro e w3 ⟨rfl, hb⟩
  have k3 := Lib.hid (k2.out.next hb)
  clear hb k2
  go_wp2_with fail
  refine (compare_is (m := 5) (by omega) (by omega) gv.out _ k3.out.some k3.out.steps).mono ?_
  rintro e w4 ⟨rfl, hb⟩
  have k4 := Lib.hid (k3.out.next hb)
  clear hb k3
  clear he hp hz
  have hcs' := hcs.out
  clear hcs
  rcases hcs' with ⟨rfl, rfl, rfl⟩ | ⟨rfl, rfl, rfl⟩ | ⟨rfl, rfl, rfl⟩ | ⟨rfl, rfl, rfl⟩
  · exact absurd (ep.symm.trans eq) (by decide)
  rotate_left 2
  · exact absurd (ep.symm.trans eq) (by decide)
  all_goals
    go_wp2_with fail
    refine (alive2_any _ k4.out.some k4.out.steps k4.out.names).mono ?_
    rintro e wz ⟨rfl, hb⟩
    have kz := Lib.hid (k4.out.next hb)
    clear hb
    go_wp2
    go_ret
    exact ⟨rfl, kz.out.below⟩

set_option maxRecDepth 100000 in
set_option maxHeartbeats 2000000 in
theorem means_c6 (a : BitVec 64) (h0 : a.toInt ≠ 0) (hp : a.toInt < 0) (w : World) (k0 : Hid (KeepsO w w)) : Calls Tryd.prog 6 #[K a, K a] w fun e w' => e = .returned (.bool true) ∧ Below w.heap.size w w' := by
  have gu := Lib.hid (stand_same 1 a)
  have gd := Lib.hid (stand_same 2 a)
  have hz : (a.toInt != 0) = true := by simpa using h0
  have gz := Lib.hid (size_0 h0)
  have he : decide (a.toInt < a.toInt) = false := by simp
  have hd : decide (0 ≤ a.toInt) = false := by simpa using hp
  clear hp
  obtain ⟨p, q, v, ⟨ep, ep'⟩, ⟨eq, eq'⟩, hv, hcs⟩ := even_cases a a
  have gv := Lib.hid hv
  rw [gu.out] at hcs
  clear hv
  have hcs := Lib.hid hcs
  go_enter Tryd.func6, Tryd.ntmps6
  go_wp2_with fail
  refine (compare_is (m := 1) (by omega) (by omega) gu.out _ k0.out.some k0.out.steps).mono ?_
  rintro e w1 ⟨rfl, hb⟩
  have k1 := Lib.hid (k0.out.next hb)
  clear hb k0
  go_wp2_with fail
  refine (compare_is (m := 2) (by omega) (by omega) gd.out _ k1.out.some k1.out.steps).mono ?_
  rintro e w2 ⟨rfl, hb⟩
  have k2 := Lib.hid (k1.out.next hb)
  clear hb k1
  go_wp2_with fail
  refine (compare_is (m := 3) (a := 0#64) (by omega) (by omega) gz.out _ k2.out.some k2.out.steps).mono ?_
  rintro e w3 ⟨rfl, hb⟩
  have k3 := Lib.hid (k2.out.next hb)
  clear hb k2
  go_wp2_with fail
  refine (compare_is (m := 5) (by omega) (by omega) gv.out _ k3.out.some k3.out.steps).mono ?_
  rintro e w4 ⟨rfl, hb⟩
  have k4 := Lib.hid (k3.out.next hb)
  clear hb k3
  clear he hz hd
  have hcs' := hcs.out
  clear hcs
  rcases hcs' with ⟨rfl, rfl, rfl⟩ | ⟨rfl, rfl, rfl⟩ | ⟨rfl, rfl, rfl⟩ | ⟨rfl, rfl, rfl⟩
  · exact absurd (ep.symm.trans eq) (by decide)
  rotate_left 2
  · exact absurd (ep.symm.trans eq) (by decide)
  all_goals
    go_wp2_with fail
    refine (alive2_any _ k4.out.some k4.out.steps k4.out.names).mono ?_
    rintro e wz ⟨rfl, hb⟩
    have kz := Lib.hid (k4.out.next hb)
    clear hb
    go_wp2
    go_ret
    exact ⟨rfl, kz.out.below⟩

set_option maxRecDepth 100000 in
set_option maxHeartbeats 2000000 in
theorem means_c7 (a b : BitVec 64) (hl : b.toInt < a.toInt) (h0 : a.toInt = 0) (w : World) (k0 : Hid (KeepsO w w)) : Calls Tryd.prog 6 #[K a, K b] w fun e w' => e = .returned (.bool true) ∧ Below w.heap.size w w' := by
  have gu := Lib.hid (up_gt hl)
  have gd := Lib.hid (down_gt hl)
  have hz : (a.toInt != 0) = false := by simpa using h0
  have hp : 0 ≤ a.toInt := by omega
  have he : decide (a.toInt < b.toInt) = false := by simp; omega
  clear h0 hl
  obtain ⟨p, q, v, ⟨ep, ep'⟩, ⟨eq, eq'⟩, hv, hcs⟩ := even_cases a b
  have gv := Lib.hid hv
  rw [gu.out] at hcs
  clear hv
  have hcs := Lib.hid hcs
  go_enter Tryd.func6, Tryd.ntmps6
  go_wp2_with fail
  refine (compare_is (m := 1) (by omega) (by omega) gu.out _ k0.out.some k0.out.steps).mono ?_
  rintro e w1 ⟨rfl, hb⟩
  have k1 := Lib.hid (k0.out.next hb)
  clear hb k0
  go_wp2_with fail
  refine (compare_is (m := 2) (by omega) (by omega) gd.out _ k1.out.some k1.out.steps).mono ?_
  rintro e w2 ⟨rfl, hb⟩
  have k2 := Lib.hid (k1.out.next hb)
  clear hb k1
  go_wp2_with fail
  refine (compare_is (m := 5) (by omega) (by omega) gv.out _ k2.out.some k2.out.steps).mono ?_
  rintro e w3 ⟨rfl, hb⟩
  have k3 := Lib.hid (k2.out.next hb)
  clear hb k2
  clear he hp hz
  have hcs' := hcs.out
  clear hcs
  rcases hcs' with ⟨rfl, rfl, rfl⟩ | ⟨rfl, rfl, rfl⟩ | ⟨rfl, rfl, rfl⟩ | ⟨rfl, rfl, rfl⟩
  all_goals
    go_wp2_with fail
    refine (alive2_any _ k3.out.some k3.out.steps k3.out.names).mono ?_
    rintro e wz ⟨rfl, hb⟩
    have kz := Lib.hid (k3.out.next hb)
    clear hb
    go_wp2
    go_ret
    exact ⟨rfl, kz.out.below⟩

set_option maxRecDepth 100000 in
set_option maxHeartbeats 2000000 in
theorem means_c8 (a b : BitVec 64) (hl : b.toInt < a.toInt) (h0 : a.toInt ≠ 0) (hp : 0 ≤ a.toInt) (w : World) (k0 : Hid (KeepsO w w)) : Calls Tryd.prog 6 #[K a, K b] w fun e w' => e = .returned (.bool true) ∧ Below w.heap.size w w' := by
  have gu := Lib.hid (up_gt hl)
  have gd := Lib.hid (down_gt hl)
  have hz : (a.toInt != 0) = true := by simpa using h0
  have gz := Lib.hid (size_0 h0)
  have he : decide (a.toInt < b.toInt) = false := by simp; omega
  clear hl
  obtain ⟨p, q, v, ⟨ep, ep'⟩, ⟨eq, eq'⟩, hv, hcs⟩ := even_cases a b
  have gv := Lib.hid hv
  rw [gu.out] at hcs
  clear hv
  have hcs := Lib.hid hcs
  go_enter Tryd.func6, Tryd.ntmps6
  go_wp2_with fail
  refine (compare_is (m := 1) (by omega) (by omega) gu.out _ k0.out.some k0.out.steps).mono ?_
  rintro e w1 ⟨rfl, hb⟩
  have k1 := Lib.hid (k0.out.next hb)
  clear hb k0
  go_wp2_with fail
  refine (compare_is (m := 2) (by omega) (by omega) gd.out _ k1.out.some k1.out.steps).mono ?_
  rintro e w2 ⟨rfl, hb⟩
  have k2 := Lib.hid (k1.out.next hb)
  clear hb k1
  go_wp2_with fail
  refine (compare_is (m := 3) (a := 0#64) (by omega) (by omega) gz.out _ k2.out.some k2.out.steps).mono ?_
  rintro e w3 ⟨rfl, hb⟩
  have k3 := Lib.hid (k2.out.next hb)
  clear hb k2
  go_wp2_with fail
  refine (compare_is (m := 5) (by omega) (by omega) gv.out _ k3.out.some k3.out.steps).mono ?_
  rintro e w4 ⟨rfl, hb⟩
  have k4 := Lib.hid (k3.out.next hb)
  clear hb k3
  clear he hp hz
  have hcs' := hcs.out
  clear hcs
  rcases hcs' with ⟨rfl, rfl, rfl⟩ | ⟨rfl, rfl, rfl⟩ | ⟨rfl, rfl, rfl⟩ | ⟨rfl, rfl, rfl⟩
  all_goals
    go_wp2_with fail
    refine (alive2_any _ k4.out.some k4.out.steps k4.out.names).mono ?_
    rintro e wz ⟨rfl, hb⟩
    have kz := Lib.hid (k4.out.next hb)
    clear hb
    go_wp2
    go_ret
    exact ⟨rfl, kz.out.below⟩

set_option maxRecDepth 100000 in
set_option maxHeartbeats 2000000 in
theorem means_c9 (a b : BitVec 64) (hl : b.toInt < a.toInt) (h0 : a.toInt ≠ 0) (hp : a.toInt < 0) (w : World) (k0 : Hid (KeepsO w w)) : Calls Tryd.prog 6 #[K a, K b] w fun e w' => e = .returned (.bool true) ∧ Below w.heap.size w w' := by
  have gu := Lib.hid (up_gt hl)
  have gd := Lib.hid (down_gt hl)
  have hz : (a.toInt != 0) = true := by simpa using h0
  have gz := Lib.hid (size_0 h0)
  have he : decide (a.toInt < b.toInt) = false := by simp; omega
  have hd : decide (0 ≤ a.toInt) = false := by simpa using hp
  clear hp
  clear hl
  obtain ⟨p, q, v, ⟨ep, ep'⟩, ⟨eq, eq'⟩, hv, hcs⟩ := even_cases a b
  have gv := Lib.hid hv
  rw [gu.out] at hcs
  clear hv
  have hcs := Lib.hid hcs
  go_enter Tryd.func6, Tryd.ntmps6
  go_wp2_with fail
  refine (compare_is (m := 1) (by omega) (by omega) gu.out _ k0.out.some k0.out.steps).mono ?_
  rintro e w1 ⟨rfl, hb⟩
  have k1 := Lib.hid (k0.out.next hb)
  clear hb k0
  go_wp2_with fail
  refine (compare_is (m := 2) (by omega) (by omega) gd.out _ k1.out.some k1.out.steps).mono ?_
  rintro e w2 ⟨rfl, hb⟩
  have k2 := Lib.hid (k1.out.next hb)
  clear hb k1
  go_wp2_with fail
  refine (compare_is (m := 3) (a := 0#64) (by omega) (by omega) gz.out _ k2.out.some k2.out.steps).mono ?_
  rintro e w3 ⟨rfl, hb⟩
  have k3 := Lib.hid (k2.out.next hb)
  clear hb k2
  go_wp2_with fail
  refine (compare_is (m := 5) (by omega) (by omega) gv.out _ k3.out.some k3.out.steps).mono ?_
  rintro e w4 ⟨rfl, hb⟩
  have k4 := Lib.hid (k3.out.next hb)
  clear hb k3
  clear he hz hd
  have hcs' := hcs.out
  clear hcs
  rcases hcs' with ⟨rfl, rfl, rfl⟩ | ⟨rfl, rfl, rfl⟩ | ⟨rfl, rfl, rfl⟩ | ⟨rfl, rfl, rfl⟩
  all_goals
    go_wp2_with fail
    refine (alive2_any _ k4.out.some k4.out.steps k4.out.names).mono ?_
    rintro e wz ⟨rfl, hb⟩
    have kz := Lib.hid (k4.out.next hb)
    clear hb
    go_wp2
    go_ret
    exact ⟨rfl, kz.out.below⟩

theorem means_walk (a b : BitVec 64) (w : World) (h0 : 1 < w.heap.size) (hs : Steps w) (hn : Names w) : Calls Tryd.prog 6 #[K a, K b] w fun e w' => e = .returned (.bool true) ∧ Below w.heap.size w w' := by
  have k0 := Lib.hid (KeepsO.start h0 hs hn)
  rcases Int.lt_trichotomy a.toInt b.toInt with hl | hl | hl
  · by_cases hz : a.toInt = 0
    · exact means_c1 a b hl hz w k0
    · by_cases hp : 0 ≤ a.toInt
      · exact means_c2 a b hl hz hp w k0
      · exact means_c3 a b hl hz (by omega) w k0
  · obtain rfl := BitVec.eq_of_toInt_eq hl
    by_cases hz : a.toInt = 0
    · exact means_c4 a hz w k0
    · by_cases hp : 0 ≤ a.toInt
      · exact means_c5 a hz hp w k0
      · exact means_c6 a hz (by omega) w k0
  · by_cases hz : a.toInt = 0
    · exact means_c7 a b hl hz w k0
    · by_cases hp : 0 ≤ a.toInt
      · exact means_c8 a b hl hz hp w k0
      · exact means_c9 a b hl hz (by omega) w k0

end Go.Proofs.YtmiponffkhbniaaDoor
