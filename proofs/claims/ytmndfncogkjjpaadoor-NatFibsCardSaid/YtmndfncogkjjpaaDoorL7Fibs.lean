/- The statement NatFibs of layer 7, walked. -/
import Derived.Test.YtmndfncogkjjpaaDoorL7Rules
namespace Go.Proofs.YtmndfncogkjjpaaDoor
open Go.RowKit Go.Proofs.Natm

set_option maxRecDepth 100000 in
set_option maxHeartbeats 4000000 in
theorem natFibs_no (hN : NatSays) (z : Int) (hz : z < 2 ∨ 200 < z) (w : World) (hT : Hid (Tens w)) : Calls Tryd.prog 4 #[.int .i64 z] w fun e w' => e = .returned (.bool true) ∧ Below w.heap.size w w' := by
  obtain ⟨s, hs⟩ : ∃ s, fibL z = s := ⟨_, rfl⟩
  obtain ⟨k, hk⟩ : ∃ k, s.length = k := ⟨_, rfl⟩
  obtain ⟨x, hx⟩ : ∃ x, fibE z = x := ⟨_, rfl⟩
  have c1 := Lib.hid (fun W => hN.fib z s k x W hs hk hx)
  have c2 := Lib.hid (fun W => ref_says.fib z s k x W hs hk hx)
  have k0 := Lib.hid (Below.refl w.heap.size w)
  clear hs hk hx
  by_cases h2 : z < 2
  · have d1 : decide (z < 2) = true := decide_eq_true h2
    clear hz
    go_enter Tryd.func4, Tryd.ntmps4
    go_wp2_with fail
    refine (c1.out _).mono ?_
    rintro e w1 ⟨A1, q1, rfl, hh, hb⟩
    have k1 := Lib.hid (Below.after k0.out hb)
    have ra1 := Lib.hid hh
    clear hb hh k0
    go_wp2_with fail
    refine (c2.out _).mono ?_
    rintro e w2 ⟨A2, q2, rfl, hh, hb⟩
    have ra2 := Lib.hid (ra1.out.next hb)
    have k2 := Lib.hid (Below.after k1.out hb)
    have rb2 := Lib.hid hh
    clear hb hh ra1 k1
    go_wp2_with fail
    refine (same7_yes A1 A2 k q1 q2 s _ ra2.out.lie rb2.out.lie).mono ?_
    rintro e w3 ⟨rfl, hb⟩
    have k3 := Lib.hid (Below.after k2.out hb)
    clear hb  k2
    go_wp2_with fail
    refine (alive7_any hN _ (hT.out.next k3.out)).mono ?_
    rintro e w4 ⟨rfl, hb⟩
    have k4 := Lib.hid (Below.after k3.out hb)
    clear hb  k3
    go_wp2
    go_ret
    exact ⟨rfl, k4.out⟩
  · have d1 : decide (z < 2) = false := decide_eq_false h2
    have d2 : decide (200 < z) = true := decide_eq_true (by omega)
    clear hz
    go_enter Tryd.func4, Tryd.ntmps4
    go_wp2_with fail
    refine (c1.out _).mono ?_
    rintro e w1 ⟨A1, q1, rfl, hh, hb⟩
    have k1 := Lib.hid (Below.after k0.out hb)
    have ra1 := Lib.hid hh
    clear hb hh k0
    go_wp2_with fail
    refine (c2.out _).mono ?_
    rintro e w2 ⟨A2, q2, rfl, hh, hb⟩
    have ra2 := Lib.hid (ra1.out.next hb)
    have k2 := Lib.hid (Below.after k1.out hb)
    have rb2 := Lib.hid hh
    clear hb hh ra1 k1
    go_wp2_with fail
    refine (same7_yes A1 A2 k q1 q2 s _ ra2.out.lie rb2.out.lie).mono ?_
    rintro e w3 ⟨rfl, hb⟩
    have k3 := Lib.hid (Below.after k2.out hb)
    clear hb  k2
    go_wp2_with fail
    refine (alive7_any hN _ (hT.out.next k3.out)).mono ?_
    rintro e w4 ⟨rfl, hb⟩
    have k4 := Lib.hid (Below.after k3.out hb)
    clear hb  k3
    go_wp2
    go_ret
    exact ⟨rfl, k4.out⟩

set_option maxRecDepth 100000 in
set_option maxHeartbeats 4000000 in
theorem natFibs_yes (hN : NatSays) (E : Nat) (hE : E ≤ 198) (w : World) (hT : Hid (Tens w)) : Calls Tryd.prog 4 #[.int .i64 ((E + 2 : Nat) : Int)] w fun e w' => e = .returned (.bool true) ∧ Below w.heap.size w w' := by
  obtain ⟨z, hz⟩ : ∃ z : Int, ((E + 2 : Nat) : Int) = z := ⟨_, rfl⟩
  obtain ⟨a1, a2⟩ := fib_d (k := E + 2) (by omega)
  obtain ⟨b1, b2⟩ := fib_d (k := E + 1) (by omega)
  obtain ⟨e1, e2⟩ := fib_d (k := E) (by omega)
  have hadd := add_d (fib_top (k := E + 1) (by omega)) (fib_top (k := E) (by omega)) (by show fib (E + 2) < Top; exact fib_top (by omega))
  rw [hz] at a1 a2 ⊢
  rw [show ((E + 1 : Nat) : Int) = z - 1 by omega] at b1 b2
  rw [show ((E : Nat) : Int) = z - 2 by omega] at e1 e2
  have d1 : decide (z < 2) = false := decide_eq_false (by omega)
  have d2 : decide (200 < z) = false := decide_eq_false (by omega)
  have z1 : 2 ≤ z := by omega
  have z2 : z ≤ 200 := by omega
  obtain ⟨s, hs⟩ : ∃ s, D (fib (E + 2)) = s := ⟨_, rfl⟩
  obtain ⟨k, hk⟩ : ∃ k, s.length = k := ⟨_, rfl⟩
  obtain ⟨s1, hs1⟩ : ∃ s, D (fib (E + 1)) = s := ⟨_, rfl⟩
  obtain ⟨k1, hk1⟩ : ∃ k, s1.length = k := ⟨_, rfl⟩
  obtain ⟨s2, hs2⟩ : ∃ s, D (fib E) = s := ⟨_, rfl⟩
  obtain ⟨k2, hk2⟩ : ∃ k, s2.length = k := ⟨_, rfl⟩
  have hadd' : addL s1 s2 = s ∧ addE s1 s2 = 0 := by rw [← hs1, ← hs2, ← hs]; exact hadd
  have c1 := Lib.hid (fun W => hN.fib z s k 0 W (a1.trans hs) hk a2)
  have c2 := Lib.hid (fun W => ref_says.fib z s k 0 W (a1.trans hs) hk a2)
  have c3 := Lib.hid (fun W => hN.fib (z - 1) s1 k1 0 W (b1.trans hs1) hk1 b2)
  have c4 := Lib.hid (fun W => hN.fib (z - 2) s2 k2 0 W (e1.trans hs2) hk2 e2)
  have c5 := Lib.hid (fun A n c B m d W => hN.add A n c s1 B m d s2 s k 0 W hadd'.1 hk hadd'.2)
  have k0 := Lib.hid (Below.refl w.heap.size w)
  clear hs hk hs1 hk1 hs2 hk2 a1 a2 b1 b2 e1 e2 hadd hadd' hz hE
  go_enter Tryd.func4, Tryd.ntmps4
  go_wp2_with fail
  refine (c1.out _).mono ?_
  rintro e w1 ⟨A1, q1, rfl, hh, hb⟩
  have k1 := Lib.hid (Below.after k0.out hb)
  have ra1 := Lib.hid hh
  clear hb hh k0
  go_wp2_with fail
  refine (c2.out _).mono ?_
  rintro e w2 ⟨A2, q2, rfl, hh, hb⟩
  have ra2 := Lib.hid (ra1.out.next hb)
  have k2 := Lib.hid (Below.after k1.out hb)
  have rb2 := Lib.hid hh
  clear hb hh ra1 k1
  go_wp2_with fail
  refine (same7_yes A1 A2 k q1 q2 s _ ra2.out.lie rb2.out.lie).mono ?_
  rintro e w3 ⟨rfl, hb⟩
  have ra3 := Lib.hid (ra2.out.next hb)
  have k3 := Lib.hid (Below.after k2.out hb)
  clear hb  ra2 k2
  go_wp2_with fail
  refine (c3.out _).mono ?_
  rintro e w4 ⟨A3, q3, rfl, hh, hb⟩
  have ra4 := Lib.hid (ra3.out.next hb)
  have k4 := Lib.hid (Below.after k3.out hb)
  have rc4 := Lib.hid hh
  clear hb hh ra3 k3
  go_wp2_with fail
  refine (c4.out _).mono ?_
  rintro e w5 ⟨A4, q4, rfl, hh, hb⟩
  have ra5 := Lib.hid (ra4.out.next hb)
  have rc5 := Lib.hid (rc4.out.next hb)
  have k5 := Lib.hid (Below.after k4.out hb)
  have rd5 := Lib.hid hh
  clear hb hh ra4 rc4 k4
  go_wp2_with fail
  refine (c5.out A3 k1 q3 A4 k2 q4 _ rc5.out rd5.out).mono ?_
  rintro e w6 ⟨A5, q5, rfl, hh, hb⟩
  have ra6 := Lib.hid (ra5.out.next hb)
  have k6 := Lib.hid (Below.after k5.out hb)
  have re6 := Lib.hid hh
  clear hb hh ra5 k5
  go_wp2_with fail
  refine (same7_yes A5 A1 k q5 q1 s _ re6.out.lie ra6.out.lie).mono ?_
  rintro e w7 ⟨rfl, hb⟩
  have k7 := Lib.hid (Below.after k6.out hb)
  clear hb  k6
  go_wp2_with fail
  refine (alive7_any hN _ (hT.out.next k7.out)).mono ?_
  rintro e w8 ⟨rfl, hb⟩
  have k8 := Lib.hid (Below.after k7.out hb)
  clear hb  k7
  go_wp2
  go_ret
  exact ⟨rfl, k8.out⟩
theorem natFibs_any (hN : NatSays) (z : Int) (w : World) (hT : Hid (Tens w)) : Calls Tryd.prog 4 #[.int .i64 z] w fun e w' => e = .returned (.bool true) ∧ Below w.heap.size w w' := by
  by_cases h : z < 2 ∨ 200 < z
  · exact natFibs_no hN z h w hT
  · obtain ⟨E, rfl⟩ : ∃ E : Nat, z = ((E + 2 : Nat) : Int) := ⟨(z - 2).toNat, by omega⟩
    exact natFibs_yes hN E (by omega) w hT
end Go.Proofs.YtmndfncogkjjpaaDoor
