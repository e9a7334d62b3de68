/- The three statements of layer 1, walked: each returns true for every argument and changes nothing that lay, while the table of steps reads as its initialiser lays it. -/
import Derived.Test.YtmpinbaeiknjaaaDoorL1Alive
import Derived.Test.YtmpinbaeiknjaaaDoorL1Ref
namespace Go.Proofs.YtmpinbaeiknjaaaDoor
open Go.RowKit Go.Proofs.Mixm

theorem refMix_unmix (b : BitVec 64) (w : World) : Calls Tryd.prog 7 #[V (unmix b)] w fun e w' => e = .returned (V b) ∧ w = w' := by
  have := refMix_any (unmix b) w
  rw [mix_unmix] at this
  exact this
theorem unmix_of_mix (b : BitVec 64) (w : World) (hz : 0 < w.heap.size) (hs : Steps w) : Calls Tryd.prog 14 #[V (mix b)] w fun e w' => e = .returned (V b) ∧ Below w.heap.size w w' := by
  have := unmix_any (mix b) w hz hs
  rw [unmix_mix] at this
  exact this
theorem mix_of_unmix (b : BitVec 64) (w : World) (hz : 0 < w.heap.size) (hs : Steps w) : Calls Tryd.prog 6 #[V (unmix b)] w fun e w' => e = .returned (V b) ∧ Below w.heap.size w w' := by
  have := mix_any (unmix b) w hz hs
  rw [mix_unmix] at this
  exact this

/-- what is kept from call to call: where the calls began, something lay, and the table reads as it did -/
structure Keeps (w w' : World) : Prop where
  below : Below w.heap.size w w'
  some : 0 < w'.heap.size
  steps : Steps w'
theorem Keeps.start {w : World} (h0 : 0 < w.heap.size) (hs : Steps w) : Keeps w w := ⟨Below.refl _ _, h0, hs⟩
theorem Keeps.next {w a b : World} (k : Keeps w a) (hb : Below a.heap.size a b) : Keeps w b :=
  ⟨k.below.trans (hb.mono k.below.size), Nat.lt_of_lt_of_le k.some hb.size, k.steps.below k.some hb⟩

set_option maxHeartbeats 1000000 in
theorem tells_walk (b : BitVec 64) (n key : Int) (w : World) (h0 : 0 < w.heap.size) (hs : Steps w) : Calls Tryd.prog 3 #[V b, .int .i64 n, .int .i64 key] w fun e w' => e = .returned (.bool true) ∧ Below w.heap.size w w' := by
  have k0 := Lib.hid (Keeps.start h0 hs)
  clear h0 hs
  obtain ⟨z, hz⟩ : ∃ z : BitVec 64, IntKind.u64.wrap (IntKind.u64.wrap key + (11400714819323198485 : Int)) = (z.toNat : Int) := ⟨_, gold key⟩
  have hz := Lib.hid hz
  go_enter Tryd.func3, Tryd.ntmps3
  go_wp2_with fail
  refine (mix_any _ _ k0.out.some k0.out.steps).mono ?_
  rintro e w1 ⟨rfl, hb1⟩
  have k1 := Lib.hid (k0.out.next hb1)
  clear hb1
  go_wp2_with fail
  refine (refMix_any _ _).mono ?_
  rintro e w1' ⟨rfl, rfl⟩
  go_wp2_with fail
  refine (turn_any _ _ _).mono ?_
  rintro e w1' ⟨rfl, rfl⟩
  go_wp2_with fail
  refine (refTurn_any _ _ _).mono ?_
  rintro e w1' ⟨rfl, rfl⟩
  go_wp2_with fail
  refine (flip_any _ _).mono ?_
  rintro e w1' ⟨rfl, rfl⟩
  go_wp2_with fail
  refine (refFlip_any _ _).mono ?_
  rintro e w1' ⟨rfl, rfl⟩
  go_wp2_with fail
  refine (of_any _ z hz.out _ k1.out.some k1.out.steps).mono ?_
  rintro e w2 ⟨rfl, hb2⟩
  have k2 := Lib.hid (k1.out.next hb2)
  clear hb2 k1
  go_wp2_with fail
  refine (refOf_any _ z hz.out _).mono ?_
  rintro e w2' ⟨rfl, rfl⟩
  go_wp2_with fail
  refine (unmix_any _ _ k2.out.some k2.out.steps).mono ?_
  rintro e w3 ⟨rfl, hb3⟩
  have k3 := Lib.hid (k2.out.next hb3)
  clear hb3 k2
  go_wp2_with fail
  refine (refMix_unmix _ _).mono ?_
  rintro e w3' ⟨rfl, rfl⟩
  go_wp2_with fail
  refine (alive_any _ k3.out.some k3.out.steps).mono ?_
  rintro e w4 ⟨rfl, hb4⟩
  have k4 := Lib.hid (k3.out.next hb4)
  clear hb4 k3
  go_wp2
  go_ret
  exact ⟨rfl, k4.out.below⟩

/-- the four tests of MixBack that hang on whether both numbers are one -/
structure Alike (a b : BitVec 64) (t : Bool) : Prop where
  x : ((a.toNat : Int) == (b.toNat : Int)) = t
  m : (((mix a).toNat : Int) == ((mix b).toNat : Int)) = t
  u : (((unmix a).toNat : Int) == ((unmix b).toNat : Int)) = t
theorem alike (a b : BitVec 64) : ∃ t, Alike a b t := by
  refine ⟨decide (a = b), v_eq a b, ?_, ?_⟩
  · rw [v_eq]; simp only [mix_inj]
  · rw [v_eq]; simp only [unmix_inj]

set_option maxHeartbeats 1000000 in
theorem back_walk (a b : BitVec 64) (w : World) (h0 : 0 < w.heap.size) (hs : Steps w) : Calls Tryd.prog 4 #[V a, V b] w fun e w' => e = .returned (.bool true) ∧ Below w.heap.size w w' := by
  have k0 := Lib.hid (Keeps.start h0 hs)
  clear h0 hs
  obtain ⟨t, hx, hm, hu⟩ := alike a b
  go_enter Tryd.func4, Tryd.ntmps4
  go_wp2_with fail
  refine (mix_any _ _ k0.out.some k0.out.steps).mono ?_
  rintro e w1 ⟨rfl, hb1⟩
  have k1 := Lib.hid (k0.out.next hb1)
  clear hb1
  go_wp2_with fail
  refine (unmix_of_mix _ _ k1.out.some k1.out.steps).mono ?_
  rintro e w2 ⟨rfl, hb2⟩
  have k2 := Lib.hid (k1.out.next hb2)
  clear hb2 k1
  go_wp2_with fail
  refine (unmix_any _ _ k2.out.some k2.out.steps).mono ?_
  rintro e w3 ⟨rfl, hb3⟩
  have k3 := Lib.hid (k2.out.next hb3)
  clear hb3 k2
  go_wp2_with fail
  refine (mix_of_unmix _ _ k3.out.some k3.out.steps).mono ?_
  rintro e w4 ⟨rfl, hb4⟩
  have k4 := Lib.hid (k3.out.next hb4)
  clear hb4 k3
  go_wp2_with fail
  refine (mix_any _ _ k4.out.some k4.out.steps).mono ?_
  rintro e w5 ⟨rfl, hb5⟩
  have k5 := Lib.hid (k4.out.next hb5)
  clear hb5 k4
  go_wp2_with fail
  refine (mix_any _ _ k5.out.some k5.out.steps).mono ?_
  rintro e w6 ⟨rfl, hb6⟩
  have k6 := Lib.hid (k5.out.next hb6)
  clear hb6 k5
  go_wp2_with fail
  refine (unmix_any _ _ k6.out.some k6.out.steps).mono ?_
  rintro e w7 ⟨rfl, hb7⟩
  have k7 := Lib.hid (k6.out.next hb7)
  clear hb7 k6
  go_wp2_with fail
  refine (unmix_any _ _ k7.out.some k7.out.steps).mono ?_
  rintro e w8 ⟨rfl, hb8⟩
  have k8 := Lib.hid (k7.out.next hb8)
  clear hb8 k7
  go_wp2_with fail
  refine (alive_any _ k8.out.some k8.out.steps).mono ?_
  rintro e w9 ⟨rfl, hb9⟩
  have k9 := Lib.hid (k8.out.next hb9)
  clear hb9 k8
  go_wp2
  go_ret
  exact ⟨rfl, k9.out.below⟩

theorem tmod_lo (n : Int) : -63 ≤ n.tmod 64 := by have := Int.lt_tmod_of_pos n (show (0 : Int) < 64 by omega); omega
theorem tmod_hi (n : Int) : n.tmod 64 ≤ 63 := by have := Int.tmod_lt_of_pos n (show (0 : Int) < 64 by omega); omega
theorem tmod_by (n : Int) : by64 (n.tmod 64) = by64 n := by
  have h := Int.mul_tdiv_add_tmod n 64
  unfold by64; omega
theorem neg_by (n : Int) : (by64 n + by64 (-(n.tmod 64))) % 64 = 0 := by
  have h := tmod_by n
  unfold by64 at *; omega
theorem sum_by (n m : Int) : by64 (n.tmod 64 + m.tmod 64) = (by64 n + by64 m) % 64 := by
  have h := tmod_by n
  have h' := tmod_by m
  unfold by64 at *; omega

set_option maxHeartbeats 1000000 in
theorem turns_walk (b : BitVec 64) (n m : Int) (w : World) (h0 : 0 < w.heap.size) (hs : Steps w) : Calls Tryd.prog 5 #[V b, .int .i64 n, .int .i64 m] w fun e w' => e = .returned (.bool true) ∧ Below w.heap.size w w' := by
  have k0 := Lib.hid (Keeps.start h0 hs)
  clear h0 hs
  have t1 := turn_any b (n.tmod 64) w
  have t2 := turn_any (rot b (by64 n)) (-(n.tmod 64)) w
  have t3 := turn_any (rot b (by64 n)) (m.tmod 64) w
  have t4 := turn_any b (n.tmod 64 + m.tmod 64) w
  have t5 := turn_any (flip b) (-(n.tmod 64)) w
  have f1 := flip_any (flip b) w
  rw [tmod_by] at t1 t3
  rw [rot_rot _ _ _ (by64_lt _) (by64_lt _), neg_by, rot_zero] at t2
  rw [rot_rot _ _ _ (by64_lt _) (by64_lt _)] at t3
  rw [sum_by] at t4
  rw [← flip_rot b (by64 n) _ (by64_lt _) (by64_lt _) (neg_by n)] at t5
  rw [Mixm.flip_flip] at f1
  have t1 := Lib.hid t1
  have t2 := Lib.hid t2
  have t3 := Lib.hid t3
  have t4 := Lib.hid t4
  have t5 := Lib.hid t5
  have f1 := Lib.hid f1
  have n1 := tmod_lo n
  have n2 := tmod_hi n
  have m1 := tmod_lo m
  have m2 := tmod_hi m
  go_enter Tryd.func5, Tryd.ntmps5
  go_wp2_with fail
  refine t1.out.mono ?_
  rintro e w1' ⟨rfl, rfl⟩
  go_wp2_with fail
  refine t2.out.mono ?_
  rintro e w1' ⟨rfl, rfl⟩
  go_wp2_with fail
  refine t1.out.mono ?_
  rintro e w1' ⟨rfl, rfl⟩
  go_wp2_with fail
  refine t3.out.mono ?_
  rintro e w1' ⟨rfl, rfl⟩
  go_wp2_with fail
  refine t4.out.mono ?_
  rintro e w1' ⟨rfl, rfl⟩
  go_wp2_with fail
  refine (turn_any _ _ _).mono ?_
  rintro e w1' ⟨rfl, rfl⟩
  go_wp2_with fail
  refine t1.out.mono ?_
  rintro e w1' ⟨rfl, rfl⟩
  go_wp2_with fail
  refine (flip_any _ _).mono ?_
  rintro e w1' ⟨rfl, rfl⟩
  go_wp2_with fail
  refine f1.out.mono ?_
  rintro e w1' ⟨rfl, rfl⟩
  go_wp2_with fail
  refine t1.out.mono ?_
  rintro e w1' ⟨rfl, rfl⟩
  go_wp2_with fail
  refine (flip_any _ _).mono ?_
  rintro e w1' ⟨rfl, rfl⟩
  go_wp2_with fail
  refine (flip_any _ _).mono ?_
  rintro e w1' ⟨rfl, rfl⟩
  go_wp2_with fail
  refine t5.out.mono ?_
  rintro e w1' ⟨rfl, rfl⟩
  go_wp2_with fail
  refine (alive_any _ k0.out.some k0.out.steps).mono ?_
  rintro e w9 ⟨rfl, hb9⟩
  have k9 := Lib.hid (k0.out.next hb9)
  clear hb9 k0
  go_wp2
  go_ret
  exact ⟨rfl, k9.out.below⟩
end Go.Proofs.YtmpinbaeiknjaaaDoor
