/- Layer 9: the statement NodeAdds, walked. -/
import Derived.Test.YtnepimemmnlbcaaL9Tells
namespace Go.Proofs.Ytnepimemmnlbcaa
open Go.RowKit Go.Proofs.Treem
variable {Nd : NdP}

theorem Look.size (hN : NodeSays Nd) {W : World} {B : Nat} {p : Option Addr} {s m : BitVec 64} (h : Look Nd W B p s m) : Calls Try.prog 17 #[.pointer p] W fun e w' => e = .returned (K s) ∧ Below W.heap.size W w' := by
  rcases h with ⟨rfl, rfl, rfl⟩ | ⟨a, x, rfl, hx, rfl, rfl⟩
  · exact hN.size0 W
  · exact (hN.size W B a x hx).mono (by rintro e w' ⟨rfl, rfl⟩; exact ⟨rfl, Below.refl _ _⟩)
theorem Look.sum (hN : NodeSays Nd) {W : World} {B : Nat} {p : Option Addr} {s m : BitVec 64} (h : Look Nd W B p s m) : Calls Try.prog 18 #[.pointer p] W fun e w' => e = .returned (K m) ∧ Below W.heap.size W w' := by
  rcases h with ⟨rfl, rfl, rfl⟩ | ⟨a, x, rfl, hx, rfl, rfl⟩
  · exact hN.sum0 W
  · exact (hN.sum W B a x hx).mono (by rintro e w' ⟨rfl, rfl⟩; exact ⟨rfl, Below.refl _ _⟩)
theorem Look.next (hN : NodeSays Nd) {W W' : World} {B : Nat} {p : Option Addr} {s m : BitVec 64} (h : Look Nd W B p s m) (hb : Below B W W') : Look Nd W' B p s m := by
  rcases h with ⟨rfl, rfl, rfl⟩ | ⟨a, x, rfl, hx, rfl, rfl⟩
  · exact .inl ⟨rfl, rfl, rfl⟩
  · exact .inr ⟨a, x, rfl, hN.next hx hb, rfl, rfl⟩

theorem Look.after (hN : NodeSays Nd) {W W' : World} {p : Option Addr} {s m : BitVec 64} (h : Look Nd W W.heap.size p s m) (hb : Below W.heap.size W W') : Look Nd W' W'.heap.size p s m := by
  rcases h with ⟨rfl, rfl, rfl⟩ | ⟨a, x, rfl, hx, rfl, rfl⟩
  · exact .inl ⟨rfl, rfl, rfl⟩
  · exact .inr ⟨a, x, rfl, hN.more (hN.next hx hb) hb.size, rfl, rfl⟩
theorem nd_after1 (hN : NodeSays Nd) {w w' : World} {a : Addr} {x : No} (h : Nd w w.heap.size a x) (hb : Below w.heap.size w w') : Nd w' w'.heap.size a x := hN.more (hN.next h hb) hb.size

set_option maxHeartbeats 2000000 in
theorem nodeAdds_long (hN : NodeSays Nd) (A : Option Addr) (n c : Nat) (key val : BitVec 64) (x : Int) (w : World) (h : LongAt w A n c true) : Calls Try.prog 5 #[.slice A n c, K key, K val, .int .u8 x] w fun e w' => e = .returned (.bool true) ∧ Below w.heap.size w w' := by
  have c0 := Lib.hid (h w (Below.refl _ _))
  have c1 := Lib.hid (alive9_any hN)
  clear h hN
  go_enter Try.func5, Try.ntmps5
  go_wp2_with (first
    | (go_at_call 7; (with_reducible refine c0.out.mono ?_); rintro e w' ⟨rfl, rfl⟩)
    | (go_at_call 8; refine (c1.out _).mono ?_; rintro e w1 ⟨rfl, hb⟩; have b1 := Lib.hid hb; clear hb)
    | fail)
  go_ret
  exact ⟨rfl, b1.out⟩

theorem size_check (s : BitVec 64) : wrap64 (wrap64 (2 * s.toInt) + 1) = (s + s + 1#64).toInt := by
  have h1 : wrap64 (2 * s.toInt) = (s + s).toInt := by rw [← i_add]; congr 1; omega
  have h2 := i_add (s + s) 1#64
  rw [show (1#64 : BitVec 64).toInt = 1 by decide] at h2
  rw [h1]; exact h2
theorem sum_check (m v : BitVec 64) : wrap64 (wrap64 (m.toInt + m.toInt) + v.toInt) = (m + v + m).toInt := by
  rw [i_add, i_add]; congr 1; ac_rfl

set_option maxHeartbeats 4000000 in
theorem nodeAdds_yes (hN : NodeSays Nd) (A : Option Addr) (n c : Nat) (l : List Bd) (t : Tr) (key val : BitVec 64) (x : Nat) (hx : x ≤ 255) (w : World) (h : LongAt w A n c false) (ht : TreeIn w A n c l t) : Calls Try.prog 5 #[.slice A n c, K key, K val, .int .u8 x] w fun e w' => e = .returned (.bool true) ∧ Below w.heap.size w w' := by
  have c0 := Lib.hid (h w (Below.refl _ _))
  have c1 := Lib.hid (alive9_any hN)
  have cM := Lib.hid (ht.make hN)
  have hN' := Lib.hid hN
  clear h hN ht
  go_enter Try.func5, Try.ntmps5
  go_wp2_with (first
    | (go_at_call 7; (with_reducible refine c0.out.mono ?_); rintro e w' ⟨rfl, rfl⟩)
    | fail)
  refine (cM.out w (Below.refl _ _)).mono ?_
  rintro e w1 ⟨p, rfl, ht1, hb1⟩
  have l1 := Lib.hid ht1.look
  have b1 := Lib.hid hb1
  clear ht1 hb1 cM c0
  go_wp2_with fail
  go_loopw [9, 10] (fun tv i wr => ∃ (k : Nat) (p : Option Addr) (s m : BitVec 64), k ≤ 255 ∧ i = .int .i64 k ∧ tv = .pointer p ∧ Look Nd wr wr.heap.size p s m ∧ Below w.heap.size w wr) (fun _ i _ => 256 - (intOf i).toNat)
  case atStart => exact ⟨0, p, _, _, by omega, rfl, rfl, l1.out, b1.out⟩
  case round =>
    obtain ⟨k, p, s, m, hk, rfl, rfl, hlo, hb⟩ := hrel
    have hlo' := Lib.hid hlo
    have hb' := Lib.hid hb
    clear hlo hb
    by_cases hlt : k < x % 40
    · have d1 : decide ((k : Int) < (x : Int) % 40) = true := decide_eq_true (by omega)
      go_wp2_with fail
      refine (hN'.out.new wr _ p p key val 0#64 s m s m (Nat.le_refl _) hlo'.out hlo'.out).mono ?_
      rintro e w2 ⟨a, rfl, ha, hnd, hb2⟩
      have b2 := Lib.hid (Below.after hb'.out hb2)
      have n2 := Lib.hid hnd
      have lt := Lib.hid (hlo'.out.after hN'.out hb2)
      have cs : Hid (∀ W, Look Nd W W.heap.size p s m → Calls Try.prog 17 #[.pointer p] W fun e w' => e = .returned (K s) ∧ Below W.heap.size W w') := fun W h => h.size hN'.out
      have cm : Hid (∀ W, Look Nd W W.heap.size p s m → Calls Try.prog 18 #[.pointer p] W fun e w' => e = .returned (K m) ∧ Below W.heap.size W w') := fun W h => h.sum hN'.out
      have us : Hid (∀ W, Nd W W.heap.size a ⟨p, p, key, val, 0#64, s + s + 1#64, m + val + m⟩ → Calls Try.prog 17 #[.pointer (some a)] W fun e w' => e = .returned (.int .i64 (s + s + 1#64).toInt) ∧ W = w') := fun W h => hN'.out.size _ _ _ _ h
      have um : Hid (∀ W, Nd W W.heap.size a ⟨p, p, key, val, 0#64, s + s + 1#64, m + val + m⟩ → Calls Try.prog 18 #[.pointer (some a)] W fun e w' => e = .returned (.int .i64 (m + val + m).toInt) ∧ W = w') := fun W h => hN'.out.sum _ _ _ _ h
      have ul : Hid (∀ W, Nd W W.heap.size a ⟨p, p, key, val, 0#64, s + s + 1#64, m + val + m⟩ → Calls Try.prog 14 #[.pointer (some a)] W fun e w' => e = .returned (.pointer p) ∧ W = w') := fun W h => hN'.out.left _ _ _ _ h
      have ur : Hid (∀ W, Nd W W.heap.size a ⟨p, p, key, val, 0#64, s + s + 1#64, m + val + m⟩ → Calls Try.prog 15 #[.pointer (some a)] W fun e w' => e = .returned (.pointer p) ∧ W = w') := fun W h => hN'.out.right _ _ _ _ h
      have pn := ptr_neq
      have e1 := size_check s
      have e2 := sum_check m val
      clear ha hnd hb2
      go_wp2_with (first
        | (go_at_call 17; (with_reducible refine (us.out _ n2.out).mono ?_); rintro e w' ⟨rfl, rfl⟩)
        | (go_at_call 17; (with_reducible refine (cs.out _ lt.out).mono ?_); rintro e w' ⟨rfl, hb⟩; have q1 := Lib.hid (nd_after1 hN'.out n2.out hb); have q3 := Lib.hid (lt.out.after hN'.out hb); have q4 := Lib.hid (Below.after b2.out hb); clear n2 lt b2 hb; have n2 := q1; have lt := q3; have b2 := q4; clear q1 q3 q4)
        | (go_at_call 18; (with_reducible refine (um.out _ n2.out).mono ?_); rintro e w' ⟨rfl, rfl⟩)
        | (go_at_call 18; (with_reducible refine (cm.out _ lt.out).mono ?_); rintro e w' ⟨rfl, hb⟩; have q1 := Lib.hid (nd_after1 hN'.out n2.out hb); have q3 := Lib.hid (lt.out.after hN'.out hb); have q4 := Lib.hid (Below.after b2.out hb); clear n2 lt b2 hb; have n2 := q1; have lt := q3; have b2 := q4; clear q1 q3 q4)
        | (go_at_call 14; (with_reducible refine (ul.out _ n2.out).mono ?_); rintro e w' ⟨rfl, rfl⟩)
        | (go_at_call 15; (with_reducible refine (ur.out _ n2.out).mono ?_); rintro e w' ⟨rfl, rfl⟩)
        | fail)
      have b3 : Hid (Look Nd _ _ (some a) (s + s + 1#64) (m + val + m)) := .inr ⟨a, _, rfl, n2.out, rfl, rfl⟩
      go_roundw
      case rel => exact ⟨k + 1, some a, _, _, by omega, by go_num, rfl, b3.out, b2.out⟩
      case measure => simp [intOf]; omega
    · have d1 : decide ((k : Int) < (x : Int) % 40) = false := decide_eq_false (by omega)
      go_wp2_with (go_at_call 8; refine (c1.out _).mono ?_; rintro e w4 ⟨rfl, hb⟩; have b4 := Lib.hid (Below.after hb'.out hb); clear hb)
      go_ret
      exact ⟨rfl, b4.out⟩
end Go.Proofs.Ytnepimemmnlbcaa
