/- Layer 9: the chapter's examples (alive), and of which beads a tree is made (Long). -/
import Derived.Test.YtnepimemmnlbcaaL9See
import Derived.LaidEqlPtr
namespace Go.Proofs.Ytnepimemmnlbcaa
open Go.RowKit Go.Proofs.Treem
variable {Nd : NdP}

set_option maxHeartbeats 2000000 in
theorem long9_many (A : Option Addr) (n c : Nat) (h : 400 < n) (hn : n ≤ maxLen) (w : World) : Calls Try.prog 7 #[.slice A n c] w fun e w' => e = .returned (.bool true) ∧ w = w' := by
  unfold maxLen at hn
  have d1 : decide ((400 : Int) < (n : Int)) = true := decide_eq_true (by omega)
  go_enter Try.func7, Try.ntmps7
  go_wp2
  go_ret
  exact ⟨rfl, rfl⟩
set_option maxHeartbeats 2000000 in
theorem long9_few (A : Option Addr) (n c B : Nat) (l : List Bd) (t : Bool) (h : n ≤ 400) (w : World) (hl : LieB w B A n c l) (ht : mayB (l.map strip) = t) : Calls Try.prog 7 #[.slice A n c] w fun e w' => e = .returned (.bool (!t)) ∧ w = w' := by
  have d1 : decide ((400 : Int) < (n : Int)) = false := decide_eq_false (by omega)
  have c0 := Lib.hid (refMay9_any A n c B l w hl (by omega))
  rw [ht] at c0
  clear hl ht
  go_enter Try.func7, Try.ntmps7
  go_wp2_with (go_at_call 19; (with_reducible refine c0.out.mono ?_); rintro e w' ⟨rfl, rfl⟩)
  go_ret
  exact ⟨rfl, rfl⟩

theorem node_info : ∃ j, Try.prog.info? 50 = some j ∧ j.size ≠ 0 := by
  have h : (Try.prog.info? 50).map (fun j => j.size != 0) = some true := by kernel_rfl
  obtain ⟨j, hj, hs⟩ := Option.map_eq_some_iff.1 h
  exact ⟨j, hj, by simpa using hs⟩
theorem ptr_eql (W : World) (p : Option Addr) : (binOp .eql 26 (.pointer p) (.pointer p)).run Try.prog W = .ok (.bool true) W := by
  cases p with
  | none => exact run_eql_pointer_nil W _ none Try.underlying26
  | some a =>
    obtain ⟨j, hj, _⟩ := node_info
    exact run_eql_ptr_same W a Try.underlying26 hj
theorem neq_of_eql {P : Program} {W W' : World} {t : TypeId} {a b : Option Addr} {r : Bool} (h : (binOp .eql t (.pointer a) (.pointer b)).run P W = .ok (.bool r) W') : (binOp .neq t (.pointer a) (.pointer b)).run P W = .ok (.bool (!r)) W' := by
  simp only [binOp] at h ⊢
  simp at h ⊢
  cases hh : (Op.equal t (.pointer a) (.pointer b)).run P W with
  | ok v w1 => rw [hh] at h; simp at h ⊢; obtain ⟨h1, h2⟩ := h; exact ⟨by rw [h1], h2⟩
  | _ => rw [hh] at h; simp at h
theorem ptr_neq (W : World) (p : Option Addr) : (binOp .neq 26 (.pointer p) (.pointer p)).run Try.prog W = .ok (.bool false) W := neq_of_eql (ptr_eql W p)
theorem k5 : K 5#64 = .int .i64 5 := rfl
theorem k6 : K 6#64 = .int .i64 6 := rfl
theorem k7 : K 7#64 = .int .i64 7 := rfl
theorem k9 : K (18446744073709551607#64) = .int .i64 (-9) := by show Value.int .i64 (BitVec.toInt 18446744073709551607#64) = _; rw [show (BitVec.toInt 18446744073709551607#64) = -9 by decide]
theorem g1 : G64 1#64 = .int .u64 1 := rfl
theorem g2 : G64 2#64 = .int .u64 2 := rfl
set_option maxHeartbeats 4000000 in
theorem alive9_any (hN : NodeSays Nd) (w : World) : Calls Try.prog 8 #[] w fun e w' => e = .returned (.bool true) ∧ Below w.heap.size w w' := by
  have c1 := Lib.hid (fun W => hN.new W W.heap.size none none 5#64 7#64 1#64 0#64 0#64 0#64 0#64 (Nat.le_refl _) (.inl ⟨rfl, rfl, rfl⟩) (.inl ⟨rfl, rfl, rfl⟩))
  rw [k5, k7, g1] at c1
  have c2 := Lib.hid (fun W a (h : Nd W W.heap.size a ⟨none, none, 5#64, 7#64, 1#64, 1#64, 7#64⟩) => hN.new W W.heap.size (some a) (some a) 6#64 18446744073709551607#64 2#64 1#64 7#64 1#64 7#64 (Nat.le_refl _) (.inr ⟨a, _, rfl, h, rfl, rfl⟩) (.inr ⟨a, _, rfl, h, rfl, rfl⟩))
  rw [k6, k9, g2] at c2
  have e1 : (0#64 + 0#64 + 1#64 : BitVec 64) = 1#64 := by decide
  have e2 : (0#64 + 7#64 + 0#64 : BitVec 64) = 7#64 := by decide
  have e3 : (1#64 + 1#64 + 1#64 : BitVec 64) = 3#64 := by decide
  have e4 : (7#64 + 18446744073709551607#64 + 7#64 : BitVec 64) = 5#64 := by decide
  simp only [e1, e2] at c1
  simp only [e3, e4] at c2
  clear e1 e2 e3 e4
  have cw : Hid (∀ W, Calls Try.prog 13 #[.pointer none, .int .i64 1, .int .i64 1] W fun e w' => e = .returned (.pointer none) ∧ Below W.heap.size W w') := fun W => hN.with0 W 1#64 1#64
  have hN' := Lib.hid hN
  clear hN
  have s1 : Hid (∀ W a, Nd W W.heap.size a ⟨none, none, 5#64, 7#64, 1#64, 1#64, 7#64⟩ → Calls Try.prog 17 #[.pointer (some a)] W fun e w' => e = .returned (.int .i64 1) ∧ W = w') := fun W a h => hN'.out.size _ _ _ _ h
  have m1 : Hid (∀ W a, Nd W W.heap.size a ⟨none, none, 5#64, 7#64, 1#64, 1#64, 7#64⟩ → Calls Try.prog 18 #[.pointer (some a)] W fun e w' => e = .returned (.int .i64 7) ∧ W = w') := fun W a h => hN'.out.sum _ _ _ _ h
  have s2 : Hid (∀ W a b, Nd W W.heap.size b ⟨some a, some a, 6#64, 18446744073709551607#64, 2#64, 3#64, 5#64⟩ → Calls Try.prog 17 #[.pointer (some b)] W fun e w' => e = .returned (.int .i64 3) ∧ W = w') := fun W a b h => hN'.out.size _ _ _ _ h
  have m2 : Hid (∀ W a b, Nd W W.heap.size b ⟨some a, some a, 6#64, 18446744073709551607#64, 2#64, 3#64, 5#64⟩ → Calls Try.prog 18 #[.pointer (some b)] W fun e w' => e = .returned (.int .i64 5) ∧ W = w') := fun W a b h => hN'.out.sum _ _ _ _ h
  have l2 : Hid (∀ W a b, Nd W W.heap.size b ⟨some a, some a, 6#64, 18446744073709551607#64, 2#64, 3#64, 5#64⟩ → Calls Try.prog 14 #[.pointer (some b)] W fun e w' => e = .returned (.pointer (some a)) ∧ W = w') := fun W a b h => hN'.out.left _ _ _ _ h
  have r2 : Hid (∀ W a b, Nd W W.heap.size b ⟨some a, some a, 6#64, 18446744073709551607#64, 2#64, 3#64, 5#64⟩ → Calls Try.prog 15 #[.pointer (some b)] W fun e w' => e = .returned (.pointer (some a)) ∧ W = w') := fun W a b h => hN'.out.right _ _ _ _ h
  have q2 : Hid (∀ W a b, Nd W W.heap.size b ⟨some a, some a, 6#64, 18446744073709551607#64, 2#64, 3#64, 5#64⟩ → Calls Try.prog 20 #[.pointer (some b)] W fun e w' => e = .returned (.int .i64 6) ∧ W = w') := fun W a b h => hN'.out.key _ _ _ _ h
  go_enter Try.func8, Try.ntmps8
  go_wp2_with fail
  refine (c1.out w).mono ?_
  rintro e w1 ⟨a, rfl, ha, h1, hb1⟩
  have n1 := Lib.hid h1
  have b1 := Lib.hid hb1
  clear ha h1 hb1 c1
  go_wp2_with fail
  refine (c2.out w1 a n1.out).mono ?_
  rintro e w2 ⟨b, rfl, hb, h2, hb2⟩
  have q1 := Lib.hid (hN'.out.more (hN'.out.next n1.out hb2) hb2.size)
  clear n1
  have n1 := q1
  clear q1
  have n2 := Lib.hid h2
  have b2 := Lib.hid (Below.after b1.out hb2)
  clear hb h2 hb2 c2 b1
  have pe := ptr_eql
  go_wp2_with fail
  refine (hN'.out.left0 _).mono ?_
  rintro e u0 ⟨rfl, hb⟩
  have q1 := Lib.hid (hN'.out.more (hN'.out.next n1.out hb) hb.size)
  have q3 := Lib.hid (hN'.out.more (hN'.out.next n2.out hb) hb.size)
  have q4 := Lib.hid (Below.after b2.out hb)
  clear n1 n2 b2 hb
  have n1 := q1
  have n2 := q3
  have b2 := q4
  clear q1 q3 q4
  go_wp2_with fail
  refine (hN'.out.right0 _).mono ?_
  rintro e u1 ⟨rfl, hb⟩
  have q1 := Lib.hid (hN'.out.more (hN'.out.next n1.out hb) hb.size)
  have q3 := Lib.hid (hN'.out.more (hN'.out.next n2.out hb) hb.size)
  have q4 := Lib.hid (Below.after b2.out hb)
  clear n1 n2 b2 hb
  have n1 := q1
  have n2 := q3
  have b2 := q4
  clear q1 q3 q4
  go_wp2_with fail
  refine (hN'.out.key0 _).mono ?_
  rintro e u2 ⟨rfl, hb⟩
  have q1 := Lib.hid (hN'.out.more (hN'.out.next n1.out hb) hb.size)
  have q3 := Lib.hid (hN'.out.more (hN'.out.next n2.out hb) hb.size)
  have q4 := Lib.hid (Below.after b2.out hb)
  clear n1 n2 b2 hb
  have n1 := q1
  have n2 := q3
  have b2 := q4
  clear q1 q3 q4
  go_wp2_with fail
  refine (hN'.out.val0 _).mono ?_
  rintro e u3 ⟨rfl, hb⟩
  have q1 := Lib.hid (hN'.out.more (hN'.out.next n1.out hb) hb.size)
  have q3 := Lib.hid (hN'.out.more (hN'.out.next n2.out hb) hb.size)
  have q4 := Lib.hid (Below.after b2.out hb)
  clear n1 n2 b2 hb
  have n1 := q1
  have n2 := q3
  have b2 := q4
  clear q1 q3 q4
  go_wp2_with fail
  refine (hN'.out.tag0 _).mono ?_
  rintro e u4 ⟨rfl, hb⟩
  have q1 := Lib.hid (hN'.out.more (hN'.out.next n1.out hb) hb.size)
  have q3 := Lib.hid (hN'.out.more (hN'.out.next n2.out hb) hb.size)
  have q4 := Lib.hid (Below.after b2.out hb)
  clear n1 n2 b2 hb
  have n1 := q1
  have n2 := q3
  have b2 := q4
  clear q1 q3 q4
  go_wp2_with fail
  refine (hN'.out.size0 _).mono ?_
  rintro e u5 ⟨rfl, hb⟩
  have q1 := Lib.hid (hN'.out.more (hN'.out.next n1.out hb) hb.size)
  have q3 := Lib.hid (hN'.out.more (hN'.out.next n2.out hb) hb.size)
  have q4 := Lib.hid (Below.after b2.out hb)
  clear n1 n2 b2 hb
  have n1 := q1
  have n2 := q3
  have b2 := q4
  clear q1 q3 q4
  go_wp2_with fail
  refine (hN'.out.sum0 _).mono ?_
  rintro e u6 ⟨rfl, hb⟩
  have q1 := Lib.hid (hN'.out.more (hN'.out.next n1.out hb) hb.size)
  have q3 := Lib.hid (hN'.out.more (hN'.out.next n2.out hb) hb.size)
  have q4 := Lib.hid (Below.after b2.out hb)
  clear n1 n2 b2 hb
  have n1 := q1
  have n2 := q3
  have b2 := q4
  clear q1 q3 q4
  go_wp2_with fail
  refine (cw.out _).mono ?_
  rintro e u7 ⟨rfl, hb⟩
  have q1 := Lib.hid (hN'.out.more (hN'.out.next n1.out hb) hb.size)
  have q3 := Lib.hid (hN'.out.more (hN'.out.next n2.out hb) hb.size)
  have q4 := Lib.hid (Below.after b2.out hb)
  clear n1 n2 b2 hb
  have n1 := q1
  have n2 := q3
  have b2 := q4
  clear q1 q3 q4
  go_wp2_with (first
    | (go_at_call 17; (with_reducible refine (s1.out _ _ n1.out).mono ?_); rintro e w' ⟨rfl, rfl⟩)
    | (go_at_call 18; (with_reducible refine (m1.out _ _ n1.out).mono ?_); rintro e w' ⟨rfl, rfl⟩)
    | (go_at_call 17; (with_reducible refine (s2.out _ _ _ n2.out).mono ?_); rintro e w' ⟨rfl, rfl⟩)
    | (go_at_call 18; (with_reducible refine (m2.out _ _ _ n2.out).mono ?_); rintro e w' ⟨rfl, rfl⟩)
    | (go_at_call 14; (with_reducible refine (l2.out _ _ _ n2.out).mono ?_); rintro e w' ⟨rfl, rfl⟩)
    | (go_at_call 15; (with_reducible refine (r2.out _ _ _ n2.out).mono ?_); rintro e w' ⟨rfl, rfl⟩)
    | (go_at_call 20; (with_reducible refine (q2.out _ _ _ n2.out).mono ?_); rintro e w' ⟨rfl, rfl⟩)
    | fail)
  go_ret
  exact ⟨rfl, b2.out⟩
end Go.Proofs.Ytnepimemmnlbcaa
