/- The contract of the statements' own 'alive' of layer 3 (the chapter's examples hold). -/
import Derived.Test.YtbjfoopiicppeaaL3Own
namespace Go.Proofs.Ytbjfoopiicppeaa
open Go.RowKit Go.Proofs.Foldm

theorem row_new (w : World) (t : TypeId) (cs : Array Value) : Row (w.alloc (.cells cs t)) (w.alloc (.cells cs t)).heap.size (some ⟨w.heap.size, 0, none⟩) cs.toList := (Has.new w t cs).row

theorem combine_e1 (w : World) : Calls Try.prog 7 #[.int .u8 1, .int .i64 1, .int .i64 2] w fun e w' => e = .returned (.tuple #[.int .i64 1, .int .i64 0]) ∧ Below w.heap.size w w' :=
  combine_at 1 (by omega) (by omega) 1#64 2#64 w
theorem run_e2 (w : World) : Calls Try.prog 8 #[.int .u8 3, .slice (some ⟨w.heap.size, 0, none⟩) 3 3] (w.alloc (.cells #[.int .i64 1, .int .i64 2, .int .i64 3] 2)) fun e w' => e = .returned (.tuple #[.int .i64 6, .int .i64 0]) ∧ Below w.heap.size w w' :=
  (run_at 3 (by omega) (by omega) _ 3 3 [1#64, 2#64, 3#64] rfl (by omega) (by omega) (by unfold maxLen; omega) _ (row_new w 2 #[.int .i64 1, .int .i64 2, .int .i64 3])).mono fun _ _ ⟨he, hb⟩ => ⟨he, ((Below.refl _ _).alloc (Nat.le_refl _) _).trans (hb.mono (by simp))⟩
theorem run_e3 (w : World) : Calls Try.prog 8 #[.int .u8 2, .slice (some ⟨w.heap.size, 0, none⟩) 3 3] (w.alloc (.cells #[.int .i64 1, .int .i64 2, .int .i64 3] 2)) fun e w' => e = .returned (.tuple #[.int .i64 3, .int .i64 0]) ∧ Below w.heap.size w w' :=
  (run_at 2 (by omega) (by omega) _ 3 3 [1#64, 2#64, 3#64] rfl (by omega) (by omega) (by unfold maxLen; omega) _ (row_new w 2 #[.int .i64 1, .int .i64 2, .int .i64 3])).mono fun _ _ ⟨he, hb⟩ => ⟨he, ((Below.refl _ _).alloc (Nat.le_refl _) _).trans (hb.mono (by simp))⟩
theorem run_e4 (w : World) : Calls Try.prog 8 #[.int .u8 3, .slice none 0 0] w fun e w' => e = .returned (.tuple #[.int .i64 0, .int .i64 3]) ∧ Below w.heap.size w w' :=
  run_empty 3 (by omega) (by omega) _ _ w
theorem sums_e5 (w : World) : Calls Try.prog 16 #[.slice (some ⟨w.heap.size, 0, none⟩) 3 3] (w.alloc (.cells #[.int .i64 1, .int .i64 2, .int .i64 3] 2)) (Makes w 3 [.int .i64 1, .int .i64 3, .int .i64 6]) :=
  (sums_any _ 3 3 [1#64, 2#64, 3#64] rfl (by omega) (by omega) _ (row_new w 2 #[.int .i64 1, .int .i64 2, .int .i64 3])).mono fun _ _ ⟨A, c, he, h1, h2, hr, hb⟩ => ⟨A, c, he, h1, h2, hr, ((Below.refl _ _).alloc (Nat.le_refl _) _).trans (hb.mono (by simp))⟩
theorem same_e6 (A : Option Addr) (c : Nat) (w : World) (h : Row w w.heap.size A [.int .i64 1, .int .i64 3, .int .i64 6]) : Calls Try.prog 15 #[.slice A 3 c, .slice (some ⟨w.heap.size, 0, none⟩) 3 3] (w.alloc (.cells #[.int .i64 1, .int .i64 3, .int .i64 6] 2)) fun e w' => e = .returned (.bool true) ∧ Below w.heap.size w w' :=
  (same_yes A _ 3 c 3 [1#64, 3#64, 6#64] rfl (by unfold maxLen; omega) _ ((h.alloc (Nat.le_refl _) _).more (by simp)) (row_new w 2 #[.int .i64 1, .int .i64 3, .int .i64 6])).mono fun _ _ ⟨he, hb⟩ => ⟨he, ((Below.refl _ _).alloc (Nat.le_refl _) _).trans (hb.mono (by simp))⟩
theorem sum_e7 (w : World) : Calls Try.prog 13 #[.slice (some ⟨w.heap.size, 0, none⟩) 2 2] (w.alloc (.cells #[.int .i64 9223372036854775807, .int .i64 1] 2)) fun e w' => e = .returned (.int .i64 (-9223372036854775808)) ∧ Below w.heap.size w w' :=
  (sum_at _ 2 2 [9223372036854775807#64, 1#64] rfl (by omega) (by unfold maxLen; omega) _ (row_new w 2 #[.int .i64 9223372036854775807, .int .i64 1])).mono fun _ _ ⟨he, hb⟩ => ⟨he, ((Below.refl _ _).alloc (Nat.le_refl _) _).trans (hb.mono (by simp))⟩

set_option maxRecDepth 100000 in
set_option maxHeartbeats 1000000 in
theorem alive3_any (w : World) : Calls Try.prog 6 #[] w fun e w' => e = .returned (.bool true) ∧ Below w.heap.size w w' := by
  go_enter Try.func6, Try.ntmps6
  go_wp2_with fail
  refine (combine_e1 _).mono ?_
  rintro e w1 ⟨rfl, hb⟩
  have k1 := Lib.hid hb
  clear hb
  go_wp2_with fail
  refine (run_e2 _).mono ?_
  rintro e w2 ⟨rfl, hb⟩
  have k2 := Lib.hid (Below.after k1.out hb)
  clear hb k1
  go_wp2_with fail
  refine (run_e3 _).mono ?_
  rintro e w3 ⟨rfl, hb⟩
  have k3 := Lib.hid (Below.after k2.out hb)
  clear hb k2
  go_wp2_with fail
  refine (run_e4 _).mono ?_
  rintro e w4 ⟨rfl, hb⟩
  have k4 := Lib.hid (Below.after k3.out hb)
  clear hb k3
  go_wp2_with fail
  refine (sums_e5 _).mono ?_
  rintro e w5 ⟨A, c, rfl, _, _, hr, hb⟩
  have k5 := Lib.hid (Below.after k4.out hb)
  have hr5 := Lib.hid hr
  clear hb k4 hr
  go_wp2_with fail
  refine (same_e6 _ _ _ hr5.out).mono ?_
  rintro e w6 ⟨rfl, hb⟩
  have k6 := Lib.hid (Below.after k5.out hb)
  clear hb k5 hr5
  go_wp2_with fail
  refine (sum_e7 _).mono ?_
  rintro e w7 ⟨rfl, hb⟩
  have k7 := Lib.hid (Below.after k6.out hb)
  clear hb k6
  go_wp2
  go_ret
  exact ⟨rfl, k7.out⟩
end Go.Proofs.Ytbjfoopiicppeaa
