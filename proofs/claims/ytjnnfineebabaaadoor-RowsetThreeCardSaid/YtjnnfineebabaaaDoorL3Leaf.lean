/- The contracts of package fold's small functions (first, second, both, adder and its closure), and of Combine and May. -/
import Derived.Test.YtjnnfineebabaaaDoorL3Math
import Derived.Test.YtjnnfineebabaaaDoorL3Rule
import Derived.Test.YtjnnfineebabaaaDoorGNum
import Derived.Test.YtjnnfineebabaaaDoorGRow
import Derived.Shelf.Abstract
namespace Go.Proofs.YtjnnfineebabaaaDoor
open Go.RowKit Go.Shelf Go.Proofs.Foldm

set_option maxHeartbeats 400000 in
theorem first_any (a b : BitVec 64) (w : World) : Calls Tryd.prog 59 #[K a, K b] w fun e w' => e = .returned (K a) ∧ w = w' := by
  go_enter Tryd.func59, Tryd.ntmps59
  go_wp2
  go_ret
  exact ⟨rfl, rfl⟩
set_option maxHeartbeats 400000 in
theorem second_any (a b : BitVec 64) (w : World) : Calls Tryd.prog 60 #[K a, K b] w fun e w' => e = .returned (K b) ∧ w = w' := by
  go_enter Tryd.func60, Tryd.ntmps60
  go_wp2
  go_ret
  exact ⟨rfl, rfl⟩
set_option maxHeartbeats 400000 in
theorem both_any (a b : BitVec 64) (w : World) : Calls Tryd.prog 61 #[K a, K b] w fun e w' => e = .returned (K (a + b)) ∧ w = w' := by
  go_enter Tryd.func61, Tryd.ntmps61
  go_wp2
  go_ret
  exact ⟨ret_int (i_add _ _), rfl⟩

/-- which function a policy has, that it is entered where it is called, and what it returns -/
theorem pol_of (p : Nat) (h1 : 1 ≤ p) (h3 : p ≤ 3) : ∃ f : FuncId, Hid (polV p = .agg #[fnV f]) ∧ (∀ args w, (callFunc f args).run Tryd.prog w = .ok (.enter f args) w) ∧
    Hid (∀ a b w, Calls Tryd.prog f #[K a, K b] w fun e w' => e = .returned (K (cmb p a b)) ∧ w = w') := by
  have : p = 1 ∨ p = 2 ∨ p = 3 := by omega
  rcases this with rfl | rfl | rfl
  · exact ⟨_, Lib.hid rfl, enters_of Tryd.func59 (by kernel_rfl) rfl, Lib.hid fun a b w => first_any a b w⟩
  · exact ⟨_, Lib.hid rfl, enters_of Tryd.func60 (by kernel_rfl) rfl, Lib.hid fun a b w => second_any a b w⟩
  · exact ⟨_, Lib.hid rfl, enters_of Tryd.func61 (by kernel_rfl) rfl, Lib.hid fun a b w => both_any a b w⟩

set_option maxHeartbeats 400000 in
theorem combine_at (p : Nat) (h1 : 1 ≤ p) (h3 : p ≤ 3) (a b : BitVec 64) (w : World) : Calls Tryd.prog 48 #[.int .u8 p, K a, K b] w fun e w' => e = .returned (.tuple #[K (cmb p a b), .int .i64 0]) ∧ Below w.heap.size w w' := by
  obtain ⟨f, hf, he, hC⟩ := pol_of p h1 h3
  go_enter Tryd.func48, Tryd.ntmps48
  go_wp2_with fail
  refine (polOf_at p h1 h3 f hf _).mono ?_
  rintro e w1 ⟨rfl, hb⟩
  have hb1 := Lib.hid hb
  clear hb
  go_wp2_with fail
  refine (hC.out _ _ _).mono ?_
  rintro e w2 ⟨rfl, rfl⟩
  go_wp2
  go_ret2
  exact ⟨rfl, hb1.out.alloc hb1.out.size _⟩
set_option maxHeartbeats 400000 in
theorem combine_none (p : Int) (h : ¬ (1 ≤ p ∧ p ≤ 3)) (a b : BitVec 64) (w : World) : Calls Tryd.prog 48 #[.int .u8 p, K a, K b] w fun e w' => e = .returned (.tuple #[.int .i64 0, .int .i64 2]) ∧ Below w.heap.size w w' := by
  have h' := Lib.hid h
  clear h
  go_enter Tryd.func48, Tryd.ntmps48
  go_wp2_with fail
  refine (polOf_none p h'.out _).mono ?_
  rintro e w1 ⟨rfl, hb⟩
  have hb1 := Lib.hid hb
  clear hb
  go_wp2
  go_ret2
  exact ⟨rfl, hb1.out.alloc hb1.out.size _⟩
set_option maxHeartbeats 400000 in
theorem may_at (p : Nat) (h1 : 1 ≤ p) (h3 : p ≤ 3) (w : World) : Calls Tryd.prog 26 #[.int .u8 p] w fun e w' => e = .returned (.bool true) ∧ Below w.heap.size w w' := by
  obtain ⟨f, hf, _, _⟩ := pol_of p h1 h3
  go_enter Tryd.func26, Tryd.ntmps26
  go_wp2_with fail
  refine (polOf_at p h1 h3 f hf _).mono ?_
  rintro e w1 ⟨rfl, hb⟩
  have hb1 := Lib.hid hb
  clear hb
  go_wp2
  go_ret
  exact ⟨rfl, hb1.out.alloc hb1.out.size _⟩
set_option maxHeartbeats 400000 in
theorem may_none (p : Int) (h : ¬ (1 ≤ p ∧ p ≤ 3)) (w : World) : Calls Tryd.prog 26 #[.int .u8 p] w fun e w' => e = .returned (.bool false) ∧ Below w.heap.size w w' := by
  have h' := Lib.hid h
  clear h
  go_enter Tryd.func26, Tryd.ntmps26
  go_wp2_with fail
  refine (polOf_none p h'.out _).mono ?_
  rintro e w1 ⟨rfl, hb⟩
  have hb1 := Lib.hid hb
  clear hb
  go_wp2
  go_ret
  exact ⟨rfl, hb1.out.alloc hb1.out.size _⟩
end Go.Proofs.YtjnnfineebabaaaDoor
