/- The examples of chapter 4, call by call. -/
import Derived.Test.YtekggefokoaidaaDoorL4Find
import Derived.Test.YtekggefokoaidaaDoorL4PutC
namespace Go.Proofs.YtekggefokoaidaaDoor
open Go.RowKit Go.Shelf Go.Proofs.Rowm

/-- the row of the examples -/
def L0 : List Pr := [(1#64, 10#64), (3#64, 30#64)]
theorem flat_L0 : flat L0 = [.int .i64 1, .int .i64 10, .int .i64 3, .int .i64 30] := rfl
theorem may_L0 : mayB 1 L0 = true := by decide +kernel
theorem at_two : At 1 L0 2#64 1 1 := by
  have h := at_of (o := 1) (l := L0) (by decide +kernel) 2#64
  rw [show pos 1 2#64 L0 = 1 by decide +kernel, show upto 1 2#64 L0 = 1 by decide +kernel] at h
  exact h
theorem at_three : At 1 L0 3#64 1 2 := by
  have h := at_of (o := 1) (l := L0) (by decide +kernel) 3#64
  rw [show pos 1 3#64 L0 = 1 by decide +kernel, show upto 1 3#64 L0 = 2 by decide +kernel] at h
  exact h
theorem at_one : At 1 L0 1#64 0 1 := by
  have h := at_of (o := 1) (l := L0) (by decide +kernel) 1#64
  rw [show pos 1 1#64 L0 = 0 by decide +kernel, show upto 1 1#64 L0 = 1 by decide +kernel] at h
  exact h
theorem at_four : At 1 L0 4#64 2 2 := by
  have h := at_of (o := 1) (l := L0) (by decide +kernel) 4#64
  rw [show pos 1 4#64 L0 = 2 by decide +kernel, show upto 1 4#64 L0 = 2 by decide +kernel] at h
  exact h
section
variable {g : Nat} {w : World} (h0 : 0 < w.heap.size) (hs : Steps w) (hr : Row w w.heap.size (some ⟨g, 0, none⟩) (flat L0))
include h0 hs hr
theorem find_e : Calls Tryd.prog 8 #[.int .u8 1, .slice (some ⟨g, 0, none⟩) 2 2, .int .i64 2] w fun e w' => e = .returned (.tuple #[.int .i64 1, .bool false]) ∧ Below w.heap.size w w' :=
  find_yes 1 _ 2 2 L0 2#64 1 1 false rfl may_L0 at_two rfl (by omega) w h0 hs hr
theorem put_e : Calls Tryd.prog 12 #[.int .u8 1, .int .u8 3, .slice (some ⟨g, 0, none⟩) 2 2, .agg #[.int .i64 3, .int .i64 5]] w (MadeT w [(1#64, 10#64), (3#64, 35#64)] (.int .i64 0)) := by
  have := put_yes 1 3 (by omega) (by omega) (some ⟨g, 0, none⟩) 2 2 L0 (3#64, 5#64) 1 2 may_L0 at_three rfl (by omega) (by omega) (by simp) w h0 hs hr
  rw [show putAt 3 L0 (3#64, 5#64) 1 2 = [(1#64, 10#64), (3#64, 35#64)] by decide +kernel] at this
  exact this
theorem drop_e : Calls Tryd.prog 14 #[.int .u8 1, .slice (some ⟨g, 0, none⟩) 2 2, .int .i64 1] w (MadeT w [(3#64, 30#64)] (.bool true)) :=
  drop_yes 1 _ 2 2 L0 1#64 0 1 true rfl may_L0 at_one rfl (by omega) (by omega) (by simp) w h0 hs hr
theorem floor_e : Calls Tryd.prog 16 #[.int .u8 1, .slice (some ⟨g, 0, none⟩) 2 2, .int .i64 2] w fun e w' => e = .returned (.tuple #[.agg #[.int .i64 1, .int .i64 10], .bool true]) ∧ Below w.heap.size w w' :=
  floor_yes 1 _ 2 2 L0 2#64 1 1 true rfl (1#64, 10#64) rfl may_L0 at_two rfl (by omega) w h0 hs hr
theorem ceil_e : Calls Tryd.prog 18 #[.int .u8 1, .slice (some ⟨g, 0, none⟩) 2 2, .int .i64 4] w fun e w' => e = .returned (.tuple #[.agg #[.int .i64 0, .int .i64 0], .bool false]) ∧ Below w.heap.size w w' :=
  ceil_yes 1 _ 2 2 L0 4#64 2 2 false rfl (0#64, 0#64) rfl may_L0 at_four rfl (by omega) w h0 hs hr
end
theorem flat_T : flat [(3#64, 30#64), (1#64, 10#64)] = [.int .i64 3, .int .i64 30, .int .i64 1, .int .i64 10] := rfl
section
variable {A : Option Addr} {w : World} (h0 : 0 < w.heap.size) (hs : Steps w) (hr : Row w w.heap.size A [.int .i64 3, .int .i64 30, .int .i64 1, .int .i64 10])
include h0 hs hr
theorem may_e2 : Calls Tryd.prog 20 #[.int .u8 2, .slice A 2 2] w fun e w' => e = .returned (.bool true) ∧ Below w.heap.size w w' :=
  rowMay_is (o := 2) (l := [(3#64, 30#64), (1#64, 10#64)]) (n := 2) (by decide +kernel) rfl (by omega) h0 hs (by rw [flat_T]; exact hr)
theorem may_e1 : Calls Tryd.prog 20 #[.int .u8 1, .slice A 2 2] w fun e w' => e = .returned (.bool false) ∧ Below w.heap.size w w' :=
  rowMay_is (o := 1) (l := [(3#64, 30#64), (1#64, 10#64)]) (n := 2) (by decide +kernel) rfl (by omega) h0 hs (by rw [flat_T]; exact hr)
end
theorem same_e {A A' : Option Addr} {c c' : Nat} {w : World} (l : List Pr) {n : Nat} (hl : l.length = n) (hn : n ≤ 1000) (hr : Row w w.heap.size A (flat l)) (hq : Row w w.heap.size A' (flat l)) :
    Calls Tryd.prog 22 #[.slice A n c, .slice A' n c'] w fun e w' => e = .returned (.bool true) ∧ Below w.heap.size w w' := same4_yes A A' n c c' l hl hn w hr hq
end Go.Proofs.YtekggefokoaidaaDoor
