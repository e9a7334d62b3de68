/- The document's own answers of layer 3: which policies there are, and what comes of two values. -/
import Derived.Test.YtjnnfineebabaaaDoorL3Leaf
namespace Go.Proofs.YtjnnfineebabaaaDoor
open Go.RowKit Go.Proofs.Foldm

set_option maxHeartbeats 400000 in
theorem refMay_at (p : Nat) (h1 : 1 ≤ p) (h3 : p ≤ 3) (w : World) : Calls Tryd.prog 30 #[.int .u8 p] w fun e w' => e = .returned (.bool true) ∧ w = w' := by
  have : p = 1 ∨ p = 2 ∨ p = 3 := by omega
  rcases this with rfl | rfl | rfl
  all_goals
    go_enter Tryd.func30, Tryd.ntmps30
    go_wp2
    go_ret
    exact ⟨rfl, rfl⟩
set_option maxHeartbeats 400000 in
theorem refMay_none (p : Int) (h : ¬ (1 ≤ p ∧ p ≤ 3)) (w : World) : Calls Tryd.prog 30 #[.int .u8 p] w fun e w' => e = .returned (.bool false) ∧ w = w' := by
  have a1 : (p == 1) = false := by simp; omega
  have a2 : (p == 2) = false := by simp; omega
  have a3 : (p == 3) = false := by simp; omega
  clear h
  go_enter Tryd.func30, Tryd.ntmps30
  go_wp2
  go_ret
  exact ⟨rfl, rfl⟩
set_option maxHeartbeats 400000 in
theorem refCombine_any (p : Nat) (h1 : 1 ≤ p) (h3 : p ≤ 3) (a b : BitVec 64) (w : World) : Calls Tryd.prog 37 #[.int .u8 p, K a, K b] w fun e w' => e = .returned (K (cmb p a b)) ∧ w = w' := by
  have : p = 1 ∨ p = 2 ∨ p = 3 := by omega
  rcases this with rfl | rfl | rfl
  · go_enter Tryd.func37, Tryd.ntmps37
    go_wp2
    go_ret
    exact ⟨rfl, rfl⟩
  · go_enter Tryd.func37, Tryd.ntmps37
    go_wp2
    go_ret
    exact ⟨rfl, rfl⟩
  · go_enter Tryd.func37, Tryd.ntmps37
    go_wp2
    go_ret
    exact ⟨ret_int (i_add _ _), rfl⟩
theorem refCombine_is {p : Nat} (h1 : 1 ≤ p) (h3 : p ≤ 3) {a b t : BitVec 64} (h : cmb p a b = t) (w : World) : Calls Tryd.prog 37 #[.int .u8 p, K a, K b] w fun e w' => e = .returned (K t) ∧ w = w' := h ▸ refCombine_any p h1 h3 a b w
end Go.Proofs.YtjnnfineebabaaaDoor
