/- The document's own answers of layer 3 (package joineryref03): each returns what the plain mathematics says. -/
import Derived.Test.YtbjfoopiicppeaaL3Sum
import Derived.Deep.QuietTactic
import Derived.BigQuiet
namespace Go.Proofs.Ytbjfoopiicppeaa
open Go.RowKit Go.Proofs.Foldm

set_option maxHeartbeats 400000 in
theorem refMay_at (p : Nat) (h1 : 1 ≤ p) (h3 : p ≤ 3) (w : World) : Calls Try.prog 12 #[.int .u8 p] w fun e w' => e = .returned (.bool true) ∧ w = w' := by
  have : p = 1 ∨ p = 2 ∨ p = 3 := by omega
  rcases this with rfl | rfl | rfl
  all_goals
    go_enter Try.func12, Try.ntmps12
    go_wp2
    go_ret
    exact ⟨rfl, rfl⟩
set_option maxHeartbeats 400000 in
theorem refMay_none (p : Int) (h : ¬ (1 ≤ p ∧ p ≤ 3)) (w : World) : Calls Try.prog 12 #[.int .u8 p] w fun e w' => e = .returned (.bool false) ∧ w = w' := by
  have a1 : (p == 1) = false := by simp; omega
  have a2 : (p == 2) = false := by simp; omega
  have a3 : (p == 3) = false := by simp; omega
  clear h
  go_enter Try.func12, Try.ntmps12
  go_wp2
  go_ret
  exact ⟨rfl, rfl⟩
set_option maxHeartbeats 400000 in
theorem refCombine_any (p : Nat) (h1 : 1 ≤ p) (h3 : p ≤ 3) (a b : BitVec 64) (w : World) : Calls Try.prog 18 #[.int .u8 p, K a, K b] w fun e w' => e = .returned (K (cmb p a b)) ∧ w = w' := by
  have : p = 1 ∨ p = 2 ∨ p = 3 := by omega
  rcases this with rfl | rfl | rfl
  · go_enter Try.func18, Try.ntmps18
    go_wp2
    go_ret
    exact ⟨rfl, rfl⟩
  · go_enter Try.func18, Try.ntmps18
    go_wp2
    go_ret
    exact ⟨rfl, rfl⟩
  · go_enter Try.func18, Try.ntmps18
    go_wp2
    go_ret
    exact ⟨ret_int (i_add _ _), rfl⟩
theorem refCombine_is {p : Nat} (h1 : 1 ≤ p) (h3 : p ≤ 3) {a b t : BitVec 64} (h : cmb p a b = t) (w : World) : Calls Try.prog 18 #[.int .u8 p, K a, K b] w fun e w' => e = .returned (K t) ∧ w = w' := h ▸ refCombine_any p h1 h3 a b w

set_option maxHeartbeats 1000000 in
theorem refRun_at (p : Nat) (h1 : 1 ≤ p) (h3 : p ≤ 3) (A : Option Addr) (n c : Nat) (l : List (BitVec 64)) (hl : l.length = n) (h0 : 0 < n) (hn : n ≤ c) (hc : c ≤ maxLen) (w : World) (hr : Row w w.heap.size A (l.map K)) :
    Calls Try.prog 10 #[.int .u8 p, .slice A n c] w fun e w' => e = .returned (.tuple #[K (run p l), .int .i64 0]) ∧ w = w' := by
  obtain ⟨ad, rfl, hb⟩ := hr.head (by simp; omega)
  unfold maxLen at hc
  have hn0 : ((n : Int) == 0) = false := by simp; omega
  have hr' := Lib.hid hr
  have hl' := Lib.hid hl
  clear hr hl
  have g0 : w.cell? ad = some (K (l[0]'(by rw [hl'.out]; exact h0))) := by
    have := row_k hr'.out 0 (by rw [hl'.out]; exact h0)
    rw [add_zero] at this
    exact this
  go_enter Try.func10, Try.ntmps10
  go_wp2_with (go_at_call 12; refine (refMay_at p h1 h3 _).mono ?_; rintro e w1 ⟨rfl, rfl⟩)
  go_loop [6, 7] (fun t i => ∃ k : Nat, 1 ≤ k ∧ k ≤ n ∧ i = .int .i64 k ∧ t = K (run p (l.take k))) (fun _ i => n - (intOf i).toNat)
  case atStart => exact ⟨1, Nat.le_refl _, h0, rfl, by rw [run_one]⟩
  case round =>
    obtain ⟨k, hk1, hk, rfl, rfl⟩ := hrel
    by_cases hlt : k < n
    · have hkl : k < l.length := by rw [hl'.out]; exact hlt
      have g1 := row_k hr'.out k hkl
      have hs := Lib.hid (run_take p l k (by omega) hkl)
      clear g0
      go_wp2_with (go_at_call 18; refine (refCombine_is h1 h3 hs.out.symm _).mono ?_; rintro e w1 ⟨rfl, rfl⟩)
      go_round
      case rel => exact ⟨k + 1, by omega, by omega, by go_num, rfl⟩
      case measure => simp [intOf]; omega
    · go_wp2
      go_ret2
      have : k = n := by omega
      rw [this, List.take_of_length_le (by rw [hl'.out]; exact Nat.le_refl _)]
      exact ⟨rfl, rfl⟩
set_option maxHeartbeats 400000 in
theorem refRun_none (p : Int) (h : ¬ (1 ≤ p ∧ p ≤ 3)) (A : Option Addr) (n c : Nat) (w : World) :
    Calls Try.prog 10 #[.int .u8 p, .slice A n c] w fun e w' => e = .returned (.tuple #[.int .i64 0, .int .i64 2]) ∧ w = w' := by
  have h' := Lib.hid h
  clear h
  go_enter Try.func10, Try.ntmps10
  go_wp2_with (go_at_call 12; refine (refMay_none p h'.out _).mono ?_; rintro e w1 ⟨rfl, rfl⟩)
  go_ret2
  exact ⟨rfl, rfl⟩
set_option maxHeartbeats 400000 in
theorem refRun_empty (p : Nat) (h1 : 1 ≤ p) (h3 : p ≤ 3) (A : Option Addr) (c : Nat) (w : World) :
    Calls Try.prog 10 #[.int .u8 p, .slice A 0 c] w fun e w' => e = .returned (.tuple #[.int .i64 0, .int .i64 3]) ∧ w = w' := by
  go_enter Try.func10, Try.ntmps10
  go_wp2_with (go_at_call 12; refine (refMay_at p h1 h3 _).mono ?_; rintro e w1 ⟨rfl, rfl⟩)
  go_ret2
  exact ⟨rfl, rfl⟩

set_option maxHeartbeats 1000000 in
theorem refSum_at (A : Option Addr) (n c : Nat) (l : List (BitVec 64)) (hl : l.length = n) (hn : n ≤ c) (hc : c ≤ maxLen) (w : World) (hr : Row w w.heap.size A (l.map K)) :
    Calls Try.prog 14 #[.slice A n c] w fun e w' => e = .returned (K (sum l)) ∧ w = w' := by
  unfold maxLen at hc
  have hr' := Lib.hid hr
  have hl' := Lib.hid hl
  clear hr hl
  go_enter Try.func14, Try.ntmps14
  go_wp2
  go_loop [3, 4] (fun t i => ∃ k : Nat, k ≤ n ∧ i = .int .i64 k ∧ t = K (sum (l.take k))) (fun _ i => n - (intOf i).toNat)
  case atStart => exact ⟨0, Nat.zero_le _, rfl, rfl⟩
  case round =>
    obtain ⟨k, hk, rfl, rfl⟩ := hrel
    by_cases hlt : k < n
    · have hkl : k < l.length := by rw [hl'.out]; exact hlt
      obtain ⟨ad, rfl, hb2, g1⟩ := hr'.out k (K l[k]) (by simp [hkl])
      have hs := Lib.hid (sum_take l k hkl)
      go_wp2
      go_round
      case rel => exact ⟨k + 1, by omega, by go_num, by rw [hs.out, K, ← i_add]⟩
      case measure => simp [intOf]; omega
    · go_wp2
      go_ret
      have : k = n := by omega
      rw [this, List.take_of_length_le (by rw [hl'.out]; exact Nat.le_refl _)]
      exact ⟨rfl, rfl⟩
end Go.Proofs.Ytbjfoopiicppeaa
