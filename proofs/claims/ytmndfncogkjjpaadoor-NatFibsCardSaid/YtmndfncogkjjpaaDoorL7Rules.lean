/- Numbers as the statements of layer 7 use them: what their sums, products and powers are; no walk in it. -/
import Derived.Test.YtmndfncogkjjpaaDoorL7Alive
namespace Go.Proofs.YtmndfncogkjjpaaDoor
open Go.RowKit Go.Proofs.Natm
set_option maxRecDepth 100000

/-- the words of a number -/
abbrev D (v : Nat) : List Nat := dig Wd v
theorem num_d (v : Nat) : num (D v) = v := val_dig (by decide) v
theorem fit_d {v : Nat} (h : v < Top) : fitL v = D v ∧ fitE v = 0 := fit_is h rfl
theorem add_d {u v : Nat} (hu : u < Top) (hv : v < Top) (h : u + v < Top) : addL (D u) (D v) = D (u + v) ∧ addE (D u) (D v) = 0 := by
  unfold addL addE
  rw [dig_may hu, dig_may hv, num_d, num_d]
  exact fit_d h
theorem mul_d {u v : Nat} (hu : u < Top) (hv : v < Top) (h : u * v < Top) : mulL (D u) (D v) = D (u * v) ∧ mulE (D u) (D v) = 0 := by
  unfold mulL mulE
  rw [dig_may hu, dig_may hv, num_d, num_d]
  exact fit_d h
theorem pow_d {u e : Nat} (hu : u < Top) (he : e ≤ 200) (h : u ^ e < Top) : powL (D u) e = D (u ^ e) ∧ powE (D u) e = 0 := by
  have h1 : (mayL (D u) && decide (0 ≤ (e : Int)) && decide ((e : Int) ≤ 200)) = true := by
    rw [dig_may hu, Bool.true_and, Bool.and_eq_true]
    exact ⟨decide_eq_true (by omega), decide_eq_true (by omega)⟩
  unfold powL powE
  rw [if_pos h1, if_pos h1, num_d, Int.toNat_natCast]
  exact fit_d h
theorem cmp_d {u v : Nat} (hu : u < Top) (hv : v < Top) : cmpL (D u) (D v) = cmpN u v := by
  unfold cmpL
  rw [dig_may hu, dig_may hv, num_d, num_d]
  rfl
theorem two_lt {k j : Nat} (h : k < 32 * j) : (2 : Nat) ^ k < Wd ^ j := by
  have e : (2 : Nat) ^ (32 * j) = Wd ^ j := by rw [Nat.pow_mul]
  rw [← e]
  exact Nat.pow_lt_pow_right (by decide) h
theorem top_of {v k : Nat} (h : v < Wd ^ k) (hk : k ≤ 128) : v < Top := Nat.lt_of_lt_of_le h (Nat.pow_le_pow_right (by decide) hk)
theorem top_small {v : Nat} (h : v < 18446744073709551616) : v < Top := top_of (k := 2) (by unfold Wd; omega) (by omega)
theorem fib_top {k : Nat} (h : k ≤ 200) : fib k < Top := by
  exact top_of (k := 7) (Nat.lt_of_le_of_lt (fib_le k).1 (two_lt (by omega))) (by omega)
theorem fib_d {k : Nat} (h : k ≤ 200) : fibL k = D (fib k) ∧ fibE k = 0 := by
  have h1 : (decide (0 ≤ (k : Int)) && decide ((k : Int) ≤ 200)) = true := by
    rw [Bool.and_eq_true]; exact ⟨decide_eq_true (by omega), decide_eq_true (by omega)⟩
  unfold fibL fibE
  rw [if_pos h1, if_pos h1, Int.toNat_natCast]
  exact fit_d (fib_top h)
theorem own_w {A : Option Addr} {n c : Nat} {l : List Nat} {w : World} (h : LieW w A n c l) : Calls Tryd.prog 8 #[.slice A n c] w (MadeW w n l) :=
  (own7_any A n c l w h).mono fun e w' hh => by obtain ⟨A', c', he, hL, _, hb⟩ := hh; exact ⟨A', c', he, ⟨hL, h.words⟩, hb⟩
end Go.Proofs.YtmndfncogkjjpaaDoor
