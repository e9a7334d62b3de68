/- The contract of Run of package fold. -/
import Derived.Test.YtbjfoopiicppeaaL3Leaf
import Derived.Test.YtbjfoopiicppeaaGCut
import Derived.Outline
namespace Go.Proofs.Ytbjfoopiicppeaa
open Go.RowKit Go.Proofs.Foldm

theorem add_zero (a : Addr) : a.add 0 = a := by simp [Addr.add]
theorem row_k {w : World} {B : Nat} {ad : Addr} {l : List (BitVec 64)} (h : Row w B (some ad) (l.map K)) (k : Nat) (hk : k < l.length) : w.cell? (ad.add k) = some (K l[k]) := (h.at_ (by simp [hk])).2
theorem size_i64 (W : World) : (sizeOf 2).run Try.prog W = .ok 1 W := by kernel_rfl

set_option maxHeartbeats 1000000 in
theorem run_at (p : Nat) (h1 : 1 ≤ p) (h3 : p ≤ 3) (A : Option Addr) (n c : Nat) (l : List (BitVec 64)) (hl : l.length = n) (h0 : 0 < n) (hn : n ≤ c) (hc : c ≤ maxLen) (w : World) (hr : Row w w.heap.size A (l.map K)) :
    Calls Try.prog 8 #[.int .u8 p, .slice A n c] w fun e w' => e = .returned (.tuple #[K (run p l), .int .i64 0]) ∧ Below w.heap.size w w' := by
  obtain ⟨f, hf, he, hC⟩ := pol_of p h1 h3
  obtain ⟨ad, rfl, hb⟩ := hr.head (by simp; omega)
  unfold maxLen at hc
  obtain ⟨A', hcut, hrow⟩ := cut_from (P := Try.prog) Try.underlying22 size_i64 (some ad) n c 1 1 rfl h0 hn
  have hn0 : ((n : Int) == 0) = false := by simp; omega
  have hr' := Lib.hid hr
  have hl' := Lib.hid hl
  have hrow' := Lib.hid hrow
  clear hr hl hrow
  go_enter Try.func8, Try.ntmps8
  go_wp2_with fail
  refine (polOf_at p h1 h3 f hf _).mono ?_
  rintro e w1 ⟨rfl, hb⟩
  have hb1 := Lib.hid hb
  clear hb
  have hb2 := Lib.hid (hb1.out.alloc hb1.out.size (.cells #[fnV f] 41))
  have hr2 := Lib.hid (hr'.out.below hb2.out)
  have g0 : (w1.alloc (.cells #[fnV f] 41)).cell? ad = some (K (l[0]'(by rw [hl'.out]; exact h0))) := by
    have := row_k hr2.out 0 (by rw [hl'.out]; exact h0)
    rw [add_zero] at this
    exact this
  go_wp2_with fail
  have hr3 := Lib.hid (hrow'.out _ _ _ hr2.out (by simp [hl'.out]))
  go_loop [8, 27] (fun t i => ∃ k : Nat, k ≤ n - 1 ∧ i = .int .i64 k ∧ t = K (run p (l.take (k + 1)))) (fun _ i => n - (intOf i).toNat)
  case atStart => exact ⟨0, Nat.zero_le _, rfl, by rw [run_one]⟩
  case round =>
    obtain ⟨k, hk, rfl, rfl⟩ := hrel
    by_cases hlt : k < n - 1
    · have hkl : k + 1 < l.length := by rw [hl'.out]; omega
      have ha := hr3.out
      have hx : ((l.map K).drop (1 * 1))[k]? = some (K l[k + 1]) := by simp [hkl]
      obtain ⟨ad', rfl, hb', g1⟩ := ha k _ hx
      have hs := run_take p l (k + 1) (by omega) hkl
      have hs' := Lib.hid hs
      clear hs ha hx g0
      go_wp2_with (refine (hC.out _ _ _).mono ?_; rintro e w2 ⟨rfl, rfl⟩)
      go_round
      case rel => exact ⟨k + 1, by omega, by go_num, by rw [hs'.out]⟩
      case measure => simp [intOf]; omega
    · go_wp2
      go_ret2
      have : k + 1 = n := by omega
      rw [this, List.take_of_length_le (by rw [hl'.out]; exact Nat.le_refl _)]
      exact ⟨rfl, hb2.out⟩

set_option maxHeartbeats 400000 in
theorem run_none (p : Int) (h : ¬ (1 ≤ p ∧ p ≤ 3)) (A : Option Addr) (n c : Nat) (w : World) :
    Calls Try.prog 8 #[.int .u8 p, .slice A n c] w fun e w' => e = .returned (.tuple #[.int .i64 0, .int .i64 2]) ∧ Below w.heap.size w w' := by
  have h' := Lib.hid h
  clear h
  go_enter Try.func8, Try.ntmps8
  go_wp2_with fail
  refine (polOf_none p h'.out _).mono ?_
  rintro e w1 ⟨rfl, hb⟩
  have hb1 := Lib.hid hb
  clear hb
  go_wp2
  go_ret2
  exact ⟨rfl, hb1.out.alloc hb1.out.size _⟩
set_option maxHeartbeats 400000 in
theorem run_empty (p : Nat) (h1 : 1 ≤ p) (h3 : p ≤ 3) (A : Option Addr) (c : Nat) (w : World) :
    Calls Try.prog 8 #[.int .u8 p, .slice A 0 c] w fun e w' => e = .returned (.tuple #[.int .i64 0, .int .i64 3]) ∧ Below w.heap.size w w' := by
  obtain ⟨f, hf, _, _⟩ := pol_of p h1 h3
  go_enter Try.func8, Try.ntmps8
  go_wp2_with fail
  refine (polOf_at p h1 h3 f hf _).mono ?_
  rintro e w1 ⟨rfl, hb⟩
  have hb1 := Lib.hid hb
  clear hb
  go_wp2
  go_ret2
  exact ⟨rfl, hb1.out.alloc hb1.out.size _⟩
end Go.Proofs.Ytbjfoopiicppeaa
