/- The contract of Sum of package fold. -/
import Derived.Test.YtekggefokoaidaaDoorL3Leaf
import Derived.Test.YtekggefokoaidaaDoorGCut
import Derived.Outline
namespace Go.Proofs.YtekggefokoaidaaDoor
open Go.RowKit Go.Proofs.Foldm

/-- both, the sum under a name -/
theorem both_is {a b t : BitVec 64} (h : a + b = t) (w : World) : Calls Tryd.prog 55 #[K a, K b] w fun e w' => e = .returned (K t) ∧ w = w' := h ▸ both_any a b w

set_option maxHeartbeats 400000 in
/-- the closure that adds: the sum that it has captured, and the value -/
theorem add1_any {x s t : BitVec 64} (h : s + x = t) (g : Nat) (w : World) (hc : w.cell? ⟨g, 0, none⟩ = some (K s)) (hf : w.frozen? ⟨g, 0, none⟩ = false) :
    Calls Tryd.prog 71 #[K x, .pointer (some ⟨g, 0, none⟩)] w fun e w' => e = .returned (K t) ∧ w.setCell ⟨g, 0, none⟩ (K t) = w' := by
  have h' := Lib.hid h
  clear h
  go_enter Tryd.func71, Tryd.ntmps71
  go_wp2_with (go_at_call 55; refine (both_is h'.out _).mono ?_; rintro e w' ⟨rfl, rfl⟩)
  go_ret
  exact ⟨rfl, rfl⟩

/-- the closure that adds, as a value: the block of the sum -/
abbrev addV (g : Nat) : Value := .func (.func 71) #[] #[.pointer (some ⟨g, 0, none⟩)]
set_option maxHeartbeats 400000 in
theorem adder_any (w : World) : Calls Tryd.prog 48 #[] w fun e w' => e = .returned (addV w.heap.size) ∧ w.alloc (.cells #[.int .i64 0] 2) = w' := by
  go_enter Tryd.func48, Tryd.ntmps48
  go_wp2
  go_ret
  exact ⟨rfl, rfl⟩

set_option maxHeartbeats 1000000 in
theorem sum_at (A : Option Addr) (n c : Nat) (l : List (BitVec 64)) (hl : l.length = n) (hn : n ≤ c) (hc : c ≤ maxLen) (w : World) (hr : Row w w.heap.size A (l.map K)) :
    Calls Tryd.prog 38 #[.slice A n c] w fun e w' => e = .returned (K (sum l)) ∧ Below w.heap.size w w' := by
  unfold maxLen at hc
  have hr' := Lib.hid hr
  have hl' := Lib.hid hl
  clear hr hl
  go_enter Tryd.func38, Tryd.ntmps38
  go_wp2_with (go_at_call 48; refine (adder_any _).mono ?_; rintro e w1 ⟨rfl, rfl⟩)
  go_loopw [3, 10] (fun t i wr => ∃ k : Nat, k ≤ n ∧ i = .int .i64 k ∧ t = K (sum (l.take k)) ∧ Has wr w.heap.size 2 #[K (sum (l.take k))] ∧ Below w.heap.size w wr) (fun _ i _ => n - (intOf i).toNat)
  case atStart => exact ⟨0, Nat.zero_le _, rfl, rfl, Has.new w _ _, (Below.refl _ _).alloc (Nat.le_refl _) _⟩
  case round =>
    obtain ⟨k, hk, rfl, rfl, hh, hb⟩ := hrel
    have hb' := Lib.hid hb
    have hh' := Lib.hid hh
    clear hb hh
    by_cases hlt : k < n
    · have hkl : k < l.length := by rw [hl'.out]; exact hlt
      obtain ⟨ad, rfl, hb2, g1⟩ := (hr'.out.below hb'.out) k (K l[k]) (by simp [hkl])
      have hs := Lib.hid (sum_take l k hkl)
      have c1 := hh'.out.cell 0
      have f1 := hh'.out.free 0
      simp only [List.getElem?_toArray, List.getElem?_cons_zero] at c1
      go_wp2_with (go_at_call 71; refine (add1_any hs.out.symm _ _ c1 f1).mono ?_; rintro e w2 ⟨rfl, rfl⟩)
      go_roundw
      case rel => exact ⟨k + 1, by omega, by go_num, rfl, hh'.out.set 0 _, hb'.out.setCell (Nat.le_refl _) _⟩
      case measure => simp [intOf]; omega
    · go_wp2
      go_ret
      have : k = n := by omega
      rw [this, List.take_of_length_le (by rw [hl'.out]; exact Nat.le_refl _)]
      exact ⟨rfl, hb'.out⟩

end Go.Proofs.YtekggefokoaidaaDoor
