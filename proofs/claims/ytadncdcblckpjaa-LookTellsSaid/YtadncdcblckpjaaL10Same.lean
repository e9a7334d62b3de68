/- The document's own answers of layer 10: whether two rows of pairs, of keys, are the same, where they are. -/
import Derived.Test.YtadncdcblckpjaaL10Ok
import Derived.Test.YtadncdcblckpjaaGApp
import Derived.IntWalk
import Derived.Deep.QuietTactic
import Derived.BigQuiet
import Derived.Outline
namespace Go.Proofs.Ytadncdcblckpjaa
open Go.RowKit Go.Proofs.Rowm

set_option maxHeartbeats 1000000 in
theorem samePairs_yes (A A' : Option Addr) (n c c' : Nat) (l : List Pr) (hl : l.length = n) (hn : n ≤ 1000) (w : World) (hr : Row w w.heap.size A (flat l)) (hq : Row w w.heap.size A' (flat l)) :
    Calls Try.prog 12 #[.slice A n c, .slice A' n c'] w fun e w' => e = .returned (.bool true) ∧ Below w.heap.size w w' := by
  have hr' := Lib.hid hr
  have hq' := Lib.hid hq
  have hl' := Lib.hid hl
  clear hr hq hl
  go_enter Try.func12, Try.ntmps12
  go_wp2
  go_loopw [5] (fun i wr => ∃ k : Nat, k ≤ n ∧ i = .int .i64 k ∧ Below w.heap.size w wr) (fun i _ => n - (intOf i).toNat)
  case atStart => exact ⟨0, Nat.zero_le _, rfl, Below.refl _ _⟩
  case round =>
    obtain ⟨k, hk, rfl, hb⟩ := hrel
    have hb' := Lib.hid hb
    clear hb
    by_cases hlt : k < n
    · have hkl : k < l.length := by rw [hl'.out]; exact hlt
      obtain ⟨ad, rfl, hb2, g1, g2⟩ := pair_at (hr'.out.below hb'.out) k hkl
      obtain ⟨ad', rfl, hb3, g3, g4⟩ := pair_at (hq'.out.below hb'.out) k hkl
      go_wp2
      go_quiet (fail)
      go_wp2
      go_roundw
      case rel => exact ⟨k + 1, by omega, by go_num, below_drewN hb'.out _⟩
      case measure => simp [intOf]; omega
    · go_wp2
      go_ret
      exact ⟨rfl, hb'.out⟩
/-- a cell of a row of numbers -/
theorem key_at {w : World} {B : Nat} {A : Option Addr} {l : List (BitVec 64)} (h : Row w B A (l.map K)) (k : Nat) (hk : k < l.length) : ∃ ad, A = some ad ∧ ad.block < B ∧ w.cell? (ad.add k) = some (K l[k]) :=
  h k (K l[k]) (by rw [List.getElem?_map, List.getElem?_eq_getElem hk]; rfl)
set_option maxHeartbeats 1000000 in
theorem sameKeys_yes (A A' : Option Addr) (n c c' : Nat) (l : List (BitVec 64)) (hl : l.length = n) (hn : n ≤ 1000) (w : World) (hr : Row w w.heap.size A (l.map K)) (hq : Row w w.heap.size A' (l.map K)) :
    Calls Try.prog 18 #[.slice A n c, .slice A' n c'] w fun e w' => e = .returned (.bool true) ∧ Below w.heap.size w w' := by
  have hr' := Lib.hid hr
  have hq' := Lib.hid hq
  have hl' := Lib.hid hl
  clear hr hq hl
  go_enter Try.func18, Try.ntmps18
  go_wp2
  go_loopw [5] (fun i wr => ∃ k : Nat, k ≤ n ∧ i = .int .i64 k ∧ Below w.heap.size w wr) (fun i _ => n - (intOf i).toNat)
  case atStart => exact ⟨0, Nat.zero_le _, rfl, Below.refl _ _⟩
  case round =>
    obtain ⟨k, hk, rfl, hb⟩ := hrel
    have hb' := Lib.hid hb
    clear hb
    by_cases hlt : k < n
    · have hkl : k < l.length := by rw [hl'.out]; exact hlt
      obtain ⟨ad, rfl, hb2, g1⟩ := key_at (hr'.out.below hb'.out) k hkl
      obtain ⟨ad', rfl, hb3, g3⟩ := key_at (hq'.out.below hb'.out) k hkl
      go_wp2
      go_quiet (fail)
      go_wp2
      go_roundw
      case rel => exact ⟨k + 1, by omega, by go_num, below_drewN hb'.out _⟩
      case measure => simp [intOf]; omega
    · go_wp2
      go_ret
      exact ⟨rfl, hb'.out⟩
end Go.Proofs.Ytadncdcblckpjaa
