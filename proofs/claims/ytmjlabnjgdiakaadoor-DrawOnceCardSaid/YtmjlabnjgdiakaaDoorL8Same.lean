/- Layer 8: the reference's Same of two rows of numbers that are the same. -/
import Derived.Test.YtmjlabnjgdiakaaDoorL8Ref
import Derived.Deep.QuietTactic
import Derived.BigQuiet
namespace Go.Proofs.YtmjlabnjgdiakaaDoor
open Go.RowKit Go.Proofs.Mixm

theorem num_at {w : World} {B : Nat} {A : Option Addr} {n c : Nat} {l : List (BitVec 64)} (h : LieU w B A n c (l.map V)) (k : Nat) (hk : k < l.length) : ∃ ad, A = some ad ∧ ad.block < B ∧ w.cell? (ad.add k) = some (V l[k]) := h.row k _ (by rw [List.getElem?_map, List.getElem?_eq_getElem hk]; rfl)

set_option maxHeartbeats 2000000 in
theorem same8_yes (A A' : Option Addr) (n c c' : Nat) (l : List (BitVec 64)) (w : World) (h : LieU w w.heap.size A n c (l.map V)) (q : LieU w w.heap.size A' n c' (l.map V)) : Calls Tryd.prog 14 #[.slice A n c, .slice A' n c'] w fun e w' => e = .returned (.bool true) ∧ Below w.heap.size w w' := by
  have h' := Lib.hid h
  have q' := Lib.hid q
  have hl' : Hid (l.length = n) := by have := h.len; rwa [List.length_map] at this
  have hf := h.few
  clear h q
  go_enter Tryd.func14, Tryd.ntmps14
  go_wp2
  go_loopw [5] (fun i wr => ∃ k : Nat, k ≤ n ∧ i = .int .i64 k ∧ Below w.heap.size w wr) (fun i _ => n - (intOf i).toNat)
  case atStart => exact ⟨0, Nat.zero_le _, rfl, Below.refl _ _⟩
  case round =>
    obtain ⟨k, hk, rfl, hb⟩ := hrel
    have hb' := Lib.hid hb
    clear hb
    by_cases hlt : k < n
    · have hkl : k < l.length := by rw [hl'.out]; exact hlt
      obtain ⟨ad, rfl, hb2, g0⟩ := num_at (h'.out.next hb'.out) k hkl
      obtain ⟨ad', rfl, hb3, f0⟩ := num_at (q'.out.next hb'.out) k hkl
      go_wp2
      go_quiet (fail)
      go_wp2
      go_roundw
      case rel => exact ⟨k + 1, by omega, by go_num, below_drewN hb'.out _⟩
      case measure => simp [intOf]; omega
    · go_wp2
      go_ret
      exact ⟨rfl, hb'.out⟩
end Go.Proofs.YtmjlabnjgdiakaaDoor
