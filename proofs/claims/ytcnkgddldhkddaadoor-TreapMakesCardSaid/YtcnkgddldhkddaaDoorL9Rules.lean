/- Layer 9: the chapter's examples (alive), and of which beads a tree is made (Long). -/
import Derived.Test.YtcnkgddldhkddaaDoorL9See
import Derived.LaidEqlPtr
namespace Go.Proofs.YtcnkgddldhkddaaDoor
open Go.RowKit Go.Proofs.Treem
set_option maxRecDepth 100000
variable {Nd : NdP}

set_option maxHeartbeats 2000000 in
theorem long9_many (A : Option Addr) (n c : Nat) (h : 400 < n) (hn : n ≤ maxLen) (w : World) : Calls Tryd.prog 7 #[.slice A n c] w fun e w' => e = .returned (.bool true) ∧ w = w' := by
  unfold maxLen at hn
  have d1 : decide ((400 : Int) < (n : Int)) = true := decide_eq_true (by omega)
  go_enter Tryd.func7, Tryd.ntmps7
  go_wp2
  go_ret
  exact ⟨rfl, rfl⟩
set_option maxHeartbeats 2000000 in
theorem long9_few (A : Option Addr) (n c B : Nat) (l : List Bd) (t : Bool) (h : n ≤ 400) (w : World) (hl : LieB w B A n c l) (ht : mayB (l.map strip) = t) : Calls Tryd.prog 7 #[.slice A n c] w fun e w' => e = .returned (.bool (!t)) ∧ w = w' := by
  have d1 : decide ((400 : Int) < (n : Int)) = false := decide_eq_false (by omega)
  have c0 := Lib.hid (refMay9_any A n c B l w hl (by omega))
  rw [ht] at c0
  clear hl ht
  go_enter Tryd.func7, Tryd.ntmps7
  go_wp2_with (go_at_call 27; (with_reducible refine c0.out.mono ?_); rintro e w' ⟨rfl, rfl⟩)
  go_ret
  exact ⟨rfl, rfl⟩

theorem node_info : ∃ j, Tryd.prog.info? 68 = some j ∧ j.size ≠ 0 := by
  have h : (Tryd.prog.info? 68).map (fun j => j.size != 0) = some true := by kernel_rfl
  obtain ⟨j, hj, hs⟩ := Option.map_eq_some_iff.1 h
  exact ⟨j, hj, by simpa using hs⟩
theorem ptr_eql (W : World) (p : Option Addr) : (binOp .eql 25 (.pointer p) (.pointer p)).run Tryd.prog W = .ok (.bool true) W := by
  cases p with
  | none => exact run_eql_pointer_nil W _ none Tryd.underlying25
  | some a =>
    obtain ⟨j, hj, _⟩ := node_info
    exact run_eql_ptr_same W a Tryd.underlying25 hj
theorem neq_of_eql {P : Program} {W W' : World} {t : TypeId} {a b : Option Addr} {r : Bool} (h : (binOp .eql t (.pointer a) (.pointer b)).run P W = .ok (.bool r) W') : (binOp .neq t (.pointer a) (.pointer b)).run P W = .ok (.bool (!r)) W' := by
  simp only [binOp] at h ⊢
  simp at h ⊢
  cases hh : (Op.equal t (.pointer a) (.pointer b)).run P W with
  | ok v w1 => rw [hh] at h; simp at h ⊢; obtain ⟨h1, h2⟩ := h; exact ⟨by rw [h1], h2⟩
  | _ => rw [hh] at h; simp at h
theorem ptr_neq (W : World) (p : Option Addr) : (binOp .neq 25 (.pointer p) (.pointer p)).run Tryd.prog W = .ok (.bool false) W := neq_of_eql (ptr_eql W p)
theorem k5 : K 5#64 = .int .i64 5 := rfl
theorem k6 : K 6#64 = .int .i64 6 := rfl
theorem k7 : K 7#64 = .int .i64 7 := rfl
theorem k9 : K (18446744073709551607#64) = .int .i64 (-9) := by show Value.int .i64 (BitVec.toInt 18446744073709551607#64) = _; rw [show (BitVec.toInt 18446744073709551607#64) = -9 by decide]
theorem g1 : G64 1#64 = .int .u64 1 := rfl
theorem g2 : G64 2#64 = .int .u64 2 := rfl
end Go.Proofs.YtcnkgddldhkddaaDoor
