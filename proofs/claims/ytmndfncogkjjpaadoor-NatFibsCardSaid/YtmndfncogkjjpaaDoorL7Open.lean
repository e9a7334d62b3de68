/- What the rows of layer 7 share: the listed tables, a start that meets them. -/
import Derived.Test.YtmndfncogkjjpaaDoorGOpen
import Derived.Test.YtmndfncogkjjpaaDoorGWords
import Derived.Test.YtmndfncogkjjpaaDoorL7Ref
import Derived.Test.YtmndfncogkjjpaaDoorN7Tens
import Derived.Test.YtmndfncogkjjpaaDoorRows
import Derived.Test.YtmndfncogkjjpaaDoorChecked
import Derived.ProofKit
import Derived.LaidMore
import Derived.Stop.LaidErr
import Derived.Lay
namespace Go.Proofs.YtmndfncogkjjpaaDoor
open Go.RowKit Go.Proofs.Natm
set_option maxRecDepth 100000
theorem own : ownKnob Tryd.prog.godebug = none := by kernel_rfl
theorem laidOut : laidOutB Tryd.prog = true := by kernel_rfl
theorem liew_of {w : World} {A : Option Addr} {n c : Nat} {l : List Nat} (hl : l.length = n) (h3 : n ≤ 3000) (hn : n ≤ c) (hc : c ≤ maxLen) (hz : A = none → c = 0) (hr : Row w w.heap.size A (l.map U)) (hw : ∀ x ∈ l, x < 4294967296) : LieW w A n c l :=
  ⟨⟨by rw [List.length_map]; exact hl, h3, hn, hc, hz, hr⟩, hw⟩
/-- the list of the rows: five tables of the library -/
abbrev laid7 : List (String × DataW Unit) := Rows.natTellsRow.laid
theorem door_met (os : Os) (args : Array Value) : laidMetH Tryd.prog laid7 ((World.laidAll Tryd.prog os laid7).forCall (fun _ _ => 0) ⟨#[], args, []⟩).memory := by
  rw [MakeChecks.laidMetH_plain _ _ _ (by kernel_rfl)]
  exact laidMet_laidAll _ (by kernel_rfl) (by kernel_rfl)
theorem tens_of {W : World} (h : laidMetH Tryd.prog laid7 W) : Tens W := by
  rw [MakeChecks.laidMetH_plain _ _ _ (by kernel_rfl)] at h
  have h1 : laidMet Tryd.prog (laid7.drop 1) W := h.tail
  have h2 : laidMet Tryd.prog (laid7.drop 2) W := h1.tail
  have e : laid7.drop 2 = (tens, Lib.tabData .u64 Lib.pow10Tab) :: laid7.drop 3 := by kernel_rfl
  rw [e] at h2
  exact Lib.tabIs_of_head (g := 1) (t := 91) (e := 24) (n := 20) (by kernel_rfl) (by kernel_rfl) Tryd.underlying91 Tryd.underlying24 (by kernel_rfl) (by kernel_rfl) h2
end Go.Proofs.YtmndfncogkjjpaaDoor
