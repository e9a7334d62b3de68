/- What the rows of layer 11 share: the listed variables (tables, two errors), a start that meets them. -/
import Derived.Test.YtlhnjgmjkoafpaaDoorJL
import Derived.Test.YtlhnjgmjkoafpaaDoorJB
import Derived.Test.YtlhnjgmjkoafpaaDoorJR
import Derived.Test.YtlhnjgmjkoafpaaDoorGOpen
import Derived.Test.YtlhnjgmjkoafpaaDoorGBeads
import Derived.Test.YtlhnjgmjkoafpaaDoorChecked
import Derived.ProofKit
import Derived.LaidMore
import Derived.Stop.LaidErr
import Derived.Lib.LaidTab
import Derived.Lay
/- Layer 11: what the program's own package shape answers. -/
namespace Go.Proofs.YtlhnjgmjkoafpaaDoor
open Go.RowKit Go.Proofs.Treem

theorem shape_says : ShapeSays NdS Txt where
  list := fun w t p h h5 => (list_any w t p h h5).mono fun _ _ h => h
  same := fun w t u p q b hb ht hu h5 h6 => same_any w t u p q b hb ht hu h5 h6
  line := fun w t p hT hP h5 => (line_any w t p hT hP h5).mono fun _ _ h => h
  make := fun w A n c l o hl _ ho => make_any w A n c l o hl ho
  read := fun w s hT hs h5 => read_any text_says w s hT hs h5
end Go.Proofs.YtlhnjgmjkoafpaaDoor
namespace Go.Proofs.YtlhnjgmjkoafpaaDoor
open Go.RowKit Go.Proofs.Treem
set_option maxRecDepth 100000
theorem own : ownKnob Tryd.prog.godebug = none := by kernel_rfl
theorem laidOut : laidOutB Tryd.prog = true := by kernel_rfl
/-- the list of the rows: three tables of the library, two errors -/
abbrev laid11 : List (String × DataW Unit) := Rows.shapeListsRow.laid
theorem door_met (os : Os) (args : Array Value) : laidMetH Tryd.prog laid11 ((World.laidAll Tryd.prog os laid11).forCall (fun _ _ => 0) ⟨#[], args, []⟩).memory := by
  rw [MakeChecks.laidMetH_plain _ _ _ (by kernel_rfl)]
  exact laidMet_laidAll _ (by kernel_rfl) (by kernel_rfl)
theorem star11 : "*" ++ "errors.errorString" = "*errors.errorString" := by decide
theorem err_row (u : TypeId) (h : Tryd.prog.typeName? 3 u = some "*errors.errorString") : u = 129 :=
  typeName_ptr_named (nm := "errors.errorString") (by rw [star11]; kernel_rfl) (by kernel_rfl) (by decide) u (by rw [star11]; exact h)
theorem cells_err : Tryd.prog.cellsOf 131 = 1 := by kernel_rfl
theorem cells_str : Tryd.prog.cellsOf 9 = 1 := by kernel_rfl
theorem txt_of {W : World} (h : laidMetH Tryd.prog laid11 W) : Txt W := by
  rw [MakeChecks.laidMetH_plain _ _ _ (by kernel_rfl)] at h
  have h1 : laidMet Tryd.prog (laid11.drop 1) W := h.tail
  have h2 : laidMet Tryd.prog (laid11.drop 2) W := h1.tail
  have h3 : laidMet Tryd.prog (laid11.drop 3) W := h2.tail
  have h4 : laidMet Tryd.prog (laid11.drop 4) W := h3.tail
  have e2 : laid11.drop 2 = (tens, Lib.tabData .u64 Lib.pow10Tab) :: laid11.drop 3 := by kernel_rfl
  have e3 : laid11.drop 3 = (rang, .iface "*errors.errorString" (.ptr (.agg [.lit (.string [118, 97, 108, 117, 101, 32, 111, 117, 116, 32, 111, 102, 32, 114, 97, 110, 103, 101])]))) :: laid11.drop 4 := by kernel_rfl
  have e4 : laid11.drop 4 = (synt, .iface "*errors.errorString" (.ptr (.agg [.lit (.string [105, 110, 118, 97, 108, 105, 100, 32, 115, 121, 110, 116, 97, 120])]))) :: laid11.drop 5 := by kernel_rfl
  rw [e2] at h2
  rw [e3] at h3
  rw [e4] at h4
  obtain ⟨a3, _, v3, _⟩ := laid_sentinel h3 (g := 2) (ti := 93) (by kernel_rfl) (by kernel_rfl) Tryd.underlying93 err_row Tryd.underlying129 Tryd.underlying131 rfl rfl Tryd.underlying9 cells_err cells_str
  obtain ⟨a4, _, v4, _⟩ := laid_sentinel h4 (g := 1) (ti := 93) (by kernel_rfl) (by kernel_rfl) Tryd.underlying93 err_row Tryd.underlying129 Tryd.underlying131 rfl rfl Tryd.underlying9 cells_err cells_str
  exact ⟨Lib.tabIs_of_head (g := 0) (t := 111) (e := 42) (n := 20) (by kernel_rfl) (by kernel_rfl) Tryd.underlying111 Tryd.underlying42 (by kernel_rfl) (by kernel_rfl) h2, ⟨_, _, v4⟩, ⟨_, _, v3⟩⟩
end Go.Proofs.YtlhnjgmjkoafpaaDoor
