/- The library's table of the powers of ten, as a row lists it. -/
import Derived.Test.YtmndfncogkjjpaaDoorGRow
import Derived.Test.YtmndfncogkjjpaaDoorRows
import Derived.Lib.LaidTab
import Derived.Lib.ItoaNum
namespace Go.Proofs.YtmndfncogkjjpaaDoor
open Go.RowKit
set_option maxRecDepth 100000

/-- the table of the powers of ten -/
abbrev tens : String := (Rows.natTellsRow.laid.getD 2 ("", .agg [])).1
/-- it lies as its initialiser lays it -/
def Tens (W : World) : Prop := Lib.TabIs Tryd.prog W tens .u64 Lib.pow10Tab
theorem Tens.next {W W' : World} (h : Tens W) (hb : Below W.heap.size W W') : Tens W' := by
  unfold Tens Lib.TabIs World.var? at *
  cases hg : Tryd.prog.globalNamed tens with
  | none => simp [hg] at h
  | some g =>
    simp only [hg, Option.bind_some] at h ⊢
    have hlt : g < W.heap.size := by
      rcases Nat.lt_or_ge g W.heap.size with h' | h'
      · exact h'
      · rw [Array.getElem?_eq_none h'] at h; simp at h
    rw [hb.block g hlt]
    exact h
end Go.Proofs.YtmndfncogkjjpaaDoor
