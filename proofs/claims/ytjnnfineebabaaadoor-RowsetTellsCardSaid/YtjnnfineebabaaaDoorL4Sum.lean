/- The contract of the iterator values and of Sum of package row. -/
import Derived.Test.YtjnnfineebabaaaDoorL4It
import Derived.Test.YtjnnfineebabaaaDoorL3Add
namespace Go.Proofs.YtjnnfineebabaaaDoor
open Go.RowKit Go.Shelf Go.Proofs.Rowm
attribute [local go_sem] Oper.semAt_some

theorem keeps_below {W W' : World} (h : Below W.heap.size W W') : KeepsOthers W W' := ⟨h.size, fun k _ hk _ => (h.block k (Array.getElem?_eq_some_iff.1 hk).1).trans hk⟩
theorem boxed_below {W W' : World} {B n : Nat} {t : TypeId} {v : Value} (h : Boxed W B t v) (hb : Below n W W') (hn : B < n) : Boxed W' B t v := (hb.block B hn).trans h
theorem sum_two (s v : BitVec 64) : Foldm.sum [s, v] = s + v := by simp [Foldm.sum]

end Go.Proofs.YtjnnfineebabaaaDoor
