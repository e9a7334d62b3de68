/- What the rows of layer 6 share: an argument that is a predicate, opened. -/
import Derived.Test.YtjjhmenkgcldeaaGPairs
import Derived.Test.YtjjhmenkgcldeaaL6Leaf
import Derived.Test.YtjjhmenkgcldeaaChecked
namespace Go.Proofs.Ytjjhmenkgcldeaa
open Go.ChangeShapes Go.WideShapes Go.ChangeAt Go.RowKit Go.Deep Go.Joins Go.Proofs.Rowm Go.Proofs.Siftm
set_option maxRecDepth 100000
theorem own : ownKnob Try.prog.godebug = none := by kernel_rfl
theorem laidOut : laidOutB Try.prog = true := by kernel_rfl
theorem cellsPd : Try.prog.cellsOf 23 = 4 := by kernel_rfl
section
variable {H : Type} {enc : TypeId × Value → H} {W : World} {b0 : Nat} {spare : Nat → Bool} {held : Bool}
/-- a predicate that came in, by value -/
theorem open_pred {base : Nat} {v : Value} {d : DataW H} {p : List MemPlace} (hv : Value.okWide Try.prog W .any base 23 v) (h : DataW.Trod enc Try.prog W b0 spare held 23 v d p) : ∃ x : Pd, v = pdV x := by
  obtain ⟨v0, v1, v2, v3, y0, y1, y2, y3, n, rfl, _, _, h0, h1, h2, h3⟩ := open_agg4 Try.underlying23 (by kernel_rfl) cellsPd hv h
  obtain ⟨k, e0, _, hw⟩ := DataW.trod_int Try.underlying5 h0
  simp at e0
  obtain ⟨o, rfl⟩ := nat_of k hw
  obtain ⟨a, rfl⟩ := key_cell Try.underlying2 h1
  obtain ⟨b, rfl⟩ := key_cell Try.underlying2 h2
  obtain ⟨t, e3, _⟩ := DataW.trod_bool Try.underlying4 h3
  simp at e3
  subst e0 e3
  exact ⟨⟨o, a, b, t⟩, rfl⟩
end
end Go.Proofs.Ytjjhmenkgcldeaa
