/- The document's own answers of layer 9: Node. -/
import Derived.Test.YtfbmpgffekhmhaaL9Of
namespace Go.Proofs.Ytfbmpgffekhmhaa
open Go.RowKit Go.Proofs.Treem

theorem is_pos (t : Tr) : decide (0 < t.size) = t.is := by
  cases t with
  | e => rfl
  | n l k v g r => exact decide_eq_true (by simp only [Tr.size]; omega)

/-- a row of the call's own, of an elder base -/
theorem own_base {w : World} {base base' n : Nat} {e : TypeId} {size : Nat} {v : Value} {xs : List Value} (h : w.ownsRow base e size v n xs) (hb : base' ≤ base) : w.ownsRow base' e size v n xs := by
  refine ⟨h.1, ?_⟩
  rcases h.2 with hn | ⟨g, cap, cur, h1, h2, h3⟩
  · exact .inl hn
  · exact .inr ⟨g, cap, cur, h1, Nat.le_trans hb h2, h3⟩
end Go.Proofs.Ytfbmpgffekhmhaa
