/- The document's own answers of layer 4: Ceil, Floor. -/
import Derived.Test.YtjnnfineebabaaaDoorL4RefB
namespace Go.Proofs.YtjnnfineebabaaaDoor
open Go.RowKit Go.Proofs.Rowm

/-- a pair, as a value -/
abbrev pV (p : Pr) : Value := .agg #[K p.1, K p.2]
/-- a variable of two cells that is stored whole -/
theorem Has.two {w : World} {g : Nat} {t : TypeId} {a b : Value} (h : Has w g t #[a, b]) (u v : Value) : Has ((w.setCell ⟨g, 0, none⟩ u).setCell ⟨g, 1, none⟩ v) g t #[u, v] := (h.set 0 u).set 1 v
theorem Has.c0 {w : World} {g : Nat} {t : TypeId} {a b : Value} (h : Has w g t #[a, b]) : w.cell? ⟨g, 0, none⟩ = some a := h.cell 0
theorem Has.c1 {w : World} {g : Nat} {t : TypeId} {a b : Value} (h : Has w g t #[a, b]) : w.cell? ⟨g, 1, none⟩ = some b := h.cell 1
theorem Has.keep {w w' : World} {g B : Nat} {t : TypeId} {cs : Array Value} (h : Has w g t cs) (hb : Below B w w') (hB : B = w.heap.size) : Has w' g t cs := h.below hb (hB ▸ h.lt)

/-- what Floor holds behind k rounds -/
def flo (l : List Pr) (j k : Nat) : Pr := floorAt l (min k j)
theorem flo_next (l : List Pr) (j k : Nat) (hk : k < l.length) : flo l j (k + 1) = if k < j then l[k] else flo l j k := by
  unfold flo floorAt
  by_cases h : k < j
  · rw [if_pos h, Nat.min_eq_left (by omega), if_pos (by omega), Nat.add_sub_cancel, getD_at l k hk]
  · rw [if_neg h, Nat.min_eq_right (by omega), Nat.min_eq_right (by omega)]

end Go.Proofs.YtjnnfineebabaaaDoor
