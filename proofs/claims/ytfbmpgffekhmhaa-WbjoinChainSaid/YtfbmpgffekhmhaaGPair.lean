/- Pairs, as values and in memory; whether two slices of pairs are the same (the document's own answer of layer 4), where they are. -/
import Derived.Test.YtfbmpgffekhmhaaL4Row
import Derived.Test.YtfbmpgffekhmhaaGApp
import Derived.IntWalk
import Derived.Deep.QuietTactic
import Derived.BigQuiet
import Derived.Outline
namespace Go.Proofs.Ytfbmpgffekhmhaa
open Go.RowKit Go.Proofs.Rowm

/-- a pair, as a value -/
abbrev pV (p : Pr) : Value := .agg #[K p.1, K p.2]
/-- a variable of two cells that is stored whole -/
theorem Has.two {w : World} {g : Nat} {t : TypeId} {a b : Value} (h : Has w g t #[a, b]) (u v : Value) : Has ((w.setCell ⟨g, 0, none⟩ u).setCell ⟨g, 1, none⟩ v) g t #[u, v] := (h.set 0 u).set 1 v
theorem Has.c0 {w : World} {g : Nat} {t : TypeId} {a b : Value} (h : Has w g t #[a, b]) : w.cell? ⟨g, 0, none⟩ = some a := h.cell 0
theorem Has.c1 {w : World} {g : Nat} {t : TypeId} {a b : Value} (h : Has w g t #[a, b]) : w.cell? ⟨g, 1, none⟩ = some b := h.cell 1
theorem Has.keep {w w' : World} {g B : Nat} {t : TypeId} {cs : Array Value} (h : Has w g t cs) (hb : Below B w w') (hB : B = w.heap.size) : Has w' g t cs := h.below hb (hB ▸ h.lt)

end Go.Proofs.Ytfbmpgffekhmhaa
