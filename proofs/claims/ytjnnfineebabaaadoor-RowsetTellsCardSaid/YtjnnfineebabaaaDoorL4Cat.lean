/- The contracts of slices.Grow (at nil) and slices.Concat, for slices of pairs. -/
import Derived.Test.YtjnnfineebabaaaDoorL4Row
import Derived.Test.YtjnnfineebabaaaDoorGApp
import Derived.Lib.AppendZerosOnto
import Derived.Lib.Walk
import Derived.Lib.SliceRun
import Derived.Outline
namespace Go.Proofs.YtjnnfineebabaaaDoor
open Go.RowKit Go.Proofs.Rowm

/-- a row of the call's own: the slice v holds the pairs l, and lies from block 'base' on -/
def OwnsP (w : World) (base : Nat) (l : List Pr) (e : Ending) (w' : World) : Prop :=
  ∃ v, e = .returned v ∧ w'.ownsRow base 42 2 v l.length (flat l) ∧ Below w.heap.size w w'

/-- a part of what is put together: its address, its capacity, its pairs -/
structure Part where
  A : Option Addr
  c : Nat
  l : List Pr
/-- it lies there -/
structure Part.Lies (p : Part) (w : World) (B : Nat) : Prop where
  row : Row w B p.A (flat p.l)
  cap : p.l.length ≤ p.c
  nil : p.A = none → p.c = 0
def Part.val (p : Part) : Value := .slice p.A p.l.length p.c
/-- the pairs of parts, one behind the other -/
def whole (ps : List Part) : List Pr := ps.flatMap (·.l)
theorem whole_snoc (ps : List Part) (k : Nat) (h : k < ps.length) : whole (ps.take (k + 1)) = whole (ps.take k) ++ ps[k].l := by
  unfold whole
  rw [List.take_succ_eq_append_getElem h, List.flatMap_append]; simp
theorem whole_le (ps : List Part) (k : Nat) : (whole (ps.take k)).length ≤ (whole ps).length := by
  have e : whole ps = whole (ps.take k) ++ whole (ps.drop k) := by unfold whole; rw [← List.flatMap_append, List.take_append_drop]
  rw [e, List.length_append]; omega

end Go.Proofs.YtjnnfineebabaaaDoor
