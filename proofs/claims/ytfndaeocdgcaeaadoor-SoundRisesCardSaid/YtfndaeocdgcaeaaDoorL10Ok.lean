/- What package look has to answer (layer 10): everything below leans on this and on nothing else of the program's own code. -/
import Derived.RangeFuncNested
import Derived.RangeFuncBound
import Derived.RangeFuncCalls
import Derived.RangeFuncLeaves
import Derived.Shelf.Abstract
import Derived.Shelf.RegionOpen
import Derived.WalkKit
import Derived.OwnWalkIn
import Derived.TacticsInMore
import Derived.LoopNIn
import Derived.LoopIn
import Derived.Test.YtfndaeocdgcaeaaDoorL9Make
import Derived.Test.YtfndaeocdgcaeaaDoorL10Math
import Derived.Test.YtfndaeocdgcaeaaDoorL4Row
import Derived.Test.YtfndaeocdgcaeaaDoorL9High
import Derived.Test.YtfndaeocdgcaeaaDoorGRuns
namespace Go.Proofs.YtfndaeocdgcaeaaDoor
open Go.RowKit Go.Shelf Go.Proofs.Treem Go.Proofs.Rowm

abbrev encP (x : Pr) : Array Value := #[K x.1, K x.2]
/-- kinds of variables that a round may change: no iterator over a tree lies in such -/
def free (t : TypeId) : Bool := t == 94 || t == 67 || t == 3 || t == 2 || t == 34 || t == 4
/-- what a round keeps that goes on: what lies below B; and, of the rest, whatever is cells of another kind than those -/
structure Kt (B : Nat) (W W' : World) : Prop where
  os : W'.os = W.os
  tape : W'.tape = W.tape
  output : W'.output = W.output
  size : W.heap.size ≤ W'.heap.size
  low : ∀ k, k < B → W'.heap[k]? = W.heap[k]?
  mid : ∀ (k : Nat) (cs : Array Value) (t : TypeId) (fr : Nat × Nat), free t = false → W.heap[k]? = some (.cells cs t fr) → W'.heap[k]? = some (.cells cs t fr)
theorem Kt.refl (B : Nat) (W : World) : Kt B W W := ⟨rfl, rfl, rfl, Nat.le_refl _, fun _ _ => rfl, fun _ _ _ _ _ h => h⟩
theorem Kt.trans {B : Nat} {X Y Z : World} (h : Kt B X Y) (k : Kt B Y Z) : Kt B X Z :=
  ⟨k.os.trans h.os, k.tape.trans h.tape, k.output.trans h.output, Nat.le_trans h.size k.size, fun i hi => (k.low i hi).trans (h.low i hi), fun i cs t fr ht hc => k.mid i cs t fr ht (h.mid i cs t fr ht hc)⟩
theorem Kt.below {B : Nat} {W W' : World} (h : Kt B W W') : Below B W W' := ⟨h.os, h.tape, h.output, h.size, h.low⟩
/-- whatever changes nothing that lay -/
theorem Kt.of_below {B : Nat} {W W' : World} (h : Below W.heap.size W W') (hB : B ≤ W.heap.size) : Kt B W W' :=
  ⟨h.os, h.tape, h.output, h.size, fun k hk => h.block k (Nat.lt_of_lt_of_le hk hB), fun k _ _ _ _ hc => (h.block k (Array.getElem?_eq_some_iff.1 hc).1).trans hc⟩
/-- a row of the round's own has grown -/
theorem Kt.grown {B base n size : Nat} {e : TypeId} {W W' : World} {v : Value} {xs : List Value} (h : W.grownBy W' v.ownBlock) (hr : W.ownsRow base e size v n xs) (he : free e = true) (hb : B ≤ base) (hB : B ≤ W.heap.size) : Kt B W W' := by
  refine ⟨h.os, h.tape, h.output, h.size, fun k hk => h.block k (Nat.lt_of_lt_of_le hk hB) (fun e => ?_), fun k _ _ _ ht hc => (h.block k (Array.getElem?_eq_some_iff.1 hc).1 (fun e => ?_)).trans hc⟩
  · have := (hr.lt k e.symm).1; omega
  · rcases hr.2 with ⟨rfl, _⟩ | ⟨g, cap, cur, rfl, _, hgb, _⟩
    · simp [Value.ownBlock] at e
    · obtain rfl : k = g := by simpa [Value.ownBlock] using e
      rw [hc] at hgb
      cases hgb
      rw [ht] at he; cases he
/-- a store into a variable of such a kind -/
theorem Kt.store {B : Nat} {W : World} {g : Nat} {t : TypeId} {v : Value} (h : Boxed W g t v) (u : Value) (ht : free t = true) (hg : B ≤ g) : Kt B W (W.setCell ⟨g, 0, none⟩ u) := by
  refine ⟨rfl, rfl, rfl, by rw [World.size_setCell]; exact Nat.le_refl _, fun k hk => Below.heap_setCell _ _ _ k (fun e => by have : k = g := e; omega), fun k _ _ _ hf hc => (Below.heap_setCell _ _ _ k (fun e => ?_)).trans hc⟩
  have e : k = g := e
  subst e
  rw [show W.heap[k]? = _ from h] at hc
  cases hc
  rw [hf] at ht; cases ht
theorem Kt.put {B : Nat} {w : World} (hB : B ≤ w.heap.size) (W : World) (l : Nat) (o o' : Obj) (hl : w.heap.size ≤ l) (h : W.heap[l]? = some o) (hc : o.isCells = false) (_ : o.isWalk = false) : Kt B W (W.putObj l o') := by
  have hg := grownBy_putObj' W l o'
  refine ⟨hg.os, hg.tape, hg.output, hg.size, fun k hk => hg.block k (by have := (Array.getElem?_eq_some_iff.1 h).1; omega) (fun e => by cases e; omega), fun k _ _ _ _ hk => (hg.block k (Array.getElem?_eq_some_iff.1 hk).1 (fun e => ?_)).trans hk⟩
  cases e
  rw [hk] at h
  cases h
  cases hc
theorem boxed_kt {B : Nat} {W W' : World} {g : Nat} {t : TypeId} {v : Value} (h : Boxed W g t v) (hk : Kt B W W') (ht : free t = false) : Boxed W' g t v := hk.mid g _ t _ ht h
variable (Nd : NdP)
/-- what the functions of package look have to answer (trees of at most 1,000 nodes) -/
structure LookSays : Prop where
end Go.Proofs.YtfndaeocdgcaeaaDoor
