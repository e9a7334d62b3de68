/- Layer 9: the steps of the statements on two trees: New, With, Node, Is, at whatever world. -/
import Derived.Test.YtcnkgddldhkddaaDoorL9Adds
namespace Go.Proofs.YtcnkgddldhkddaaDoor
open Go.RowKit Go.Proofs.Treem
set_option maxRecDepth 100000
variable {Nd : NdP}

/-- what New, With lay: a node of two trees -/
def Stood (Nd : NdP) (W : World) (pl pr : Option Addr) (tl tr : Tr) (k v g : BitVec 64) (e : Ending) (w' : World) : Prop :=
  ∃ a, e = .returned (.pointer (some a)) ∧ W.heap.size ≤ a.block ∧ Nd w' w'.heap.size a ⟨pl, pr, k, v, g, BitVec.ofNat 64 (1 + tl.size + tr.size), tl.sum + v + tr.sum⟩ ∧ TreeAt Nd w' w'.heap.size (.n tl k v g tr) (some a) ∧ Below W.heap.size W w'
theorem new9 (hN : NodeSays Nd) (W : World) (pl pr : Option Addr) (tl tr : Tr) (k v g : BitVec 64) (h1 : TreeAt Nd W W.heap.size tl pl) (h2 : TreeAt Nd W W.heap.size tr pr) :
    Calls Tryd.prog 19 #[.pointer pl, K k, K v, G64 g, .pointer pr] W (Stood Nd W pl pr tl tr k v g) :=
  (hN.new W W.heap.size pl pr k v g _ _ _ _ (Nat.le_refl _) h1.look h2.look).mono fun _ _ h => TreeAt.born hN (Nat.le_refl _) h1 h2 h
/-- a row of beads that was made -/
def MadeB (W : World) (n : Nat) (l : List Bd) (e : Ending) (w' : World) : Prop := ∃ A c, e = .returned (.slice A n c) ∧ LieB w' w'.heap.size A n c l ∧ Below W.heap.size W w'
theorem Node9 (tl tr t : Tr) (k v g : BitVec 64) (ht : Tr.n tl k v g tr = t) (n : Nat) (hn : t.size = n) (h5 : n ≤ 5000) (W : World) (A A' : Option Addr) (i j c c' : Nat) (h : LieB W W.heap.size A i c tl.told) (q : LieB W W.heap.size A' j c' tr.told) :
    Calls Tryd.prog 46 #[.slice A i c, K k, K v, G64 g, .slice A' j c'] W (MadeB W n t.told) := by
  subst ht
  have hi : tl.size = i := by rw [← told_len]; exact h.len
  have hj : tr.size = j := by rw [← told_len]; exact q.len
  have hn' : n = 1 + i + j := by rw [← hn, Tr.size, hi, hj]
  subst hn'
  refine (node9 tl tr k v g A A' i j c c' _ _ (told_strip tl) (told_strip tr) hi hj h5 W h q).mono ?_
  rintro e w' ⟨v', rfl, ho, hb⟩
  obtain ⟨A3, c3, rfl, k3⟩ := LieB.of_own (by rw [told_len, hn]) (by omega) ho
  exact ⟨A3, c3, rfl, k3, hb⟩
theorem nd_after (hN : NodeSays Nd) {w w' : World} {a : Addr} {x : No} (h : Nd w w.heap.size a x) (hb : Below w.heap.size w w') : Nd w' w'.heap.size a x := hN.more (hN.next h hb) hb.size
/-- two nodes that were made one after the other are two -/
theorem other_eql (hN : NodeSays Nd) {W : World} {a b : Addr} {x y : No} (h : Nd W W.heap.size a x) (q : Nd W W.heap.size b y) (hne : a ≠ b) : (binOp .neq 25 (.pointer (some a)) (.pointer (some b))).run Tryd.prog W = .ok (.bool true) W := by
  obtain ⟨ca, ta, ha⟩ := hN.lies h
  obtain ⟨cb, tb, hb⟩ := hN.lies q
  obtain ⟨j, hj, hs⟩ := node_info
  exact neq_of_eql (run_eql_ptr_other W Tryd.underlying25 hj hs hne ha hb)
end Go.Proofs.YtcnkgddldhkddaaDoor
