/- Layer 9: the statement NodeAdds, walked. -/
import Derived.Test.YtcnkgddldhkddaaDoorL9Tells
namespace Go.Proofs.YtcnkgddldhkddaaDoor
open Go.RowKit Go.Proofs.Treem
set_option maxRecDepth 100000
variable {Nd : NdP}

theorem Look.size (hN : NodeSays Nd) {W : World} {B : Nat} {p : Option Addr} {s m : BitVec 64} (h : Look Nd W B p s m) : Calls Tryd.prog 33 #[.pointer p] W fun e w' => e = .returned (K s) ∧ Below W.heap.size W w' := by
  rcases h with ⟨rfl, rfl, rfl⟩ | ⟨a, x, rfl, hx, rfl, rfl⟩
  · exact hN.size0 W
  · exact (hN.size W B a x hx).mono (by rintro e w' ⟨rfl, rfl⟩; exact ⟨rfl, Below.refl _ _⟩)
theorem Look.sum (hN : NodeSays Nd) {W : World} {B : Nat} {p : Option Addr} {s m : BitVec 64} (h : Look Nd W B p s m) : Calls Tryd.prog 40 #[.pointer p] W fun e w' => e = .returned (K m) ∧ Below W.heap.size W w' := by
  rcases h with ⟨rfl, rfl, rfl⟩ | ⟨a, x, rfl, hx, rfl, rfl⟩
  · exact hN.sum0 W
  · exact (hN.sum W B a x hx).mono (by rintro e w' ⟨rfl, rfl⟩; exact ⟨rfl, Below.refl _ _⟩)
theorem Look.next (hN : NodeSays Nd) {W W' : World} {B : Nat} {p : Option Addr} {s m : BitVec 64} (h : Look Nd W B p s m) (hb : Below B W W') : Look Nd W' B p s m := by
  rcases h with ⟨rfl, rfl, rfl⟩ | ⟨a, x, rfl, hx, rfl, rfl⟩
  · exact .inl ⟨rfl, rfl, rfl⟩
  · exact .inr ⟨a, x, rfl, hN.next hx hb, rfl, rfl⟩

theorem Look.after (hN : NodeSays Nd) {W W' : World} {p : Option Addr} {s m : BitVec 64} (h : Look Nd W W.heap.size p s m) (hb : Below W.heap.size W W') : Look Nd W' W'.heap.size p s m := by
  rcases h with ⟨rfl, rfl, rfl⟩ | ⟨a, x, rfl, hx, rfl, rfl⟩
  · exact .inl ⟨rfl, rfl, rfl⟩
  · exact .inr ⟨a, x, rfl, hN.more (hN.next hx hb) hb.size, rfl, rfl⟩
theorem nd_after1 (hN : NodeSays Nd) {w w' : World} {a : Addr} {x : No} (h : Nd w w.heap.size a x) (hb : Below w.heap.size w w') : Nd w' w'.heap.size a x := hN.more (hN.next h hb) hb.size

theorem size_check (s : BitVec 64) : wrap64 (wrap64 (2 * s.toInt) + 1) = (s + s + 1#64).toInt := by
  have h1 : wrap64 (2 * s.toInt) = (s + s).toInt := by rw [← i_add]; congr 1; omega
  have h2 := i_add (s + s) 1#64
  rw [show (1#64 : BitVec 64).toInt = 1 by decide] at h2
  rw [h1]; exact h2
theorem sum_check (m v : BitVec 64) : wrap64 (wrap64 (m.toInt + m.toInt) + v.toInt) = (m + v + m).toInt := by
  rw [i_add, i_add]; congr 1; ac_rfl

end Go.Proofs.YtcnkgddldhkddaaDoor
