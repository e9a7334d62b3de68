/- Trees that stand there, each node where it lies; slices of pointers (out of layer 13's). -/
import Derived.Test.YtcnkgddldhkddaaDoorL9At
import Derived.Test.YtcnkgddldhkddaaDoorL9High
import Derived.Test.YtcnkgddldhkddaaDoorL9Rules
import Derived.Test.YtcnkgddldhkddaaDoorL9Steps
import Derived.Test.YtcnkgddldhkddaaDoorGTurns
import Derived.Test.YtcnkgddldhkddaaDoorGOwn
import Derived.Deep.Cut
namespace Go.Proofs.YtcnkgddldhkddaaDoor
open Go.RowKit Go.Proofs.Treem
set_option maxRecDepth 100000
variable {Nd : NdP}

/-- pointers that lie there, in a slice -/
structure LieP (W : World) (B : Nat) (A : Option Addr) (n c : Nat) (ps : List (Option Addr)) : Prop where
  len : ps.length = n
  cap : n ≤ c
  max : c ≤ maxLen
  nil : A = none → c = 0
  row : Row W B A (ps.map Value.pointer)
theorem LieP.next {W W' : World} {B : Nat} {A : Option Addr} {n c : Nat} {ps : List (Option Addr)} (h : LieP W B A n c ps) (hb : Below B W W') : LieP W' B A n c ps := ⟨h.len, h.cap, h.max, h.nil, h.row.below hb⟩
theorem LieP.after {W W' : World} {A : Option Addr} {n c : Nat} {ps : List (Option Addr)} (h : LieP W W.heap.size A n c ps) (hb : Below W.heap.size W W') : LieP W' W'.heap.size A n c ps := ⟨h.len, h.cap, h.max, h.nil, h.row.next hb⟩
theorem LieP.lit {W : World} {g : Nat} {t : TypeId} (ps : List (Option Addr)) (h : Has W g t (ps.map Value.pointer).toArray) (hm : ps.length ≤ maxLen) : LieP W W.heap.size (some ⟨g, 0, none⟩) ps.length ps.length ps :=
  ⟨rfl, Nat.le_refl _, hm, fun e => (by cases e), by have := h.row; simpa using this⟩
theorem LieP.of_own {W : World} {base n : Nat} {t : TypeId} {v : Value} {ps : List (Option Addr)} (h : W.ownsRow base t 1 v n (ps.map Value.pointer)) : ∃ A c, v = .slice A n c ∧ LieP W W.heap.size A n c ps := by
  obtain ⟨A, c, rfl, k1, k2, k3⟩ := own_slice h
  have := h.1
  rw [List.length_map, Nat.mul_one] at this
  exact ⟨A, c, rfl, this, k1, k2, k3, Row.of_own h⟩
/-- the first ones of a slice -/
theorem LieP.take {W : World} {B : Nat} {A : Option Addr} {n c : Nat} {ps : List (Option Addr)} (h : LieP W B A n c ps) (k : Nat) (hk : k ≤ n) : LieP W B A k c (ps.take k) :=
  ⟨by rw [List.length_take, h.len]; omega, Nat.le_trans hk h.cap, h.max, h.nil, by rw [List.map_take]; exact h.row.take k⟩
theorem LieP.at_ {W : World} {B : Nat} {A : Option Addr} {n c : Nat} {ps : List (Option Addr)} (h : LieP W B A n c ps) (k : Nat) (p : Option Addr) (hk : ps[k]? = some p) : ∃ ad, A = some ad ∧ ad.block < B ∧ W.cell? (ad.add k) = some (.pointer p) :=
  h.row k (.pointer p) (by rw [List.getElem?_map, hk]; rfl)
/-- a tree that stands there, each node where it lies -/
structure Stand (Nd : NdP) (W : World) (T : AT) : Prop where
  lies : T.lies Nd W W.heap.size
  tree : TreeAt Nd W W.heap.size T.tr T.ptr
theorem Stand.after (hN : NodeSays Nd) {W W' : World} {T : AT} (h : Stand Nd W T) (hb : Below W.heap.size W W') : Stand Nd W' T := ⟨h.lies.after hN hb, h.tree.after hN hb⟩
theorem Stand.none_ (W : World) : Stand Nd W .e := ⟨trivial, rfl⟩
/-- a node of two trees, at a place of its own -/
def Made13 (Nd : NdP) (L R : AT) (k v g : BitVec 64) (w : World) (e : Ending) (w' : World) : Prop := ∃ a x, e = .returned (.pointer (some a)) ∧ (x.k = k ∧ x.v = v ∧ x.g = g) ∧ Stand Nd w' (.n a x L R) ∧ w.heap.size ≤ a.block ∧ Below w.heap.size w w'
theorem new13 (hN : NodeSays Nd) (w : World) (L R : AT) (k v g : BitVec 64) (hl : Stand Nd w L) (hr : Stand Nd w R) : Calls Tryd.prog 19 #[.pointer L.ptr, K k, K v, G64 g, .pointer R.ptr] w (Made13 Nd L R k v g w) := by
  refine (hN.new w w.heap.size L.ptr R.ptr k v g _ _ _ _ (Nat.le_refl _) hl.tree.look hr.tree.look).mono ?_
  intro e w' h
  obtain ⟨a, h1, h2, h3, h4, h5⟩ := TreeAt.born hN (Nat.le_refl _) hl.tree hr.tree h
  exact ⟨a, _, h1, ⟨rfl, rfl, rfl⟩, ⟨⟨h3, rfl, rfl, hl.lies.after hN h5, hr.lies.after hN h5⟩, h4⟩, h2, h5⟩
end Go.Proofs.YtcnkgddldhkddaaDoor
