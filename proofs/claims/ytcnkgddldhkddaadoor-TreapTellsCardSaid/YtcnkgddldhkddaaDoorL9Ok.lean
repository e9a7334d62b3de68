/- What package node has to answer (layer 9): everything below leans on this and on nothing else of the program's own code. -/
import Derived.Test.YtcnkgddldhkddaaDoorL9Node
namespace Go.Proofs.YtcnkgddldhkddaaDoor
open Go.RowKit Go.Proofs.Treem

/-- a node, as it lies there -/
structure No where
  l : Option Addr
  r : Option Addr
  k : BitVec 64
  v : BitVec 64
  g : BitVec 64
  size : BitVec 64
  sum : BitVec 64
abbrev NdP := World → Nat → Addr → No → Prop
/-- size and sum of what a pointer leads to -/
def Look (Nd : NdP) (W : World) (B : Nat) (p : Option Addr) (s m : BitVec 64) : Prop := (p = none ∧ s = 0#64 ∧ m = 0#64) ∨ ∃ a x, p = some a ∧ Nd W B a x ∧ x.size = s ∧ x.sum = m
/-- a node that was made -/
def Born (Nd : NdP) (w : World) (x : No) (e : Ending) (w' : World) : Prop := ∃ a, e = .returned (.pointer (some a)) ∧ w.heap.size ≤ a.block ∧ Nd w' w'.heap.size a x ∧ Below w.heap.size w w'
/-- what the functions of package node have to answer (of the empty tree they may make memory) -/
structure NodeSays (Nd : NdP) : Prop where
  next : ∀ {W W' : World} {B : Nat} {a : Addr} {x : No}, Nd W B a x → Below B W W' → Nd W' B a x
  more : ∀ {W : World} {B B' : Nat} {a : Addr} {x : No}, Nd W B a x → B ≤ B' → Nd W B' a x
  lt : ∀ {W : World} {B : Nat} {a : Addr} {x : No}, Nd W B a x → a.block < B
  only : ∀ {W W' : World} {B : Nat} {a : Addr} {x : No}, Nd W B a x → W'.heap[a.block]? = W.heap[a.block]? → Nd W' B a x
  kind : ∀ {W : World} {B : Nat} {a : Addr} {x : No}, Nd W B a x → ∃ cs, W.heap[a.block]? = some (.cells cs 68 (0, 0))
  uniq : ∀ {W : World} {B B' : Nat} {a : Addr} {x y : No}, Nd W B a x → Nd W B' a y → x = y
  lies : ∀ {W : World} {B : Nat} {a : Addr} {x : No}, Nd W B a x → ∃ cs t, W.heap[a.block]? = some (.cells cs t (0, 0))
  new : ∀ (w : World) (B : Nat) (pl pr : Option Addr) (k v g sl ml sr mr : BitVec 64), B ≤ w.heap.size → Look Nd w B pl sl ml → Look Nd w B pr sr mr →
    Calls Tryd.prog 19 #[.pointer pl, K k, K v, G64 g, .pointer pr] w (Born Nd w ⟨pl, pr, k, v, g, sl + sr + 1#64, ml + v + mr⟩)
  left : ∀ (w : World) (B : Nat) (a : Addr) (x : No), Nd w B a x → Calls Tryd.prog 29 #[.pointer (some a)] w fun e w' => e = .returned (.pointer x.l) ∧ w = w'
  left0 : ∀ (w : World), Calls Tryd.prog 29 #[.pointer none] w fun e w' => e = .returned (.pointer none) ∧ Below w.heap.size w w'
  right : ∀ (w : World) (B : Nat) (a : Addr) (x : No), Nd w B a x → Calls Tryd.prog 30 #[.pointer (some a)] w fun e w' => e = .returned (.pointer x.r) ∧ w = w'
  right0 : ∀ (w : World), Calls Tryd.prog 30 #[.pointer none] w fun e w' => e = .returned (.pointer none) ∧ Below w.heap.size w w'
  key : ∀ (w : World) (B : Nat) (a : Addr) (x : No), Nd w B a x → Calls Tryd.prog 28 #[.pointer (some a)] w fun e w' => e = .returned (K x.k) ∧ w = w'
  key0 : ∀ (w : World), Calls Tryd.prog 28 #[.pointer none] w fun e w' => e = .returned (.int .i64 0) ∧ Below w.heap.size w w'
  val : ∀ (w : World) (B : Nat) (a : Addr) (x : No), Nd w B a x → Calls Tryd.prog 51 #[.pointer (some a)] w fun e w' => e = .returned (K x.v) ∧ w = w'
  val0 : ∀ (w : World), Calls Tryd.prog 51 #[.pointer none] w fun e w' => e = .returned (.int .i64 0) ∧ Below w.heap.size w w'
  tag : ∀ (w : World) (B : Nat) (a : Addr) (x : No), Nd w B a x → Calls Tryd.prog 37 #[.pointer (some a)] w fun e w' => e = .returned (G64 x.g) ∧ w = w'
  tag0 : ∀ (w : World), Calls Tryd.prog 37 #[.pointer none] w fun e w' => e = .returned (.int .u64 0) ∧ Below w.heap.size w w'
  size : ∀ (w : World) (B : Nat) (a : Addr) (x : No), Nd w B a x → Calls Tryd.prog 33 #[.pointer (some a)] w fun e w' => e = .returned (K x.size) ∧ w = w'
  size0 : ∀ (w : World), Calls Tryd.prog 33 #[.pointer none] w fun e w' => e = .returned (.int .i64 0) ∧ Below w.heap.size w w'
  sum : ∀ (w : World) (B : Nat) (a : Addr) (x : No), Nd w B a x → Calls Tryd.prog 40 #[.pointer (some a)] w fun e w' => e = .returned (K x.sum) ∧ w = w'
  sum0 : ∀ (w : World), Calls Tryd.prog 40 #[.pointer none] w fun e w' => e = .returned (.int .i64 0) ∧ Below w.heap.size w w'

/-- a tree that lies there -/
def TreeAt (Nd : NdP) (W : World) (B : Nat) : Tr → Option Addr → Prop
  | .e, p => p = none
  | .n l k v g r, p => ∃ a pl pr, p = some a ∧ Nd W B a ⟨pl, pr, k, v, g, BitVec.ofNat 64 (1 + l.size + r.size), l.sum + v + r.sum⟩ ∧ TreeAt Nd W B l pl ∧ TreeAt Nd W B r pr
variable {Nd : NdP}
theorem TreeAt.next (hN : NodeSays Nd) {W W' : World} {B : Nat} (hb : Below B W W') : ∀ {t : Tr} {p : Option Addr}, TreeAt Nd W B t p → TreeAt Nd W' B t p
  | .e, _, h => h
  | .n .., _, ⟨a, pl, pr, h1, h2, h3, h4⟩ => ⟨a, pl, pr, h1, hN.next h2 hb, h3.next hN hb, h4.next hN hb⟩
theorem TreeAt.more (hN : NodeSays Nd) {W : World} {B B' : Nat} (hb : B ≤ B') : ∀ {t : Tr} {p : Option Addr}, TreeAt Nd W B t p → TreeAt Nd W B' t p
  | .e, _, h => h
  | .n .., _, ⟨a, pl, pr, h1, h2, h3, h4⟩ => ⟨a, pl, pr, h1, hN.more h2 hb, h3.more hN hb, h4.more hN hb⟩
theorem TreeAt.look {W : World} {B : Nat} : ∀ {t : Tr} {p : Option Addr}, TreeAt Nd W B t p → Look Nd W B p (BitVec.ofNat 64 t.size) t.sum
  | .e, _, h => .inl ⟨h, rfl, rfl⟩
  | .n .., _, ⟨a, _, _, h1, h2, _, _⟩ => .inr ⟨a, _, h1, h2, rfl, rfl⟩
/-- a tree that is later than others, yet kept by each step that keeps what lay -/
theorem TreeAt.after (hN : NodeSays Nd) {W W' : World} {t : Tr} {p : Option Addr} (h : TreeAt Nd W W.heap.size t p) (hb : Below W.heap.size W W') : TreeAt Nd W' W'.heap.size t p := (h.next hN hb).more hN hb.size
theorem TreeAt.is {W : World} {B : Nat} : ∀ {t : Tr} {p : Option Addr}, TreeAt Nd W B t p → t.is = p.isSome
  | .e, _, h => by rw [show _ = none from h]; rfl
  | .n .., _, ⟨_, _, _, h1, _, _, _⟩ => by rw [h1]; rfl
theorem bits_size (i j : Nat) : BitVec.ofNat 64 i + BitVec.ofNat 64 j + 1#64 = BitVec.ofNat 64 (1 + i + j) := by
  rw [← BitVec.ofNat_add, ← BitVec.ofNat_add, Nat.add_comm (i + j) 1, Nat.add_assoc]
/-- a node of two trees is one -/
theorem TreeAt.born (hN : NodeSays Nd) {w w' : World} {B : Nat} {e : Ending} {tl tr : Tr} {pl pr : Option Addr} {k v g : BitVec 64} (hB : B ≤ w.heap.size) (hl : TreeAt Nd w B tl pl) (hr : TreeAt Nd w B tr pr)
    (h : Born Nd w ⟨pl, pr, k, v, g, BitVec.ofNat 64 tl.size + BitVec.ofNat 64 tr.size + 1#64, tl.sum + v + tr.sum⟩ e w') :
    ∃ a, e = .returned (.pointer (some a)) ∧ w.heap.size ≤ a.block ∧ Nd w' w'.heap.size a ⟨pl, pr, k, v, g, BitVec.ofNat 64 (1 + tl.size + tr.size), tl.sum + v + tr.sum⟩ ∧ TreeAt Nd w' w'.heap.size (.n tl k v g tr) (some a) ∧ Below w.heap.size w w' := by
  obtain ⟨a, h1, h2, h3, h4⟩ := h
  rw [bits_size] at h3
  have hB' : B ≤ w'.heap.size := Nat.le_trans hB h4.size
  exact ⟨a, h1, h2, h3, ⟨a, pl, pr, rfl, h3, (hl.next hN (h4.mono hB)).more hN hB', (hr.next hN (h4.mono hB)).more hN hB'⟩, h4⟩
end Go.Proofs.YtcnkgddldhkddaaDoor
