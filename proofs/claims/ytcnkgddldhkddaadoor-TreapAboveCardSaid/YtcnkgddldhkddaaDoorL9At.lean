/- Trees with their nodes' addresses (out of layer 10's). -/
import Derived.Test.YtcnkgddldhkddaaDoorL9Ok
namespace Go.Proofs.YtcnkgddldhkddaaDoor
open Go.RowKit Go.Proofs.Treem

/-- a tree, node by node, where they lie -/
inductive AT where
  | e : AT
  | n (a : Addr) (x : No) (l r : AT) : AT
def AT.ptr : AT → Option Addr
  | .e => none
  | .n a .. => some a
def AT.sz : AT → BitVec 64
  | .e => 0#64
  | .n _ x .. => x.size
def AT.size : AT → Nat
  | .e => 0
  | .n _ _ l r => 1 + l.size + r.size
/-- what lies on a side: left, or right -/
def AT.side (d : Bool) : AT → AT
  | .e => .e
  | .n _ _ l r => if d then l else r
theorem AT.size_side (d : Bool) (a : Addr) (x : No) (l r : AT) : (AT.n a x l r).size = 1 + (AT.side d (.n a x l r)).size + (AT.side (!d) (.n a x l r)).size := by
  cases d <;> simp [AT.size, AT.side]; omega
/-- the tree lies there -/
def AT.lies (Nd : NdP) (W : World) (B : Nat) : AT → Prop
  | .e => True
  | .n a x l r => Nd W B a x ∧ x.l = l.ptr ∧ x.r = r.ptr ∧ AT.lies Nd W B l ∧ AT.lies Nd W B r
variable {Nd : NdP}
theorem AT.lies.next (hN : NodeSays Nd) {W W' : World} {B : Nat} (hb : Below B W W') : ∀ {t : AT}, t.lies Nd W B → t.lies Nd W' B
  | .e, _ => trivial
  | .n .., ⟨h1, h2, h3, h4, h5⟩ => ⟨hN.next h1 hb, h2, h3, h4.next hN hb, h5.next hN hb⟩
theorem AT.lies.side (d : Bool) {W : World} {B : Nat} : ∀ {t : AT}, t.lies Nd W B → (t.side d).lies Nd W B
  | .e, _ => trivial
  | .n .., ⟨_, _, _, h4, h5⟩ => by cases d <;> assumption
/-- the tree of pairs that it is -/
def AT.tr : AT → Tr
  | .e => .e
  | .n _ x l r => .n l.tr x.k x.v x.g r.tr
theorem AT.size_tr : ∀ t : AT, t.tr.size = t.size
  | .e => rfl
  | .n _ _ l r => by simp only [AT.tr, Tr.size, AT.size, AT.size_tr l, AT.size_tr r]
theorem AT.of_tree {W : World} {B : Nat} : ∀ (t : Tr) (p : Option Addr), TreeAt Nd W B t p → ∃ T : AT, T.ptr = p ∧ T.lies Nd W B ∧ T.tr = t
  | .e, p, h => ⟨.e, Eq.symm h, trivial, rfl⟩
  | .n l k v g r, p, ⟨a, pl, pr, h1, h2, h3, h4⟩ => by
    obtain ⟨L, e1, l1, t1⟩ := AT.of_tree l pl h3
    obtain ⟨R, e2, l2, t2⟩ := AT.of_tree r pr h4
    exact ⟨.n a _ L R, h1.symm, ⟨h2, e1.symm, e2.symm, l1, l2⟩, by rw [AT.tr, t1, t2]⟩
theorem AT.lies.more (hN : NodeSays Nd) {W : World} {B B' : Nat} (hb : B ≤ B') : ∀ {t : AT}, t.lies Nd W B → t.lies Nd W B'
  | .e, _ => trivial
  | .n .., ⟨h1, h2, h3, h4, h5⟩ => ⟨hN.more h1 hb, h2, h3, h4.more hN hb, h5.more hN hb⟩
theorem AT.lies.after (hN : NodeSays Nd) {W W' : World} {t : AT} (h : t.lies Nd W W.heap.size) (hb : Below W.heap.size W W') : t.lies Nd W' W'.heap.size := (h.next hN hb).more hN hb.size
/-- a tree stays, where a row of another kind has grown -/
theorem AT.lies.kept (hN : NodeSays Nd) {W W' : World} {row : Option Nat} {B : Nat} (hg : W.grownBy W' row) (hr : ∀ r, row = some r → ∀ cs, W.heap[r]? ≠ some (.cells cs 68 (0, 0))) : ∀ {T : AT}, T.lies Nd W B → T.lies Nd W' B
  | .e, _ => trivial
  | .n a x l r, ⟨h1, h2, h3, h4, h5⟩ => by
    obtain ⟨cs, hc⟩ := hN.kind h1
    refine ⟨hN.only h1 (hg.block _ (Array.getElem?_eq_some_iff.1 hc).1 (fun e => hr _ e.symm cs hc)), h2, h3, h4.kept hN hg hr, h5.kept hN hg hr⟩
theorem TreeAt.kept (hN : NodeSays Nd) {W W' : World} {row : Option Nat} {B : Nat} (hg : W.grownBy W' row) (hr : ∀ r, row = some r → ∀ cs, W.heap[r]? ≠ some (.cells cs 68 (0, 0))) : ∀ {t : Tr} {p : Option Addr}, TreeAt Nd W B t p → TreeAt Nd W' B t p
  | .e, _, h => h
  | .n .., _, ⟨a, pl, pr, h1, h2, h3, h4⟩ => by
    obtain ⟨cs, hc⟩ := hN.kind h2
    exact ⟨a, pl, pr, h1, hN.only h2 (hg.block _ (Array.getElem?_eq_some_iff.1 hc).1 (fun e => hr _ e.symm cs hc)), h3.kept hN hg hr, h4.kept hN hg hr⟩
theorem row_kind {W : World} {base size n : Nat} {v : Value} {xs : List Value} (h : W.ownsRow base 25 size v n xs) : ∀ r, v.ownBlock = some r → ∀ cs, W.heap[r]? ≠ some (.cells cs 68 (0, 0)) := fun r e cs hc => by
  rcases h.2 with ⟨rfl, _⟩ | ⟨g, cap, cur, rfl, _, hg, _⟩
  · simp [Value.ownBlock] at e
  · obtain rfl : r = g := by simpa [Value.ownBlock] using e.symm
    rw [hg] at hc
    cases hc
end Go.Proofs.YtcnkgddldhkddaaDoor
