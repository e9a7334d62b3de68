/- Layer 14, as landed: what goes over a tree's nodes in the order of its beads, each at its first place, with a set of those that it has been at. -/
import Derived.Test.YtifhnaelkjfmdabGPtrSet
import Derived.Test.YtifhnaelkjfmdabGApart
import Derived.Test.YtifhnaelkjfmdabGOwn
import Derived.Test.YtifhnaelkjfmdabGCut
import Derived.Test.YtifhnaelkjfmdabGHeldIn
import Derived.Test.YtifhnaelkjfmdabS14Math
import Derived.Test.YtifhnaelkjfmdabL9Part
import Derived.Deep.Cut
import Derived.Shelf.Abstract
import Derived.Laws.OwnMore
namespace Go.Proofs.Ytifhnaelkjfmdab
open Go.RowKit Go.Shelf Go.Proofs.Treem
attribute [local go_sem] Oper.semAt_some
set_option maxRecDepth 100000
variable {Nd : NdP}

/-- what is handed over: a place, a tree, and where its root lies -/
abbrev It14 := Nat × Tr × Addr
def enc14 (x : It14) : Array Value := #[nI x.1, .pointer (some x.2.2)]
def mine14 (t : TypeId) : Bool := t == 25
abbrev none14 (_ : TypeId) : Bool := false
def load14 (us : List (Tr × Option Addr)) : Nat := (us.map fun u => 2 * u.1.size + 1).sum
def ptrs14 (us : List (Tr × Option Addr)) : List Value := us.map fun u => .pointer u.2
def trees14 (us : List (Tr × Option Addr)) : List Tr := us.map fun u => u.1
def size14 (us : List (Tr × Option Addr)) : Nat := (us.map fun u => u.1.size).sum
theorem load14_len : ∀ us : List (Tr × Option Addr), us.length ≤ load14 us
  | [] => Nat.le_refl _
  | u :: us => by have := load14_len us; simp only [load14, List.map_cons, List.sum_cons, List.length_cons] at this ⊢; omega
theorem load14_cons (u : Tr × Option Addr) (us : List (Tr × Option Addr)) : load14 (u :: us) = 2 * u.1.size + 1 + load14 us := rfl
theorem size14_cons (t : Tr) (q : Option Addr) (us : List (Tr × Option Addr)) : size14 ((t, q) :: us) = t.size + size14 us := rfl
theorem trees14_cons (t : Tr) (q : Option Addr) (us : List (Tr × Option Addr)) : trees14 ((t, q) :: us) = t :: trees14 us := rfl
/-- a pointer leads to one tree -/
theorem TreeAt.uniq (hN : NodeSays Nd) {W : World} {B B' : Nat} : ∀ {t u : Tr} {p : Option Addr}, TreeAt Nd W B t p → TreeAt Nd W B' u p → t = u
  | .e, .e, _, _, _ => rfl
  | .e, .n .., _, h, ⟨_, _, _, e, _⟩ => by rw [show _ = none from h] at e; cases e
  | .n .., .e, _, ⟨_, _, _, e, _⟩, h => by rw [show _ = none from h] at e; cases e
  | .n l k v g r, .n l' k' v' g' r', p, ⟨a, pl, pr, e, h2, h3, h4⟩, ⟨a', pl', pr', e', h2', h3', h4'⟩ => by
    subst e
    cases e'
    have := hN.uniq h2 h2'
    injection this with e1 e2 e3 e4 e5 e6 e7
    subst e1 e2 e3 e4 e5
    rw [h3.uniq hN h3', h4.uniq hN h4']
/-- where the closure stands, as it lies: those at us are still to be gone by, the last one first -/
structure At14 (Nd : NdP) (w0 : World) (r B' : Nat) (J : List It14 → World → Prop) (S : List (Option Addr)) (us : List (Tr × Option Addr)) (pre : List It14) (v : Value) (w : World) : Prop where
  base : Below w0.heap.size w0 w
  been : w.heap[r]? = some (setO S)
  none : Option.none ∈ S
  good : ∀ q ∈ S, GoodP w0 q
  ow : w.ownsRow B' 25 1 v us.length (ptrs14 us.reverse)
  ls : ∀ u ∈ us, TreeAt Nd w0 w0.heap.size u.1 u.2
  j : J pre w
  ld : load14 us ≤ 10001
  sz : B' ≤ w.heap.size
  low : w0.heap.size ≤ B'
  rb : B' ≤ r
/-- .. and what it knows: as far as all that it handed over is right -/
structure Go14 (Nd : NdP) (f : Tr → Nat) (t0 : Tr) (w0 : World) (S : List (Option Addr)) (us : List (Tr × Option Addr)) (pre : List It14) (pl : Nat) : Prop where
  size : pl + size14 us = t0.size
  go : (∀ y ∈ pre, f y.2.1 = 0) → errF f t0 = errL f (trees14 us) ∧ placeF f t0 = pl + placeL f (trees14 us) ∧ ∀ q ∈ S, ∀ t, TreeAt Nd w0 w0.heap.size t q → Past f (trees14 us) t
/-- what is told of a node that is handed over -/
def Told14 (Nd : NdP) (f : Tr → Nat) (t0 : Tr) (w0 : World) (pre : List It14) (x : It14) (W : World) : Prop :=
  TreeAt Nd w0 w0.heap.size x.2.1 (some x.2.2) ∧ Below w0.heap.size w0 W ∧ x.1 + x.2.1.size ≤ 5000 ∧ ((∀ y ∈ pre, f y.2.1 = 0) → f x.2.1 ≠ 0 → errF f t0 = f x.2.1 ∧ placeF f t0 = x.1)
section
variable {f : Tr → Nat} {t0 : Tr} {w0 : World} {r B' pl : Nat} {J : List It14 → World → Prop} {S : List (Option Addr)} {us : List (Tr × Option Addr)} {pre : List It14} {v : Value} {w w' : World}
theorem At14.below (h : At14 Nd w0 r B' J S us pre v w) (hJ : Abide mine14 B' J) (hb : Below w.heap.size w w') : At14 Nd w0 r B' J S us pre v w' :=
  ⟨h.base.trans (hb.mono h.base.size), (hb.block r (Array.getElem?_eq_some_iff.1 h.been).1).trans h.been, h.none, h.good, owned_next h.ow hb, h.ls, hJ _ _ _ h.j (.of_below hb), h.ld, Nat.le_trans h.sz hb.size, h.low, h.rb⟩
theorem At14.goods (h : At14 Nd w0 r B' J S us pre v w) : ∀ q ∈ S, GoodP w q := fun q hq => (h.good q hq).below h.base
/-- the last one is taken off -/
theorem At14.pop {u : Tr × Option Addr} {A : Option Addr} {m n c : Nat} (h : At14 Nd w0 r B' J S (u :: us) pre (.slice A n c) w) (hm : us.length = m) (hn : m + 1 = n) : At14 Nd w0 r B' J S us pre (.slice A m c) w := by
  subst hm hn
  have ho := h.ow
  rw [List.reverse_cons, ptrs14, List.map_append] at ho
  have ht := owned_take ho us.length (by simp)
  rw [show us.length * 1 = (us.reverse.map fun u => Value.pointer u.2).length by simp, List.take_left] at ht
  exact ⟨h.base, h.been, h.none, h.good, ht, fun x hx => h.ls x (List.mem_cons_of_mem _ hx), h.j, by have := h.ld; rw [load14_cons] at this; omega, h.sz, h.low, h.rb⟩
/-- the last one, as it lies -/
theorem At14.top {u : Tr × Option Addr} {A : Option Addr} {n m c : Nat} (h : At14 Nd w0 r B' J S (u :: us) pre (.slice A n c) w) (hm : us.length = m) : ∃ ad, A = some ad ∧ w.cell? (ad.add m) = some (.pointer u.2) := by
  obtain ⟨A', c', e1, -, -, -⟩ := own_slice h.ow
  cases e1
  have ho := h.ow
  rw [List.reverse_cons, ptrs14, List.map_append] at ho
  obtain ⟨ad, e, _, hc⟩ := (Row.of_own ho) m (.pointer u.2) (by rw [List.getElem?_append_right (by simp [hm])]; simp [hm])
  exact ⟨ad, e, hc⟩
/-- a node is put into the set -/
theorem At14.put {p : Option Addr} (h : At14 Nd w0 r B' J S us pre v w) (hJ : Abide mine14 B' J) (hp : GoodP w0 p) : At14 Nd w0 r B' J (S ++ [p]) us pre v (w.putObj r (setO (S ++ [p]))) := by
  have hk : Kf mine14 B' w (w.putObj r (setO (S ++ [p]))) := Kf.putObj w r _ _ h.rb h.been rfl
  refine ⟨h.base.trans (hk.below.mono h.low), World.putObj_heap_same (Array.getElem?_eq_some_iff.1 h.been).1, List.mem_append_left _ h.none, fun q hq => ?_, h.ow.kept (grownBy_putObj' w r _) ?_, h.ls, hJ _ _ _ h.j (.of_kf hk), h.ld, Nat.le_trans h.sz hk.size, h.low, h.rb⟩
  · rcases List.mem_append.1 hq with hq | hq
    · exact h.good q hq
    · rw [List.mem_singleton.1 hq]; exact hp
  · by_cases hv : v.ownBlock = some r
    · exfalso
      rcases h.ow.2 with ⟨rfl, _⟩ | ⟨g, cap, cur, rfl, _, hg, _⟩
      · simp [Value.ownBlock] at hv
      · obtain rfl : g = r := by simpa [Value.ownBlock] using hv
        rw [h.been] at hg
        cases hg
    · exact .inr hv
/-- a node has been told -/
theorem At14.yielded {y : It14} (h : At14 Nd w0 r B' J S us pre v w) (hj : J (pre ++ [y]) w') (hk : Kf none14 w0.heap.size w w') (hf : KeepsFrom B' w w') : At14 Nd w0 r B' J S us (pre ++ [y]) v w' :=
  ⟨h.base.trans hk.below, hf.same r _ h.rb h.been rfl, h.none, h.good, hk.owned h.ow rfl, h.ls, hj, h.ld, Nat.le_trans h.sz hk.size, h.low, h.rb⟩
/-- both sides of a node are put on the row -/
theorem At14.push {tl tr : Tr} {pl pr : Option Addr} {tmp : Obj} {v1 : Value} {w1 : World} (h : At14 Nd w0 r B' J S us pre v w) (hJ : Abide mine14 B' J) (hl : TreeAt Nd w0 w0.heap.size tl pl) (hr : TreeAt Nd w0 w0.heap.size tr pr) (hd : load14 us + (2 * tl.size + 1) + (2 * tr.size + 1) ≤ 10001)
    (ho : w1.ownsRow B' 25 1 v1 (us.length + 2) (ptrs14 us.reverse ++ [.pointer pr, .pointer pl])) (hg : (w.alloc tmp).grownBy w1 v.ownBlock) : At14 Nd w0 r B' J S ((tl, pl) :: (tr, pr) :: us) pre v1 w1 := by
  have h1 := h.below hJ ((Below.refl w.heap.size w).alloc (Nat.le_refl _) tmp)
  have hk : Kf mine14 B' (w.alloc tmp) w1 := Kf.grown hg h1.ow rfl (Nat.le_refl _) h1.sz
  refine ⟨h1.base.trans (hk.below.mono h.low), ?_, h.none, h.good, ?_, ?_, hJ _ _ _ h1.j (.of_kf hk), by rw [load14_cons, load14_cons]; show 2 * tl.size + 1 + (2 * tr.size + 1 + load14 us) ≤ _; omega, Nat.le_trans h1.sz hk.size, h.low, h.rb⟩
  · refine (hg.block r (Array.getElem?_eq_some_iff.1 h1.been).1 (fun e => ?_)).trans h1.been
    rcases h.ow.2 with ⟨rfl, _⟩ | ⟨g, cap, cur, rfl, _, hg', _⟩
    · simp [Value.ownBlock] at e
    · obtain rfl : r = g := by simpa [Value.ownBlock] using e
      rw [h.been] at hg'
      cases hg'
  · simp only [List.reverse_cons, ptrs14, List.map_append, List.length_cons, List.append_assoc, List.map_cons, List.map_nil] at ho ⊢
    exact ho
  · intro u hu
    rcases List.mem_cons.1 hu with rfl | hu
    · exact hl
    · rcases List.mem_cons.1 hu with rfl | hu
      · exact hr
      · exact h.ls u hu
/-- the start -/
theorem Go14.start (f : Tr → Nat) (t0 : Tr) (w0 : World) (p : Option Addr) : Go14 Nd f t0 w0 [none] [(t0, p)] [] 0 := by
  refine ⟨by simp [size14], fun _ => ⟨(errL_one t0).symm, by rw [show trees14 [(t0, p)] = [t0] from rfl, placeL_one, Nat.zero_add], fun q hq t ht => ?_⟩⟩
  rw [List.mem_singleton.1 hq] at ht
  cases t with
  | e => exact ⟨[], [t0], rfl, fun _ => rfl, fun u hu => by cases hu⟩
  | n l k v g r => obtain ⟨_, _, _, e, _⟩ := ht; cases e
/-- a node where one has been -/
theorem Go14.again {t : Tr} {q : Option Addr} (h : Go14 Nd f t0 w0 S ((t, q) :: us) pre pl) (ht : TreeAt Nd w0 w0.heap.size t q) (hq : q ∈ S) : Go14 Nd f t0 w0 S us pre (pl + t.size) := by
  have hs := h.size
  rw [size14_cons] at hs
  refine ⟨by omega, fun hp => ?_⟩
  obtain ⟨h1, h2, h3⟩ := h.go hp
  rw [trees14_cons] at h1 h2 h3
  have hok := (h3 q hq t ht).again
  exact ⟨by rw [h1, errL_ok _ hok], by rw [h2, placeL_ok _ hok]; omega, fun q' hq' t' ht' => (h3 q' hq' t' ht').ok hok⟩
/-- a node that is right -/
theorem Go14.step (hN : NodeSays Nd) {l r : Tr} {k x g : BitVec 64} {a : Addr} {p1 p2 : Option Addr} (h : Go14 Nd f t0 w0 S ((.n l k x g r, some a) :: us) pre pl) (ht : TreeAt Nd w0 w0.heap.size (.n l k x g r) (some a)) :
    Go14 Nd f t0 w0 (S ++ [some a]) ((l, p1) :: (r, p2) :: us) (pre ++ [(pl, .n l k x g r, a)]) (pl + 1) := by
  have hs := h.size
  rw [size14_cons, Tr.size] at hs
  refine ⟨by rw [size14_cons, size14_cons]; omega, fun hp => ?_⟩
  have hf : f (.n l k x g r) = 0 := hp (pl, .n l k x g r, a) (List.mem_append_right _ (List.mem_singleton.2 rfl))
  obtain ⟨h1, h2, h3⟩ := h.go fun y hy => hp y (List.mem_append_left _ hy)
  rw [trees14_cons] at h1 h2 h3
  rw [trees14_cons, trees14_cons]
  refine ⟨by rw [h1, errL_yes _ hf], by rw [h2, placeL_yes _ hf]; omega, fun q' hq' t' ht' => ?_⟩
  rcases List.mem_append.1 hq' with hq' | hq'
  · exact (h3 q' hq' t' ht').down hf
  · rw [List.mem_singleton.1 hq'] at ht'
    rw [ht'.uniq hN ht]
    exact Past.first hf
theorem Go14.told {l r : Tr} {k x g : BitVec 64} {q : Option Addr} (h : Go14 Nd f t0 w0 S ((.n l k x g r, q) :: us) pre pl) (hp : ∀ y ∈ pre, f y.2.1 = 0) (hf : f (.n l k x g r) ≠ 0) : errF f t0 = f (.n l k x g r) ∧ placeF f t0 = pl := by
  obtain ⟨h1, h2, -⟩ := h.go hp
  rw [trees14_cons] at h1 h2
  exact ⟨by rw [h1, errL_no _ hf], by rw [h2, placeL_no _ hf]; rfl⟩
theorem Go14.done (h : Go14 Nd f t0 w0 S [] pre pl) (hp : ∀ y ∈ pre, f y.2.1 = 0) : errF f t0 = 0 := (h.go hp).1
end
theorem good_tree14 (hN : NodeSays Nd) {w : World} {t : Tr} {p : Option Addr} (h : TreeAt Nd w w.heap.size t p) : GoodP w p := fun a e => by
  subst e
  cases t with
  | e => cases h
  | n l k v g r =>
    obtain ⟨a', pl, pr, ha, hnd, -, -⟩ := h
    cases ha
    exact hN.lies hnd
theorem info_ptr14 : (Try.prog.info? 25).map (fun i => (i.zero, i.size, i.bytes)) = some (some (.pointer none), 1, 8) := by kernel_rfl
theorem size_ptr14 (W : World) : (sizeOf 25).run Try.prog W = .ok 1 W := by kernel_rfl
theorem zero_bool14 (W : World) : (zeroValue 4).run Try.prog W = .ok (.bool false) W := by kernel_rfl
theorem look14 (W : World) (r : Nat) (S : List (Option Addr)) (hr : W.heap[r]? = some (setO S)) (hg : ∀ q ∈ S, GoodP W q) (p : Option Addr) (h : GoodP W p) (B : Bool) (hB : decide (p ∈ S) = B) :
    (Instr.lookup 104 (.map (some r)) (.pointer p) false).run Try.prog W = .ok (.bool B) W := by
  obtain ⟨j, hj, hs⟩ := node_info
  exact look_ptr W Try.underlying104 Try.underlying25 hj hs (zero_bool14 W) r S hr hg p h B hB
theorem put14 (W : World) (r : Nat) (S : List (Option Addr)) (hr : W.heap[r]? = some (setO S)) (hg : ∀ q ∈ S, GoodP W q) (p : Option Addr) (h : GoodP W p) (hx : p ∉ S) :
    (Instr.mapUpdate 104 (.map (some r)) (.pointer p) (.bool true)).run Try.prog W = .ok () (W.putObj r (setO (S ++ [p]))) := by
  obtain ⟨j, hj, hs⟩ := node_info
  exact put_ptr W Try.underlying104 Try.underlying25 hj hs r S hr hg p h hx
/-- how big a tree is, by Size -/
theorem size_any14 (hN : NodeSays Nd) {W : World} {B : Nat} {t : Tr} {p : Option Addr} (h : TreeAt Nd W B t p) (h5 : t.size ≤ 5000) : Calls Try.prog 24 #[.pointer p] W fun e w' => e = .returned (nI t.size) ∧ Below W.heap.size W w' := by
  have := h.look.size hN
  rw [show K (BitVec.ofNat 64 t.size) = nI t.size from by show Value.int .i64 _ = _; rw [size_bits (Nat.le_trans h5 (by decide))]] at this
  exact this
end Go.Proofs.Ytifhnaelkjfmdab
