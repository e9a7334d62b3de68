/- Package avl, as landed: it answers what layer 14's laws lean on. -/
import Derived.Test.YtifhnaelkjfmdaaGPtrSet
import Derived.Test.YtifhnaelkjfmdaaGApart
import Derived.Test.YtifhnaelkjfmdaaGOwn
import Derived.Test.YtifhnaelkjfmdaaGCut
import Derived.Test.YtifhnaelkjfmdaaGHeldIn
import Derived.Test.YtifhnaelkjfmdaaJA
import Derived.Deep.Cut
import Derived.Shelf.Abstract
import Derived.Laws.OwnMore
import Derived.Test.YtifhnaelkjfmdaaGRound
import Derived.Test.YtifhnaelkjfmdaaJB
import Derived.BigRegionIn
import Derived.LoopNIn
import Derived.LoopIn
import Derived.Laws.EntriesVeiled
import Derived.Test.YtifhnaelkjfmdaaJC
import Derived.Test.YtifhnaelkjfmdaaGRuns
/- Layer 14, as landed: what goes over a tree's nodes in the order of its beads, each at its first place, with a set of those that it has been at. -/
namespace Go.Proofs.Ytifhnaelkjfmdaa
open Go.RowKit Go.Shelf Go.Proofs.Treem
attribute [local go_sem] Oper.semAt_some
set_option maxRecDepth 100000
variable {Nd : NdP}

/-- what is handed over: a place, a tree, and where its root lies -/
abbrev It14 := Nat × Tr × Addr
def enc14 (x : It14) : Array Value := #[nI x.1, .pointer (some x.2.2)]
def mine14 (t : TypeId) : Bool := t == 25
abbrev none14 (_ : TypeId) : Bool := false
def load14 (us : List (Tr × Option Addr)) : Nat := (us.map fun u => 2 * u.1.size + 1).sum
def ptrs14 (us : List (Tr × Option Addr)) : List Value := us.map fun u => .pointer u.2
def trees14 (us : List (Tr × Option Addr)) : List Tr := us.map fun u => u.1
def size14 (us : List (Tr × Option Addr)) : Nat := (us.map fun u => u.1.size).sum
theorem load14_len : ∀ us : List (Tr × Option Addr), us.length ≤ load14 us
  | [] => Nat.le_refl _
  | u :: us => by have := load14_len us; simp only [load14, List.map_cons, List.sum_cons, List.length_cons] at this ⊢; omega
theorem load14_cons (u : Tr × Option Addr) (us : List (Tr × Option Addr)) : load14 (u :: us) = 2 * u.1.size + 1 + load14 us := rfl
theorem size14_cons (t : Tr) (q : Option Addr) (us : List (Tr × Option Addr)) : size14 ((t, q) :: us) = t.size + size14 us := rfl
theorem trees14_cons (t : Tr) (q : Option Addr) (us : List (Tr × Option Addr)) : trees14 ((t, q) :: us) = t :: trees14 us := rfl
/-- a pointer leads to one tree -/
theorem TreeAt.uniq (hN : NodeSays Nd) {W : World} {B B' : Nat} : ∀ {t u : Tr} {p : Option Addr}, TreeAt Nd W B t p → TreeAt Nd W B' u p → t = u
  | .e, .e, _, _, _ => rfl
  | .e, .n .., _, h, ⟨_, _, _, e, _⟩ => by rw [show _ = none from h] at e; cases e
  | .n .., .e, _, ⟨_, _, _, e, _⟩, h => by rw [show _ = none from h] at e; cases e
  | .n l k v g r, .n l' k' v' g' r', p, ⟨a, pl, pr, e, h2, h3, h4⟩, ⟨a', pl', pr', e', h2', h3', h4'⟩ => by
    subst e
    cases e'
    have := hN.uniq h2 h2'
    injection this with e1 e2 e3 e4 e5 e6 e7
    subst e1 e2 e3 e4 e5
    rw [h3.uniq hN h3', h4.uniq hN h4']
/-- where the closure stands, as it lies: those at us are still to be gone by, the last one first -/
structure At14 (Nd : NdP) (w0 : World) (r B' : Nat) (J : List It14 → World → Prop) (S : List (Option Addr)) (us : List (Tr × Option Addr)) (pre : List It14) (v : Value) (w : World) : Prop where
  base : Below w0.heap.size w0 w
  been : w.heap[r]? = some (setO S)
  none : Option.none ∈ S
  good : ∀ q ∈ S, GoodP w0 q
  ow : w.ownsRow B' 25 1 v us.length (ptrs14 us.reverse)
  ls : ∀ u ∈ us, TreeAt Nd w0 w0.heap.size u.1 u.2
  j : J pre w
  ld : load14 us ≤ 10001
  sz : B' ≤ w.heap.size
  low : w0.heap.size ≤ B'
  rb : B' ≤ r
/-- .. and what it knows: as far as all that it handed over is right -/
structure Go14 (Nd : NdP) (f : Tr → Nat) (t0 : Tr) (w0 : World) (S : List (Option Addr)) (us : List (Tr × Option Addr)) (pre : List It14) (pl : Nat) : Prop where
  size : pl + size14 us = t0.size
  go : (∀ y ∈ pre, f y.2.1 = 0) → errF f t0 = errL f (trees14 us) ∧ placeF f t0 = pl + placeL f (trees14 us) ∧ ∀ q ∈ S, ∀ t, TreeAt Nd w0 w0.heap.size t q → Past f (trees14 us) t
/-- what is told of a node that is handed over -/
def Told14 (Nd : NdP) (f : Tr → Nat) (t0 : Tr) (w0 : World) (pre : List It14) (x : It14) (W : World) : Prop :=
  TreeAt Nd w0 w0.heap.size x.2.1 (some x.2.2) ∧ Below w0.heap.size w0 W ∧ x.1 + x.2.1.size ≤ 5000 ∧ ((∀ y ∈ pre, f y.2.1 = 0) → f x.2.1 ≠ 0 → errF f t0 = f x.2.1 ∧ placeF f t0 = x.1)
section
variable {f : Tr → Nat} {t0 : Tr} {w0 : World} {r B' pl : Nat} {J : List It14 → World → Prop} {S : List (Option Addr)} {us : List (Tr × Option Addr)} {pre : List It14} {v : Value} {w w' : World}
theorem At14.below (h : At14 Nd w0 r B' J S us pre v w) (hJ : Abide mine14 B' J) (hb : Below w.heap.size w w') : At14 Nd w0 r B' J S us pre v w' :=
  ⟨h.base.trans (hb.mono h.base.size), (hb.block r (Array.getElem?_eq_some_iff.1 h.been).1).trans h.been, h.none, h.good, owned_next h.ow hb, h.ls, hJ _ _ _ h.j (.of_below hb), h.ld, Nat.le_trans h.sz hb.size, h.low, h.rb⟩
theorem At14.goods (h : At14 Nd w0 r B' J S us pre v w) : ∀ q ∈ S, GoodP w q := fun q hq => (h.good q hq).below h.base
/-- the last one is taken off -/
theorem At14.pop {u : Tr × Option Addr} {A : Option Addr} {m n c : Nat} (h : At14 Nd w0 r B' J S (u :: us) pre (.slice A n c) w) (hm : us.length = m) (hn : m + 1 = n) : At14 Nd w0 r B' J S us pre (.slice A m c) w := by
  subst hm hn
  have ho := h.ow
  rw [List.reverse_cons, ptrs14, List.map_append] at ho
  have ht := owned_take ho us.length (by simp)
  rw [show us.length * 1 = (us.reverse.map fun u => Value.pointer u.2).length by simp, List.take_left] at ht
  exact ⟨h.base, h.been, h.none, h.good, ht, fun x hx => h.ls x (List.mem_cons_of_mem _ hx), h.j, by have := h.ld; rw [load14_cons] at this; omega, h.sz, h.low, h.rb⟩
/-- the last one, as it lies -/
theorem At14.top {u : Tr × Option Addr} {A : Option Addr} {n m c : Nat} (h : At14 Nd w0 r B' J S (u :: us) pre (.slice A n c) w) (hm : us.length = m) : ∃ ad, A = some ad ∧ w.cell? (ad.add m) = some (.pointer u.2) := by
  obtain ⟨A', c', e1, -, -, -⟩ := own_slice h.ow
  cases e1
  have ho := h.ow
  rw [List.reverse_cons, ptrs14, List.map_append] at ho
  obtain ⟨ad, e, _, hc⟩ := (Row.of_own ho) m (.pointer u.2) (by rw [List.getElem?_append_right (by simp [hm])]; simp [hm])
  exact ⟨ad, e, hc⟩
/-- a node is put into the set -/
theorem At14.put {p : Option Addr} (h : At14 Nd w0 r B' J S us pre v w) (hJ : Abide mine14 B' J) (hp : GoodP w0 p) : At14 Nd w0 r B' J (S ++ [p]) us pre v (w.putObj r (setO (S ++ [p]))) := by
  have hk : Kf mine14 B' w (w.putObj r (setO (S ++ [p]))) := Kf.putObj w r _ _ h.rb h.been rfl
  refine ⟨h.base.trans (hk.below.mono h.low), World.putObj_heap_same (Array.getElem?_eq_some_iff.1 h.been).1, List.mem_append_left _ h.none, fun q hq => ?_, h.ow.kept (grownBy_putObj' w r _) ?_, h.ls, hJ _ _ _ h.j (.of_kf hk), h.ld, Nat.le_trans h.sz hk.size, h.low, h.rb⟩
  · rcases List.mem_append.1 hq with hq | hq
    · exact h.good q hq
    · rw [List.mem_singleton.1 hq]; exact hp
  · by_cases hv : v.ownBlock = some r
    · exfalso
      rcases h.ow.2 with ⟨rfl, _⟩ | ⟨g, cap, cur, rfl, _, hg, _⟩
      · simp [Value.ownBlock] at hv
      · obtain rfl : g = r := by simpa [Value.ownBlock] using hv
        rw [h.been] at hg
        cases hg
    · exact .inr hv
/-- a node has been told -/
theorem At14.yielded {y : It14} (h : At14 Nd w0 r B' J S us pre v w) (hj : J (pre ++ [y]) w') (hk : Kf none14 w0.heap.size w w') (hf : KeepsFrom B' w w') : At14 Nd w0 r B' J S us (pre ++ [y]) v w' :=
  ⟨h.base.trans hk.below, hf.same r _ h.rb h.been rfl, h.none, h.good, hk.owned h.ow rfl, h.ls, hj, h.ld, Nat.le_trans h.sz hk.size, h.low, h.rb⟩
/-- both sides of a node are put on the row -/
theorem At14.push {tl tr : Tr} {pl pr : Option Addr} {tmp : Obj} {v1 : Value} {w1 : World} (h : At14 Nd w0 r B' J S us pre v w) (hJ : Abide mine14 B' J) (hl : TreeAt Nd w0 w0.heap.size tl pl) (hr : TreeAt Nd w0 w0.heap.size tr pr) (hd : load14 us + (2 * tl.size + 1) + (2 * tr.size + 1) ≤ 10001)
    (ho : w1.ownsRow B' 25 1 v1 (us.length + 2) (ptrs14 us.reverse ++ [.pointer pr, .pointer pl])) (hg : (w.alloc tmp).grownBy w1 v.ownBlock) : At14 Nd w0 r B' J S ((tl, pl) :: (tr, pr) :: us) pre v1 w1 := by
  have h1 := h.below hJ ((Below.refl w.heap.size w).alloc (Nat.le_refl _) tmp)
  have hk : Kf mine14 B' (w.alloc tmp) w1 := Kf.grown hg h1.ow rfl (Nat.le_refl _) h1.sz
  refine ⟨h1.base.trans (hk.below.mono h.low), ?_, h.none, h.good, ?_, ?_, hJ _ _ _ h1.j (.of_kf hk), by rw [load14_cons, load14_cons]; show 2 * tl.size + 1 + (2 * tr.size + 1 + load14 us) ≤ _; omega, Nat.le_trans h1.sz hk.size, h.low, h.rb⟩
  · refine (hg.block r (Array.getElem?_eq_some_iff.1 h1.been).1 (fun e => ?_)).trans h1.been
    rcases h.ow.2 with ⟨rfl, _⟩ | ⟨g, cap, cur, rfl, _, hg', _⟩
    · simp [Value.ownBlock] at e
    · obtain rfl : r = g := by simpa [Value.ownBlock] using e
      rw [h.been] at hg'
      cases hg'
  · simp only [List.reverse_cons, ptrs14, List.map_append, List.length_cons, List.append_assoc, List.map_cons, List.map_nil] at ho ⊢
    exact ho
  · intro u hu
    rcases List.mem_cons.1 hu with rfl | hu
    · exact hl
    · rcases List.mem_cons.1 hu with rfl | hu
      · exact hr
      · exact h.ls u hu
/-- the start -/
theorem Go14.start (f : Tr → Nat) (t0 : Tr) (w0 : World) (p : Option Addr) : Go14 Nd f t0 w0 [none] [(t0, p)] [] 0 := by
  refine ⟨by simp [size14], fun _ => ⟨(errL_one t0).symm, by rw [show trees14 [(t0, p)] = [t0] from rfl, placeL_one, Nat.zero_add], fun q hq t ht => ?_⟩⟩
  rw [List.mem_singleton.1 hq] at ht
  cases t with
  | e => exact ⟨[], [t0], rfl, fun _ => rfl, fun u hu => by cases hu⟩
  | n l k v g r => obtain ⟨_, _, _, e, _⟩ := ht; cases e
/-- a node where one has been -/
theorem Go14.again {t : Tr} {q : Option Addr} (h : Go14 Nd f t0 w0 S ((t, q) :: us) pre pl) (ht : TreeAt Nd w0 w0.heap.size t q) (hq : q ∈ S) : Go14 Nd f t0 w0 S us pre (pl + t.size) := by
  have hs := h.size
  rw [size14_cons] at hs
  refine ⟨by omega, fun hp => ?_⟩
  obtain ⟨h1, h2, h3⟩ := h.go hp
  rw [trees14_cons] at h1 h2 h3
  have hok := (h3 q hq t ht).again
  exact ⟨by rw [h1, errL_ok _ hok], by rw [h2, placeL_ok _ hok]; omega, fun q' hq' t' ht' => (h3 q' hq' t' ht').ok hok⟩
/-- a node that is right -/
theorem Go14.step (hN : NodeSays Nd) {l r : Tr} {k x g : BitVec 64} {a : Addr} {p1 p2 : Option Addr} (h : Go14 Nd f t0 w0 S ((.n l k x g r, some a) :: us) pre pl) (ht : TreeAt Nd w0 w0.heap.size (.n l k x g r) (some a)) :
    Go14 Nd f t0 w0 (S ++ [some a]) ((l, p1) :: (r, p2) :: us) (pre ++ [(pl, .n l k x g r, a)]) (pl + 1) := by
  have hs := h.size
  rw [size14_cons, Tr.size] at hs
  refine ⟨by rw [size14_cons, size14_cons]; omega, fun hp => ?_⟩
  have hf : f (.n l k x g r) = 0 := hp (pl, .n l k x g r, a) (List.mem_append_right _ (List.mem_singleton.2 rfl))
  obtain ⟨h1, h2, h3⟩ := h.go fun y hy => hp y (List.mem_append_left _ hy)
  rw [trees14_cons] at h1 h2 h3
  rw [trees14_cons, trees14_cons]
  refine ⟨by rw [h1, errL_yes _ hf], by rw [h2, placeL_yes _ hf]; omega, fun q' hq' t' ht' => ?_⟩
  rcases List.mem_append.1 hq' with hq' | hq'
  · exact (h3 q' hq' t' ht').down hf
  · rw [List.mem_singleton.1 hq'] at ht'
    rw [ht'.uniq hN ht]
    exact Past.first hf
theorem Go14.told {l r : Tr} {k x g : BitVec 64} {q : Option Addr} (h : Go14 Nd f t0 w0 S ((.n l k x g r, q) :: us) pre pl) (hp : ∀ y ∈ pre, f y.2.1 = 0) (hf : f (.n l k x g r) ≠ 0) : errF f t0 = f (.n l k x g r) ∧ placeF f t0 = pl := by
  obtain ⟨h1, h2, -⟩ := h.go hp
  rw [trees14_cons] at h1 h2
  exact ⟨by rw [h1, errL_no _ hf], by rw [h2, placeL_no _ hf]; rfl⟩
theorem Go14.done (h : Go14 Nd f t0 w0 S [] pre pl) (hp : ∀ y ∈ pre, f y.2.1 = 0) : errF f t0 = 0 := (h.go hp).1
end
theorem good_tree14 (hN : NodeSays Nd) {w : World} {t : Tr} {p : Option Addr} (h : TreeAt Nd w w.heap.size t p) : GoodP w p := fun a e => by
  subst e
  cases t with
  | e => cases h
  | n l k v g r =>
    obtain ⟨a', pl, pr, ha, hnd, -, -⟩ := h
    cases ha
    exact hN.lies hnd
theorem info_ptr14 : (Try.prog.info? 25).map (fun i => (i.zero, i.size, i.bytes)) = some (some (.pointer none), 1, 8) := by kernel_rfl
theorem size_ptr14 (W : World) : (sizeOf 25).run Try.prog W = .ok 1 W := by kernel_rfl
theorem zero_bool14 (W : World) : (zeroValue 4).run Try.prog W = .ok (.bool false) W := by kernel_rfl
theorem look14 (W : World) (r : Nat) (S : List (Option Addr)) (hr : W.heap[r]? = some (setO S)) (hg : ∀ q ∈ S, GoodP W q) (p : Option Addr) (h : GoodP W p) (B : Bool) (hB : decide (p ∈ S) = B) :
    (Instr.lookup 105 (.map (some r)) (.pointer p) false).run Try.prog W = .ok (.bool B) W := by
  obtain ⟨j, hj, hs⟩ := node_info
  exact look_ptr W Try.underlying105 Try.underlying25 hj hs (zero_bool14 W) r S hr hg p h B hB
theorem put14 (W : World) (r : Nat) (S : List (Option Addr)) (hr : W.heap[r]? = some (setO S)) (hg : ∀ q ∈ S, GoodP W q) (p : Option Addr) (h : GoodP W p) (hx : p ∉ S) :
    (Instr.mapUpdate 105 (.map (some r)) (.pointer p) (.bool true)).run Try.prog W = .ok () (W.putObj r (setO (S ++ [p]))) := by
  obtain ⟨j, hj, hs⟩ := node_info
  exact put_ptr W Try.underlying105 Try.underlying25 hj hs r S hr hg p h hx
/-- how big a tree is, by Size -/
theorem size_any14 (hN : NodeSays Nd) {W : World} {B : Nat} {t : Tr} {p : Option Addr} (h : TreeAt Nd W B t p) (h5 : t.size ≤ 5000) : Calls Try.prog 46 #[.pointer p] W fun e w' => e = .returned (nI t.size) ∧ Below W.heap.size W w' := by
  have := h.look.size hN
  rw [show K (BitVec.ofNat 64 t.size) = nI t.size from by show Value.int .i64 _ = _; rw [size_bits (Nat.le_trans h5 (by decide))]] at this
  exact this
end Go.Proofs.Ytifhnaelkjfmdaa
/- Package beads, as landed (what avl, rb, wb share): the walk over a tree's nodes, and what starts it. -/
namespace Go.Proofs.Ytifhnaelkjfmdaa
open Go.RowKit Go.Shelf Go.Proofs.Treem
attribute [local go_sem] Oper.semAt_some
set_option maxRecDepth 100000
variable {Nd : NdP}

set_option maxHeartbeats 8000000 in
theorem once_turns (hN : NodeSays Nd) (w0 : World) (f : Tr → Nat) (t : Tr) (p : Option Addr) (ht : TreeAt Nd w0 w0.heap.size t p) (h5 : t.size ≤ 5000) (gT : Nat) (w : World) (hb0 : Below w0.heap.size w0 w) (hP : Boxed w gT 25 (.pointer p)) (n : Nat) :
    SeqTurns mine14 Fence.wide n Try.prog 102 #[.pointer (some ⟨gT, 0, none⟩)] (fun x : It14 => #[nI x.1, .pointer (some x.2.2)]) (Kf none14 w0.heap.size) (Told14 Nd f t w0) (fun xs => (∀ y ∈ xs, f y.2.1 = 0) → errF f t = 0) w := fun l J Jx W hbW hJ hJx hY hJ0 => by
  obtain ⟨i0, hin, hz0, hz1, hz2⟩ := info_parts info_ptr14
  obtain ⟨B', hB'⟩ : ∃ b, W.heap.size = b := ⟨_, rfl⟩
  obtain ⟨r, hr⟩ : ∃ b, W.heap.size = b := ⟨_, rfl⟩
  have bw : Below w0.heap.size w0 W := hb0.trans (hbW.mono hb0.size)
  have xP : W.cell? ⟨gT, 0, none⟩ = some (.pointer p) := keep_cell hbW hP.cell
  have hgT : gT < W.heap.size := Nat.lt_of_lt_of_le hP.lt hbW.size
  have gnone : ∀ V, GoodP V none := fun V a e => by cases e
  obtain ⟨W1, hW1⟩ : ∃ W1, (W.alloc (.map #[] 0)).putObj r (setO [none]) = W1 := ⟨_, rfl⟩
  have hm0 : (W.alloc (.map #[] 0)).heap[r]? = some (setO []) := hr ▸ World.alloc_heap_new W _
  have hput : (Instr.mapUpdate 105 (.map (some W.heap.size)) (.pointer none) (.bool true)).run Try.prog (W.alloc (.map #[] 0)) = .ok () W1 := by
    rw [hr, ← hW1]
    exact put14 _ r [] hm0 (fun q hq => by cases hq) none (gnone _) (by simp)
  have hmm := @run_makeMap Try.prog
  have ha : Below W.heap.size W (W.alloc (.map #[] 0)) := (Below.refl _ W).alloc (Nat.le_refl _) _
  have b1 : Below W.heap.size W W1 := by
    have hk : Kf (fun _ => false) r (W.alloc (.map #[] 0)) ((W.alloc (.map #[] 0)).putObj r (setO [none])) := Kf.putObj _ r _ _ (Nat.le_refl _) hm0 rfl
    rw [hW1] at hk
    exact ha.trans (hr ▸ hk.below)
  have been1 : W1.heap[r]? = some (setO [none]) := hW1 ▸ World.putObj_heap_same (Array.getElem?_eq_some_iff.1 hm0).1
  have xP1 : W1.cell? ⟨gT, 0, none⟩ = some (.pointer p) := keep_cell b1 xP
  obtain ⟨W2, hW2⟩ : ∃ W2, W1.alloc (.cells #[.pointer p] 25) = W2 := ⟨_, rfl⟩
  obtain ⟨gO, hgO⟩ : ∃ g, W1.heap.size = g := ⟨_, rfl⟩
  have b2 : Below W1.heap.size W1 W2 := hW2 ▸ (Below.refl _ W1).alloc (Nat.le_refl _) _
  have ow2 : W2.ownsRow B' 25 1 (.slice (some ⟨gO, 0, none⟩) 1 1) 1 [.pointer p] := hgO ▸ hW2 ▸ World.ownsRow_lit W1 #[.pointer p] 1 (hB' ▸ b1.size) (by decide) rfl
  rw [hB'] at hJ hJx hY
  have h1 : At14 Nd w0 r B' J [none] [(t, p)] [] (.slice (some ⟨gO, 0, none⟩) 1 1) W2 :=
    ⟨bw.trans ((Below.after b1 b2).mono bw.size), (b2.block r (Array.getElem?_eq_some_iff.1 been1).1).trans been1, List.mem_singleton.2 rfl, (fun q hq => by rw [List.mem_singleton.1 hq]; exact gnone _), ow2, (fun u hu => by rw [List.mem_singleton.1 hu]; exact ht), hJ _ _ _ hJ0 (.of_below (Below.after b1 b2)), by show 2 * t.size + 1 + 0 ≤ _; omega, hB' ▸ (Below.after b1 b2).size, hB' ▸ bw.size, by omega⟩
  have H1 := Lib.hid h1
  have G1 : Hid (Go14 Nd f t w0 [none] [(t, p)] [] 0) := Go14.start f t w0 p
  have H5000 := Lib.hid h5
  obtain ⟨mu, hmu⟩ := least_of (α := Value × Value × World) (fun m q => ∃ (S : List (Option Addr)) (us : List (Tr × Option Addr)) (pre : List It14) (pl : Nat), m = load14 us ∧ q.1 = nI pl ∧ At14 Nd w0 r B' J S us pre q.2.1 q.2.2 ∧ Go14 Nd f t w0 S us pre pl)
  have hmu' := Lib.hid hmu
  have HW1 := Lib.hid hW1
  have HW2 := Lib.hid hW2
  have HR := Lib.hid hr
  have HO := Lib.hid hgO
  have hN' := Lib.hid hN
  have hJ' := Lib.hid hJ
  have hY' := Lib.hid hY
  clear hmu hW1 hW2 hr hgO hN hJ hJx hY h1 bw b1 b2 ow2 been1 ha hm0 hJ0 hB' ht h5 hb0 hP hbW gnone hgT
  refine callsIn_of_wp Try.func102 rfl trivial ?_ rfl
  simp only [Try.ntmps102, List.size_toArray, List.length_cons, List.length_nil, Nat.reduceAdd, Nat.reduceSub, Array.replicate_succ, Array.replicate_zero, List.push_toArray, List.append_toArray, List.nil_append, List.cons_append]
  refine wpIn_wide.2 ?_
  go_upto_region 2 with (fail)
  clear hput hmm xP
  rw [HR.out]
  go_wp2_with fail
  rw [HW2.out, HO.out]
  clear xP1
  go_loopw [3, 5] (fun x v wr => ∃ (m : Nat) (S : List (Option Addr)) (us : List (Tr × Option Addr)) (pre : List It14) (pl : Nat), m = load14 us ∧ x = nI pl ∧ At14 Nd w0 r B' J S us pre v wr ∧ Go14 Nd f t w0 S us pre pl) (fun x v wr => mu (x, v, wr))
  case atStart => exact ⟨_, _, _, _, 0, rfl, rfl, H1.out, G1.out⟩
  case round =>
    clear H1 G1
    obtain ⟨m, hm⟩ := hrel
    obtain ⟨⟨S, us, pre, pl, em, ex, h3, G3⟩, -⟩ := hmu'.out (_, _, wr) m hm
    simp only at h3 ex
    subst ex
    have G3 := Lib.hid G3
    obtain ⟨A, c, rfl, hcn, -, -⟩ := own_slice h3.ow
    cases us with
    | nil =>
      have H3 := Lib.hid h3
      clear h3 hm em hcn
      go_wp2_with fail
      go_end0
      exact ⟨⟨_, rfl⟩, .inl ⟨pre, G3.out.done, H3.out.j⟩⟩
    | cons u us =>
      obtain ⟨tn, q⟩ := u
      obtain ⟨mm, hmm⟩ : ∃ n, us.length = n := ⟨_, rfl⟩
      obtain ⟨nn, hnn⟩ : ∃ n, mm + 1 = n := ⟨_, rfl⟩
      have hld := h3.ld
      have hfew := load14_len us
      rw [hmm] at hfew
      rw [load14_cons] at hld em
      simp only at hld em
      have d5 : mm ≤ 10001 := by omega
      obtain ⟨ad, rfl, g0⟩ := h3.top hmm
      have htn : TreeAt Nd w0 w0.heap.size tn q := h3.ls _ (List.mem_cons_self ..)
      have gq0 : GoodP w0 q := good_tree14 hN'.out htn
      have gq : GoodP wr q := gq0.below h3.base
      rw [List.length_cons, hmm, hnn] at h3 hcn em ⊢
      have e1 : wrap64 ((nn : Int) - 1) = (mm : Int) := by unfold wrap64; omega
      have d1 : decide ((0 : Int) < (nn : Int)) = true := decide_eq_true (by omega)
      have d2 : 0 < nn := by omega
      have hix : mm < nn := by omega
      have ct : ∀ W, (Instr.slice 94 (.slice (some ad) nn c) none (some (.int .i64 (mm : Int))) none).run Try.prog W = .ok (.slice (some ad) mm c) W := cut_to Try.underlying94 size_ptr14 (some ad) nn c mm _ rfl (by omega)
      have hnS : none ∈ S := h3.none
      obtain ⟨B, hB⟩ : ∃ b, decide (q ∈ S) = b := ⟨_, rfl⟩
      have lk := look14 wr r S h3.been h3.goods q gq B hB
      have H4 := Lib.hid (h3.pop hmm hnn)
      have hnn' := Lib.hid hnn
      have hmm' := Lib.hid hmm
      have em' := Lib.hid em
      have htn' := Lib.hid htn
      have hld' := Lib.hid hld
      have hB' := Lib.hid hB
      have gq' := Lib.hid gq
      have gq0' := Lib.hid gq0
      have hnS' := Lib.hid hnS
      clear h3 hm em hcn hnn hmm htn hld hfew hB gq gq0 hnS
      cases B with
      | true =>
        have hq : q ∈ S := of_decide_eq_true hB'.out
        have G5 := Lib.hid (G3.out.again htn'.out hq)
        have hs5 := G5.out.size
        have h50 := H5000.out
        have e5 : wrap64 ((pl : Int) + (tn.size : Int)) = ((pl + tn.size : Nat) : Int) := by unfold wrap64; omega
        have cZ : Hid (Calls Try.prog 46 #[.pointer q] wr fun e w' => e = .returned (nI tn.size) ∧ Below wr.heap.size wr w') := size_any14 hN'.out (htn'.out.next hN'.out H4.out.base) (by omega)
        obtain ⟨sz, hsz⟩ : ∃ s, tn.size = s := ⟨_, rfl⟩
        have hsz' := Lib.hid hsz
        rw [hsz] at e5 cZ
        clear hs5 h50 hq hsz
        go_wp2_with fail
        refine cZ.out.mono ?_
        rintro e w5 ⟨rfl, hb5⟩
        have H5 := Lib.hid (H4.out.below hJ'.out hb5)
        clear hb5 cZ
        have hm := Lib.hid (hmu'.out (nI (pl + tn.size), .slice (some ad) mm c, w5) _ ⟨_, _, _, pl + tn.size, rfl, rfl, H5.out, G5.out⟩)
        rw [hsz'.out] at hm
        go_wp2_with fail
        go_roundw
        case rel => rw [e5]; exact ⟨_, (hm.out).1⟩
        case measure =>
          rw [e5]
          have h1 : mu (.int .i64 ((pl + sz : Nat) : Int), .slice (some ad) mm c, w5) ≤ _ := hm.out.2
          have h2 := em'.out
          omega
      | false =>
        have hq : q ∉ S := of_decide_eq_false hB'.out
        have hp := put14 wr r S H4.out.been H4.out.goods q gq'.out hq
        have H5 := Lib.hid (H4.out.put (p := q) hJ'.out gq0'.out)
        obtain ⟨wb, hwb⟩ : ∃ wb, wr.putObj r (setO (S ++ [q])) = wb := ⟨_, rfl⟩
        rw [hwb] at hp H5
        clear hwb H4
        cases tn with
        | e =>
          obtain rfl : q = none := htn'.out
          exact absurd hnS'.out hq
        | n tl k x g tr =>
          obtain ⟨a, pL, pr, rfl, hnd, hl, hr⟩ := htn'.out
          have G6 := Lib.hid (Go14.step (p1 := pL) (p2 := pr) hN'.out G3.out htn'.out)
          have hs5 := G3.out.size
          rw [size14_cons, Tr.size] at hs5
          have h50 := H5000.out
          have hTold : Told14 Nd f t w0 pre (pl, .n tl k x g tr, a) wb := ⟨htn'.out, H5.out.base, by show pl + (1 + tl.size + tr.size) ≤ 5000; omega, G3.out.told⟩
          have e5 : wrap64 ((pl : Int) + 1) = ((pl + 1 : Nat) : Int) := by unfold wrap64; omega
          clear hs5 h50
          obtain ⟨fnY, tmY, asY, bdY, hyv, hR⟩ := round_any (m' := 0) (show YieldAt _ _ _ _ #[.int .i64 (pl : Int), .pointer (some a)] wb _ from hY'.out pre (pl, .n tl k x g tr, a) wb H5.out.j hTold)
          have hR' := Lib.hid hR
          have hnd' := Lib.hid hnd
          have hl' := Lib.hid hl
          have hr' := Lib.hid hr
          have hsz : Hid (Tr.size (.n tl k x g tr) = 1 + tl.size + tr.size) := rfl
          rw [hsz.out] at em' hld'
          clear hR hTold hnd hl hr hsz hq
          go_upto_region 10 with (fail)
          refine (wpIn_wide (n := 0)).1 ?_
          gi_wp2
          refine ⟨rfl, ?_⟩
          refine hR'.out.mono ?_
          clear hR' hyv hp lk g0
          rintro e wy ⟨⟨rfl, hj, hk⟩ | ⟨rfl, hx⟩, hf⟩
          · have HY := Lib.hid (H5.out.yielded hj hk hf)
            have bY := HY.out.base
            have cR : Hid (Calls Try.prog 31 #[.pointer (some a)] wy fun e w' => e = .returned (.pointer pr) ∧ wy = w') := hN'.out.right wy w0.heap.size a _ (hN'.out.next hnd'.out bY)
            have cL : Hid (Calls Try.prog 30 #[.pointer (some a)] wy fun e w' => e = .returned (.pointer pL) ∧ wy = w') := hN'.out.left wy w0.heap.size a _ (hN'.out.next hnd'.out bY)
            have hsl : wy.ownsRow B' 25 1 (.slice (some ad) mm c) mm (ptrs14 us.reverse) := hmm'.out ▸ HY.out.ow
            have hby : B' ≤ wy.heap.size := HY.out.sz
            clear hj hk hf bY
            gi_wp2
            go_wp2_with fail
            refine cR.out.mono ?_
            rintro e w' ⟨rfl, rfl⟩
            go_wp2_with fail
            refine cL.out.mono ?_
            rintro e w' ⟨rfl, rfl⟩
            go_wp2_with (
              (at_builtin
               refine wpList_append_own _ rfl _ _ 94 rfl B' 25 i0 (.pointer none) 1 8 Try.underlying94 hin hz0 hz1 hz2 rfl (by decide) (.slice (some ad) mm c) mm (ptrs14 us.reverse) rfl (hsl.alloc _) ⟨wy.heap.size, 0, none⟩ 2 2 [.pointer pr, .pointer pL] rfl rfl (fun j u hu => ((Has.new wy 25 #[.pointer pr, .pointer pL]).row.at_ hu).2) (by simp [Value.oneCell']) (by unfold maxLen; omega) (by omega) (by simp; omega) ?_
               intro v2 w4 hown' hgrow _
               obtain ⟨g', cap', rfl⟩ := ownsRow_succ hown'
               have H9 := Lib.hid (HY.out.push (tl := tl) (tr := tr) (pl := pL) (pr := pr) hJ'.out hl'.out hr'.out (by have := hld'.out; omega) (by rw [hmm'.out]; exact hown') hgrow)
               have hm := Lib.hid (hmu'.out (nI (pl + 1), _, w4) _ ⟨_, _, _, pl + 1, rfl, rfl, H9.out, G6.out⟩)))
            go_roundw
            case rel => exact ⟨_, (hm.out).1⟩
            case measure =>
              have h1 := hm.out.2
              have h2 := em'.out
              rw [load14_cons, load14_cons, show nI (pl + 1) = Value.int .i64 ((pl : Int) + 1) from rfl] at h1
              simp only at h1
              omega
          · have hx' := Lib.hid hx
            clear hx
            gi_wp2
            go_wp2_with fail
            exact bodyPost_ret (results_none rfl _ _ _) rfl ⟨⟨_, rfl⟩, .inr ⟨_, hx'.out⟩⟩
set_option maxHeartbeats 1000000 in
theorem once_any (p : Option Addr) (w : World) : Calls Try.prog 75 #[.pointer p] w fun e w' =>
    e = .returned (.func (.func 102) #[] #[.pointer (some ⟨w.heap.size, 0, none⟩)]) ∧ w.alloc (.cells #[.pointer p] 25) = w' := by
  go_enter Try.func75, Try.ntmps75
  go_wp2
  go_ret
  exact ⟨rfl, rfl⟩
end Go.Proofs.Ytifhnaelkjfmdaa
/- Package avl, as landed: Check, by what its two closures say of a node. -/
namespace Go.Proofs.Ytifhnaelkjfmdaa
open Go.RowKit Go.Shelf Go.Proofs.Treem
attribute [local go_sem] Oper.semAt_some
set_option maxRecDepth 100000
variable {Nd : NdP}

theorem results14 {P : Program} {fn : Func} {p q : Tmp} {t u : TypeId} (h : fn.results = #[.cell p t, .cell q u]) (tmps : Array Value) (w : World) (gp gq : Nat) (x y : Value)
    (hp : tmps.getD p undef = .pointer (some ⟨gp, 0, none⟩)) (hq : tmps.getD q undef = .pointer (some ⟨gq, 0, none⟩)) (lp : (loadVar t ⟨gp, 0, none⟩).run P w = .ok x w) (lq : (loadVar u ⟨gq, 0, none⟩).run P w = .ok y w) :
    (results fn tmps).run P w = .ok (.tuple #[x, y]) w := by
  have hp' : tmps[p]?.getD undef = .pointer (some ⟨gp, 0, none⟩) := by simpa using hp
  have hq' : tmps[q]?.getD undef = .pointer (some ⟨gq, 0, none⟩) := by simpa using hq
  simp [results, h, hp', hq', asAddr, Sem.run_bind, Result.andThen, lp, lq]
/-- a store of what lies there changes nothing -/
theorem set_same14 {W : World} {g : Nat} {t : TypeId} {v : Value} (h : Boxed W g t v) : W.setCell ⟨g, 0, none⟩ v = W := by
  have h0 : W.heap[g]? = some (.cells #[v] t (0, 0)) := h
  obtain ⟨hlt, hg⟩ := Array.getElem?_eq_some_iff.1 h0
  have : (W.setCell ⟨g, 0, none⟩ v).heap = W.heap := by
    apply Array.ext_getElem?
    intro i
    simp only [World.setCell, Array.getElem?_modify]
    by_cases e : g = i
    · subst e
      rw [if_pos rfl, h0]
      simp
    · rw [if_neg e]
  cases W
  simp only [World.setCell] at this ⊢
  rw [this]
theorem load_int14 (w : World) (a : Addr) (x : Value) (h : w.cell? a = some x) : (loadVar 3 a).run Try.prog w = .ok x w := by
  simp [loadVar, h]
theorem load_errno14 (w : World) (a : Addr) (x : Value) (h : w.cell? a = some x) : (loadVar 27 a).run Try.prog w = .ok x w := by
  simp [loadVar, h]
theorem keeps_below14 {W W' : World} (h : Below W.heap.size W W') : KeepsOthers W W' := ⟨h.size, fun k _ hk _ => (h.block k (Array.getElem?_eq_some_iff.1 hk).1).trans hk⟩
theorem keeps_drew14 (W : World) : KeepsOthers W W.drew := ⟨Nat.le_refl _, fun _ _ h _ => h⟩
/-- what is asked of a node, in order -/
abbrev wants14 : List Value := [.func (.func 103) #[] #[], .int .i64 140, .func (.func 105) #[] #[], .int .i64 8]
theorem wants_any (w : World) : Calls Try.prog 81 #[] w fun e w' => e = .returned (.slice (some ⟨w.heap.size, 0, none⟩) 2 2) ∧ w.alloc (.cells #[.func (.func 103) #[] #[], .int .i64 140, .func (.func 105) #[] #[], .int .i64 8] 81) = w' := by
  go_enter Try.func81, Try.ntmps81
  go_wp2
  go_ret
  exact ⟨rfl, rfl⟩

set_option maxHeartbeats 8000000 in
theorem check14_any (hN : NodeSays Nd) (f : Tr → Nat) (m1 m2 : Tr → Bool)
    (c1 : ∀ (W : World) (t : Tr) (p : Option Addr), TreeAt Nd W W.heap.size t p → Calls Try.prog 103 #[.pointer p] W fun e w' => e = .returned (.bool (m1 t)) ∧ Below W.heap.size W w')
    (c2 : ∀ (W : World) (t : Tr) (p : Option Addr), TreeAt Nd W W.heap.size t p → Calls Try.prog 105 #[.pointer p] W fun e w' => e = .returned (.bool (m2 t)) ∧ Below W.heap.size W w')
    (hf : ∀ l k v g r, f (.n l k v g r) = if m1 (.n l k v g r) = true then 140 else if m2 (.n l k v g r) = true then 8 else 0)
    (w : World) (t : Tr) (p : Option Addr) (ht : TreeAt Nd w w.heap.size t p) (h5 : t.size ≤ 5000) : Calls Try.prog 35 #[.pointer p] w fun e w' => e = .returned (.tuple #[nI (placeF f t), nI (errF f t)]) ∧ Below w.heap.size w w' := by
  obtain ⟨gI, hgI⟩ : ∃ g, w.heap.size = g := ⟨_, rfl⟩
  obtain ⟨gE, hgE⟩ : ∃ g, w.heap.size + 1 = g := ⟨_, rfl⟩
  obtain ⟨Wa, hWa⟩ : ∃ W, (w.alloc (.cells #[.int .i64 0] 3)).alloc (.cells #[.int .i64 0] 27) = W := ⟨_, rfl⟩
  have bI : Boxed Wa gI 3 (.int .i64 0) := hgI ▸ hWa ▸ (Boxed.new w _ _).alloc _
  have bE : Boxed Wa gE 27 (.int .i64 0) := by
    have := Boxed.new (w.alloc (.cells #[.int .i64 0] 3)) 27 (.int .i64 0)
    rw [World.size_alloc, hgE, hWa] at this
    exact this
  have ba : Below w.heap.size w Wa := hWa ▸ ((Below.refl _ w).alloc (Nat.le_refl _) _).alloc (by simp) _
  have cZ : Hid (Calls Try.prog 46 #[.pointer p] Wa fun e w' => e = .returned (nI t.size) ∧ Below Wa.heap.size Wa w') := size_any14 hN (ht.after hN ba) h5
  have cS : Hid (∀ (gT : Nat) (W : World), Below w.heap.size w W → Boxed W gT 25 (.pointer p) → ∀ n, SeqTurns mine14 Fence.wide n Try.prog 102 #[.pointer (some ⟨gT, 0, none⟩)] (fun x : It14 => #[nI x.1, .pointer (some x.2.2)]) (Kf none14 w.heap.size) (Told14 Nd f t w) (fun xs => (∀ y ∈ xs, f y.2.1 = 0) → errF f t = 0) W) :=
    fun gT W hb h2 n => once_turns hN w f t p ht h5 gT W hb h2 n
  obtain ⟨sz, hsz⟩ : ∃ s, t.size = s := ⟨_, rfl⟩
  have hall : Hid (errF f t = 0 → placeF f t = sz) := fun h => hsz ▸ placeF_all t h
  rw [hsz] at cZ
  have C1 := Lib.hid c1
  have C2 := Lib.hid c2
  have HF := Lib.hid hf
  have HWa := Lib.hid hWa
  have HI := Lib.hid hgI
  have HE := Lib.hid hgE
  have ba' := Lib.hid ba
  have bI' := Lib.hid bI
  have bE' := Lib.hid bE
  have hN' := Lib.hid hN
  clear hWa hgI hgE ba bI bE hN ht h5 c1 c2 hf hsz
  refine (callsIn_wide (n := 9)).1 ?_
  refine callsIn_of_wp_marks Try.func35 rfl trivial ?_ rfl
  simp only [Try.ntmps35, List.size_toArray, List.length_cons, List.length_nil, Nat.reduceAdd, Nat.reduceSub, Array.replicate_succ, Array.replicate_zero, List.push_toArray, List.append_toArray, List.nil_append, List.cons_append]
  refine wpIn_wide.2 ?_
  go_upto_region 1 with (fail)
  rw [HWa.out, HE.out, HI.out]
  go_step3
  go_wp2_with fail
  refine cZ.out.mono ?_
  rintro e W1 ⟨rfl, hb⟩
  have b1 := Lib.hid (Below.after ba'.out hb)
  have i1 : Boxed W1 gI 3 (.int .i64 0) := Has.next (show Has _ _ _ _ from bI'.out) hb
  have e1 : Boxed W1 gE 27 (.int .i64 0) := Has.next (show Has _ _ _ _ from bE'.out) hb
  have gIE : gI ≠ gE := by have := HI.out; have := HE.out; omega
  have xI := i1.cell
  have fI := i1.frozen
  obtain ⟨W2, hW2⟩ : ∃ W, W1.setCell ⟨gI, 0, none⟩ (nI sz) = W := ⟨_, rfl⟩
  have i2 : Boxed W2 gI 3 (nI sz) := hW2 ▸ i1.set _
  have e2 : Boxed W2 gE 27 (.int .i64 0) := hW2 ▸ Has.far (show Has _ _ _ _ from e1) (p := ⟨gI, 0, none⟩) (Ne.symm gIE) _
  have b2 : Below w.heap.size w W2 := hW2 ▸ b1.out.setCell (p := ⟨gI, 0, none⟩) (by have := HI.out; show w.heap.size ≤ gI; omega) _
  have I2 := Lib.hid i2
  have E2 := Lib.hid e2
  have B2 := Lib.hid b2
  have HW2 := Lib.hid hW2
  have GIE := Lib.hid gIE
  clear hb i1 e1 bI' bE' cZ b1 i2 e2 b2 hW2 gIE
  go_upto_region 2 with (fail)
  rw [HW2.out]
  clear xI fI
  go_wp2_with fail
  refine (wants_any W2).mono ?_
  rintro e W3 ⟨rfl, hW3⟩
  obtain ⟨gW, hgW⟩ : ∃ g, W2.heap.size = g := ⟨_, rfl⟩
  rw [hgW]
  have w3 : Has W3 gW 81 #[.func (.func 103) #[] #[], .int .i64 140, .func (.func 105) #[] #[], .int .i64 8] := hgW ▸ hW3 ▸ Has.new W2 _ _
  have b23 : Below W2.heap.size W2 W3 := hW3 ▸ (Below.refl _ W2).alloc (Nat.le_refl _) _
  obtain ⟨gA, hgA⟩ : ∃ g, W3.heap.size = g := ⟨_, rfl⟩
  obtain ⟨W4, hW4⟩ : ∃ W, W3.alloc (.cells #[.slice (some ⟨gW, 0, none⟩) 2 2] 78) = W := ⟨_, rfl⟩
  have b34 : Below W3.heap.size W3 W4 := hW4 ▸ (Below.refl _ W3).alloc (Nat.le_refl _) _
  have b24 := Below.after b23 b34
  have a4 : Boxed W4 gA 78 (.slice (some ⟨gW, 0, none⟩) 2 2) := hgA ▸ hW4 ▸ Boxed.new W3 _ _
  have I4 : Hid (Boxed W4 gI 3 (nI sz)) := Has.next (show Has _ _ _ _ from I2.out) b24
  have E4 : Hid (Boxed W4 gE 27 (.int .i64 0)) := Has.next (show Has _ _ _ _ from E2.out) b24
  have A4 := Lib.hid a4
  have V4 := Lib.hid (Has.next w3 b34)
  have B4 := Lib.hid (Below.after B2.out b24)
  have HW4 := Lib.hid hW4
  have HA := Lib.hid hgA
  clear hW3 hgW hgA hW4 b23 b34 b24 w3 a4 I2 E2 B2 HW2
  go_upto_region 3 with (fail)
  rw [HW4.out, HA.out]
  go_wp2_with fail
  go_step3
  go_wp2_with fail
  refine (once_any p W4).mono ?_
  rintro e W5 ⟨rfl, hW5⟩
  obtain ⟨gT, hgT⟩ : ∃ g, W4.heap.size = g := ⟨_, rfl⟩
  rw [hgT]
  have bN : Below W4.heap.size W4 W5 := hW5 ▸ (Below.refl _ W4).alloc (Nat.le_refl _) _
  have bT : Boxed W5 gT 25 (.pointer p) := hgT ▸ hW5 ▸ Boxed.new W4 _ _
  have i5 : Boxed W5 gI 3 (nI sz) := Has.next (show Has _ _ _ _ from I4.out) bN
  have e5 : Boxed W5 gE 27 (.int .i64 0) := Has.next (show Has _ _ _ _ from E4.out) bN
  have a5 : Boxed W5 gA 78 (.slice (some ⟨gW, 0, none⟩) 2 2) := Has.next (show Has _ _ _ _ from A4.out) bN
  have v5 := Has.next V4.out bN
  have hB5 : Below w.heap.size w W5 := Below.after B4.out bN
  have hseq := cS.out gT W5 hB5 bT
  clear hW5 hgT bN bT I4 E4 A4 V4 B4 cS HW4 HA
  go_wp2_with fail
  refine (wpIn_wide (n := 9)).1 ?_
  refine wpIn_rangeFunc_turns (α := It14) rfl (by omega) (gf := 102) (lb := #[.pointer (some ⟨gT, 0, none⟩)]) rfl trivial (enters_of Try.func102 (by kernel_rfl) rfl)
    (hseq _) Kf.trans (Kf.put hB5.size) (Below.refl _ _) (fun _ => rfl)
    (fun pre W => ((Boxed W gI 3 (nI sz) ∧ Boxed W gE 27 (.int .i64 0)) ∧ (Boxed W gA 78 (.slice (some ⟨gW, 0, none⟩) 2 2) ∧ Has W gW 81 wants14.toArray)) ∧ (∀ y ∈ pre, f y.2.1 = 0) ∧ Below w.heap.size w W)
    (fun c _ W => (c = .exit 0 ∧ Boxed W gI 3 (nI (placeF f t)) ∧ Boxed W gE 27 (nI (errF f t))) ∧ Below w.heap.size w W)
    (Abide.and (Abide.and (Abide.and (Abide.boxed _ _ _ (.inl rfl)) (Abide.boxed _ _ _ (.inl rfl))) (Abide.and (Abide.boxed _ _ _ (.inl rfl)) (fun s X Y hs ht => ht.keep _ _ hs (.inr ⟨_, _, _, rfl, rfl⟩)))) (Abide.and (fun _ _ _ h _ => h) (Abide.below hB5.size (Nat.le_refl _))))
    (fun c => Abide.and (fun s X Y hs ht => by obtain ⟨h1, h5, h6⟩ := hs; exact ⟨h1, ht.boxed h5 (.inl rfl), ht.boxed h6 (.inl rfl)⟩) (Abide.below hB5.size (Nat.le_refl _)))
    ⟨⟨⟨i5, e5⟩, a5, v5⟩, (fun y hy => by cases hy), hB5⟩
    (fun pre y a' W => TreeAt Nd w w.heap.size y.2.1 (some y.2.2) ∧ y.1 ≤ 5000 ∧ ((∀ y ∈ pre, f y.2.1 = 0) → f y.2.1 ≠ 0 → errF f t = f y.2.1 ∧ placeF f t = y.1) ∧ a' = { tmps := #[.pointer p, undef, .pointer (some ⟨gI, 0, none⟩), .pointer (some ⟨gE, 0, none⟩), .pointer (some ⟨gA, 0, none⟩), nI y.1, .pointer (some y.2.2), undef, undef, .pointer p, nI sz, .slice (some ⟨gW, 0, none⟩) 2 2, .pointer p, .func (.func 102) #[] #[.pointer (some ⟨gT, 0, none⟩)], nI y.1, .pointer (some y.2.2), undef, undef, undef, undef, undef, undef, undef, undef, undef, undef, undef, undef, undef, undef, undef, undef], defers := [] })
    (fun pre y a' _ X Y row hs hg hr => hs)
    ?assign ?body ?done ?stop
  case assign =>
    rintro L pre ⟨pl, tn, a⟩ U KK hI ⟨h1, h2, h3, h4⟩ hK
    have hK2 := Lib.hid (hK { tmps := #[.pointer p, undef, .pointer (some ⟨gI, 0, none⟩), .pointer (some ⟨gE, 0, none⟩), .pointer (some ⟨gA, 0, none⟩), nI pl, .pointer (some a), undef, undef, .pointer p, nI sz, .slice (some ⟨gW, 0, none⟩) 2 2, .pointer p, .func (.func 102) #[] #[.pointer (some ⟨gT, 0, none⟩)], nI pl, .pointer (some a), undef, undef, undef, undef, undef, undef, undef, undef, undef, undef, undef, undef, undef, undef, undef, undef], defers := [] } U ((KeepsOthers.refl _).from _) (Kf.refl _ _ U) hI ⟨h1, Nat.le_trans (Nat.le_add_right _ _) h3, h4, rfl⟩)
    clear hK hI h1 h2 h3 h4
    gi_wp2
    exact hK2.out
  case body =>
    rintro L pre ⟨pl, tn, a⟩ a' U hL _ ⟨⟨⟨bI, bE⟩, bA, bV⟩, hp, hb⟩ ⟨h1, h2, h3, rfl⟩
    have t0 := h1.after hN'.out hb
    have q1 := Lib.hid (fun V (h : Below U.heap.size U V) => C1.out V tn (some a) (t0.after hN'.out h))
    have q2 := Lib.hid (fun V (h : Below U.heap.size U V) => C2.out V tn (some a) (t0.after hN'.out h))
    have hfr : f tn = if m1 tn = true then 140 else if m2 tn = true then 8 else 0 := by
      cases tn with
      | e => cases h1
      | n l k v g r => exact HF.out l k v g r
    have hft := h3 hp
    obtain ⟨x1, hx1⟩ : ∃ b, m1 tn = b := ⟨_, rfl⟩
    obtain ⟨x2, hx2⟩ : ∃ b, m2 tn = b := ⟨_, rfl⟩
    rw [hx1] at q1
    rw [hx2] at q2
    rw [hx1, hx2] at hfr
    have HR := Lib.hid hfr
    have HT := Lib.hid hft
    have HP := Lib.hid hp
    have xA := bA.cell
    have bI' := Lib.hid bI
    have bE' := Lib.hid bE
    have bA' := Lib.hid bA
    have bV' := Lib.hid bV
    have hb' := Lib.hid hb
    have h2' := Lib.hid h2
    have gW0 : Hid (w.heap.size ≤ gI ∧ w.heap.size ≤ gE) := ⟨by have := HI.out; omega, by have := HE.out; omega⟩
    clear t0 hfr hft hp bI bE bA bV hb h1 h2 h3 hx1 hx2
    gi_wp2
    gi_loopw [18] (fun i wr => ((i = .int .i64 0) ∨ (i = .int .i64 1 ∧ x1 = false) ∨ (i = .int .i64 2 ∧ x1 = false ∧ x2 = false)) ∧ Below U.heap.size U wr) (fun i _ => 2 - (intOf i).toNat)
    case atStart => exact ⟨.inl rfl, Below.refl _ _⟩
    case round =>
      obtain ⟨hc, hbr⟩ := hrel
      have b0 := Lib.hid hbr
      have v0 := bV'.out.next hbr
      have y0 := v0.cell 0
      have y1 := v0.cell 1
      have y2 := v0.cell 2
      have y3 := v0.cell 3
      simp only [List.getElem?_toArray, List.getElem?_cons_zero, List.getElem?_cons_succ] at y0 y1 y2 y3
      clear hbr v0 xA
      rcases hc with rfl | ⟨rfl, rfl⟩ | ⟨rfl, rfl, rfl⟩
      · gi_wp2
        obtain ⟨gw, hgw⟩ : ∃ g, wr.heap.size = g := ⟨_, rfl⟩
        obtain ⟨W6, hW6⟩ : ∃ W, wr.alloc (.cells #[.func (.func 103) #[] #[], .int .i64 140] 81) = W := ⟨_, rfl⟩
        have n6 : Has W6 gw 81 #[.func (.func 103) #[] #[], .int .i64 140] := hgw ▸ hW6 ▸ Has.new wr _ _
        have b6 : Below U.heap.size U W6 := Below.after b0.out (hW6 ▸ (Below.refl _ wr).alloc (Nat.le_refl _) _)
        rw [hW6, hgw]
        have N6 := Lib.hid n6
        have B6 := Lib.hid b6
        clear hW6 n6 b6 y0 y1 y2 y3 hgw b0
        refine ⟨trivial, ?_⟩
        refine CallsIn.inRound L (callsIn_wide.2 ((q1.out W6 B6.out).mono ?_))
        rintro e U1 ⟨rfl, hb1⟩
        have n7 := N6.out.next hb1
        have b7 := Below.after B6.out hb1
        have B7 := Lib.hid b7
        clear B6 N6 hb1
        cases x1 with
        | true =>
          have i7 : Boxed U1 gI 3 (nI sz) := Has.next (show Has _ _ _ _ from bI'.out) b7
          have e7 : Boxed U1 gE 27 (.int .i64 0) := Has.next (show Has _ _ _ _ from bE'.out) b7
          have z0 := n7.cell 0
          have z1 := n7.cell 1
          simp only [List.getElem?_toArray, List.getElem?_cons_zero, List.getElem?_cons_succ] at z0 z1
          have xI := i7.cell
          have fI := i7.frozen
          have xE := e7.cell
          have fE := e7.frozen
          have a1 : gw ≠ gI := has_apart n7 (show Has _ _ _ _ from i7) (by decide)
          have a2 : gw ≠ gE := has_apart n7 (show Has _ _ _ _ from e7) (by decide)
          have a3 : gI ≠ gw := a1.symm
          have a4 : gE ≠ gw := a2.symm
          have a5 := GIE.out
          have a6 : gE ≠ gI := a5.symm
          have I7 := Lib.hid i7
          have E7 := Lib.hid e7
          clear i7 e7 b7 n7
          gi_wp2
          gi_region
          all_goals (
            gi_wp2
            have hfe : f tn = 140 := by have := HR.out; simpa using this
            have hq := HT.out (by rw [hfe]; decide)
            refine ⟨(((keeps_below14 B7.out).trans (KeepsOthers.setCell _ _ _)).trans ((KeepsOthers.setCell _ _ _).trans (keeps_drew14 _))).from _, ⟨rfl, ?_, ?_⟩, (((Below.after hb'.out B7.out).setCell (p := ⟨gI, 0, none⟩) gW0.out.1 _).setCell (p := ⟨gE, 0, none⟩) gW0.out.2 _).drew⟩
            · rw [hq.2]
              exact Has.far (show Has _ _ _ _ from I7.out.set (nI pl)) (p := ⟨gE, 0, none⟩) GIE.out _
            · rw [hq.1, hfe]
              have hy : Boxed (U1.setCell ⟨gI, 0, none⟩ (nI pl)) gE 27 (.int .i64 0) := Has.far (show Has _ _ _ _ from E7.out) (p := ⟨gI, 0, none⟩) (Ne.symm GIE.out) _
              exact hy.set _)
        | false =>
          clear b7 n7
          gi_wp2
          go_roundw
          case rel => exact ⟨.inr (.inl ⟨rfl, by simp⟩), B7.out⟩
          case measure => simp [intOf]
      · gi_wp2
        obtain ⟨gw, hgw⟩ : ∃ g, wr.heap.size = g := ⟨_, rfl⟩
        obtain ⟨W6, hW6⟩ : ∃ W, wr.alloc (.cells #[.func (.func 105) #[] #[], .int .i64 8] 81) = W := ⟨_, rfl⟩
        have n6 : Has W6 gw 81 #[.func (.func 105) #[] #[], .int .i64 8] := hgw ▸ hW6 ▸ Has.new wr _ _
        have b6 : Below U.heap.size U W6 := Below.after b0.out (hW6 ▸ (Below.refl _ wr).alloc (Nat.le_refl _) _)
        rw [hW6, hgw]
        have N6 := Lib.hid n6
        have B6 := Lib.hid b6
        clear hW6 n6 b6 y0 y1 y2 y3 hgw b0
        refine ⟨trivial, ?_⟩
        refine CallsIn.inRound L (callsIn_wide.2 ((q2.out W6 B6.out).mono ?_))
        rintro e U1 ⟨rfl, hb1⟩
        have n7 := N6.out.next hb1
        have b7 := Below.after B6.out hb1
        have B7 := Lib.hid b7
        clear B6 N6 hb1
        cases x2 with
        | true =>
          have i7 : Boxed U1 gI 3 (nI sz) := Has.next (show Has _ _ _ _ from bI'.out) b7
          have e7 : Boxed U1 gE 27 (.int .i64 0) := Has.next (show Has _ _ _ _ from bE'.out) b7
          have z0 := n7.cell 0
          have z1 := n7.cell 1
          simp only [List.getElem?_toArray, List.getElem?_cons_zero, List.getElem?_cons_succ] at z0 z1
          have xI := i7.cell
          have fI := i7.frozen
          have xE := e7.cell
          have fE := e7.frozen
          have a1 : gw ≠ gI := has_apart n7 (show Has _ _ _ _ from i7) (by decide)
          have a2 : gw ≠ gE := has_apart n7 (show Has _ _ _ _ from e7) (by decide)
          have a3 : gI ≠ gw := a1.symm
          have a4 : gE ≠ gw := a2.symm
          have a5 := GIE.out
          have a6 : gE ≠ gI := a5.symm
          have I7 := Lib.hid i7
          have E7 := Lib.hid e7
          clear i7 e7 b7 n7
          gi_wp2
          gi_region
          all_goals (
            gi_wp2
            have hfe : f tn = 8 := by have := HR.out; simpa using this
            have hq := HT.out (by rw [hfe]; decide)
            refine ⟨(((keeps_below14 B7.out).trans (KeepsOthers.setCell _ _ _)).trans ((KeepsOthers.setCell _ _ _).trans (keeps_drew14 _))).from _, ⟨rfl, ?_, ?_⟩, (((Below.after hb'.out B7.out).setCell (p := ⟨gI, 0, none⟩) gW0.out.1 _).setCell (p := ⟨gE, 0, none⟩) gW0.out.2 _).drew⟩
            · rw [hq.2]
              exact Has.far (show Has _ _ _ _ from I7.out.set (nI pl)) (p := ⟨gE, 0, none⟩) GIE.out _
            · rw [hq.1, hfe]
              have hy : Boxed (U1.setCell ⟨gI, 0, none⟩ (nI pl)) gE 27 (.int .i64 0) := Has.far (show Has _ _ _ _ from E7.out) (p := ⟨gI, 0, none⟩) (Ne.symm GIE.out) _
              exact hy.set _)
        | false =>
          clear b7 n7
          gi_wp2
          go_roundw
          case rel => exact ⟨.inr (.inr ⟨rfl, by simp, by simp⟩), B7.out⟩
          case measure => simp [intOf]
      · clear y0 y1 y2 y3
        gi_wp2
        have hfe : f tn = 0 := by have := HR.out; simpa using this
        refine ⟨(keeps_below14 b0.out).from _, Kf.of_below b0.out hb'.out.size, ⟨⟨Has.next (show Has _ _ _ _ from bI'.out) b0.out, Has.next (show Has _ _ _ _ from bE'.out) b0.out⟩, Has.next (show Has _ _ _ _ from bA'.out) b0.out, bV'.out.next b0.out⟩, ?_, Below.after hb'.out b0.out⟩
        intro y hy
        rcases List.mem_append.1 hy with hy | hy
        · exact HP.out y hy
        · rw [List.mem_singleton.1 hy]; exact hfe
  case done =>
    rintro D xs U hD hxs ⟨⟨⟨bI, bE⟩, -⟩, hp, hb⟩ hK
    have k1 := hxs hp
    have k2 := hall.out k1
    have xI := bI.cell
    have fI := bI.frozen
    have xE := bE.cell
    have fE := bE.frozen
    have sI := set_same14 bI
    have sE := set_same14 bE
    go_wp2_with fail
    go_region
    go_wp2_with fail
    dsimp only [Exit.noGoto]
    have hz : Has U gI 3 #[nI sz] := bI
    have hy : Has U gE 27 #[.int .i64 0] := bE
    have hz2 : Has (U.drew.putObj D (.deferred none)) gI 3 #[nI sz] := has_turned (B := 0) (show Has U.drew gI _ _ from hz) (grownBy_putObj' U.drew D _) (fun r e => by cases e; exact ⟨Nat.zero_le _, _, hK, rfl⟩)
    have hy2 : Has (U.drew.putObj D (.deferred none)) gE 27 #[.int .i64 0] := has_turned (B := 0) (show Has U.drew gE _ _ from hy) (grownBy_putObj' U.drew D _) (fun r e => by cases e; exact ⟨Nat.zero_le _, _, hK, rfl⟩)
    refine ⟨by simp, .inl ⟨_, _, rfl, run_takeDeferred (w := U.drew) hK, ?_⟩⟩
    exact ⟨_, results14 rfl _ _ gI gE _ _ rfl rfl (load_int14 _ _ _ (hz2.cell 0)) (load_errno14 _ _ _ (hy2.cell 0)), by rw [k1, k2]; rfl, hb.drew.trans (belowK_b (w := w) (Nat.le_refl _) U.drew D _ _ (by have := hB5.size; omega) hK rfl rfl)⟩
  case stop =>
    rintro D c pre U hD ⟨⟨rfl, bI, bE⟩, hb⟩ hK
    obtain ⟨q1, hq1⟩ : ∃ x, placeF f t = x := ⟨_, rfl⟩
    obtain ⟨q2, hq2⟩ : ∃ x, errF f t = x := ⟨_, rfl⟩
    rw [hq1] at bI
    rw [hq2] at bE
    have xI := bI.cell
    have fI := bI.frozen
    have xE := bE.cell
    have fE := bE.frozen
    have sI := set_same14 bI
    have sE := set_same14 bE
    gi_wp2
    go_wp2_with fail
    go_region
    go_wp2_with fail
    dsimp only [Exit.noGoto]
    have hz : Has U gI 3 #[nI q1] := bI
    have hy : Has U gE 27 #[nI q2] := bE
    have hz2 : Has (U.drew.putObj D (.deferred none)) gI 3 #[nI q1] := has_turned (B := 0) (show Has U.drew gI _ _ from hz) (grownBy_putObj' U.drew D _) (fun r e => by cases e; exact ⟨Nat.zero_le _, _, hK, rfl⟩)
    have hy2 : Has (U.drew.putObj D (.deferred none)) gE 27 #[nI q2] := has_turned (B := 0) (show Has U.drew gE _ _ from hy) (grownBy_putObj' U.drew D _) (fun r e => by cases e; exact ⟨Nat.zero_le _, _, hK, rfl⟩)
    refine ⟨by simp, .inl ⟨_, _, rfl, run_takeDeferred (w := U.drew) hK, ?_⟩⟩
    exact ⟨_, results14 rfl _ _ gI gE _ _ rfl rfl (load_int14 _ _ _ (hz2.cell 0)) (load_errno14 _ _ _ (hy2.cell 0)), by rw [hq1, hq2]; rfl, hb.drew.trans (belowK_b (w := w) (Nat.le_refl _) U.drew D _ _ (by have := hB5.size; omega) hK rfl rfl)⟩
end Go.Proofs.Ytifhnaelkjfmdaa
/- Package avljoin, as landed: the higher tree, in which the pair and the lower one are put in. Made by wip/gen/layer15join.py. -/
namespace Go.Proofs.Ytifhnaelkjfmdaa
open Go.RowKit Go.Shelf Go.Proofs.Treem Go.Proofs.Cardm
attribute [local go_sem] Oper.semAt_some
set_option maxRecDepth 100000
variable {Nd : NdP}

/-- what a round keeps: all that lay ahead of the range, but two boxes -/
structure Kj (gT gR D : Nat) (U U' : World) : Prop where
  os : U'.os = U.os
  tape : U'.tape = U.tape
  output : U'.output = U.output
  size : U.heap.size ≤ U'.heap.size
  keep : ∀ k, k < D → k ≠ gT → k ≠ gR → U'.heap[k]? = U.heap[k]?
theorem Kj.refl (gT gR D : Nat) (U : World) : Kj gT gR D U U := ⟨rfl, rfl, rfl, Nat.le_refl _, fun _ _ _ _ => rfl⟩
theorem Kj.trans {gT gR D : Nat} {X Y Z : World} (h : Kj gT gR D X Y) (k : Kj gT gR D Y Z) : Kj gT gR D X Z :=
  ⟨k.os.trans h.os, k.tape.trans h.tape, k.output.trans h.output, Nat.le_trans h.size k.size, fun i h1 h2 h3 => (k.keep i h1 h2 h3).trans (h.keep i h1 h2 h3)⟩
theorem Kj.of_below {gT gR D : Nat} {U U' : World} (h : Below U.heap.size U U') (hD : D ≤ U.heap.size) : Kj gT gR D U U' := ⟨h.os, h.tape, h.output, h.size, fun k hk _ _ => h.block k (Nat.lt_of_lt_of_le hk hD)⟩
theorem Kj.grown {gT gR D : Nat} {U U' : World} {row : Option Nat} (h : U.grownBy U' row) (hD : D ≤ U.heap.size) (hr : ∀ r, row = some r → D ≤ r ∨ r = gT ∨ r = gR) : Kj gT gR D U U' :=
  ⟨h.os, h.tape, h.output, h.size, fun k hk h1 h2 => h.block k (Nat.lt_of_lt_of_le hk hD) (fun e => by rcases hr k e.symm with h | h | h <;> omega)⟩
theorem Kj.put {gT gR D : Nat} (U : World) (l : Nat) (o : Obj) (h : D ≤ l) : Kj gT gR D U (U.putObj l o) := by
  have hg := grownBy_putObj' U l o
  exact ⟨hg.os, hg.tape, hg.output, hg.size, fun k hk _ _ => by rw [World.putObj_heap_other (by omega)]⟩
theorem Kj.below {gT gR D n : Nat} {U U' : World} (h : Kj gT gR D U U') (h1 : n ≤ gT) (h2 : n ≤ gR) (h3 : n ≤ D) : Below n U U' := ⟨h.os, h.tape, h.output, h.size, fun k hk => h.keep k (by omega) (by omega) (by omega)⟩
theorem Kj.has {gT gR D g : Nat} {U U' : World} {t : TypeId} {cs : Array Value} (h : Kj gT gR D U U') (hh : Has U g t cs) (hg : g < D) (h1 : g ≠ gT) (h2 : g ≠ gR) : Has U' g t cs := (h.keep g hg h1 h2).trans hh
theorem Kj.wide {gT gR D E : Nat} {U U' : World} (h : Kj gT gR D U U') (hE : E ≤ D) : Kj gT gR E U U' := ⟨h.os, h.tape, h.output, h.size, fun k hk h1 h2 => h.keep k (by omega) h1 h2⟩
/-- where the two boxes are, and what is in them: the tree so far, the slice of the nodes above -/
structure JW (Nd : NdP) (gT gR D : Nat) (W6 : World) (A : Option Addr) (c m : Nat) (T : AT) (U : World) : Prop where
  tbox : Boxed U gT 25 (.pointer T.ptr)
  rbox : Boxed U gR 94 (.slice A m c)
  tree : Stand Nd U T
  kj : Kj gT gR D W6 U
section
variable {gT gR D c m : Nat} {A : Option Addr} {W6 U : World} {T : AT}
theorem JW.ne (h : JW Nd gT gR D W6 A c m T U) : gT ≠ gR := has_apart (show Has _ _ _ _ from h.tbox) (show Has _ _ _ _ from h.rbox) (by decide)
/-- all nodes that lay there do -/
theorem JW.nk0 (h : JW Nd gT gR D W6 A c m T U) (h1 : ∃ v, Boxed W6 gT 25 v) (h2 : ∃ v, Boxed W6 gR 94 v) (hD : W6.heap.size = D) : NK W6 U := by
  refine ⟨h.kj.size, fun k cs hk => (h.kj.keep k (hD ▸ (Array.getElem?_eq_some_iff.1 hk).1) (fun e => ?_) (fun e => ?_)).trans hk⟩
  · subst e
    obtain ⟨v, h1⟩ := h1
    rw [show W6.heap[k]? = _ from h1] at hk
    cases hk
  · subst e
    obtain ⟨v, h2⟩ := h2
    rw [show W6.heap[k]? = _ from h2] at hk
    cases hk
theorem JW.later (h : JW Nd gT gR D W6 A c m T U) (hN : NodeSays Nd) {U' : World} (hb : Below U.heap.size U U') (hD : D ≤ U.heap.size) : JW Nd gT gR D W6 A c m T U' :=
  ⟨Has.next (show Has _ _ _ _ from h.tbox) hb, Has.next (show Has _ _ _ _ from h.rbox) hb, h.tree.after hN hb, h.kj.trans (.of_below hb hD)⟩
theorem JW.turned (h : JW Nd gT gR D W6 A c m T U) (hN : NodeSays Nd) (hD : W6.heap.size = D) {U' : World} (ht : Turn (fun _ => false) D U U') : JW Nd gT gR D W6 A c m T U' := by
  refine ⟨ht.boxed h.tbox (.inl rfl), ht.boxed h.rbox (.inl rfl), Stand.kept hN ⟨ht.size, fun k cs hk => ht.keep k _ hk (.inr ⟨_, _, _, rfl, rfl⟩)⟩ h.tree, h.kj.trans ⟨ht.os, ht.tape, ht.output, ht.size, fun k hk _ _ => ?_⟩⟩
  have hlt : k < U.heap.size := by have := h.kj.size; omega
  rw [Array.getElem?_eq_getElem hlt]
  exact ht.keep k _ (Array.getElem?_eq_getElem hlt) (.inl hk)
/-- a box of another kind is written: all nodes are kept -/
theorem nk_set {g : Nat} {t : TypeId} {v : Value} (h : Boxed U g t v) (ht : t ≠ 77) (u : Value) : NK U (U.setCell ⟨g, 0, none⟩ u) :=
  .of_grown (grownBy_setCell' U g u) (fun r e cs hc => by
    cases e
    rw [show U.heap[g]? = _ from h] at hc
    cases hc
    exact ht rfl)
theorem JW.rest (h : JW Nd gT gR D W6 A c m T U) (hN : NodeSays Nd) (hD : D ≤ U.heap.size) (m' : Nat) : JW Nd gT gR D W6 A c m' T (U.setCell ⟨gR, 0, none⟩ (.slice A m' c)) :=
  ⟨Has.far (show Has _ _ _ _ from h.tbox) (p := ⟨gR, 0, none⟩) h.ne _, h.rbox.set _, h.tree.kept hN (nk_set h.rbox (by decide) _), h.kj.trans (.grown (grownBy_setCell' U gR _) hD (fun r e => by cases e; exact .inr (.inr rfl)))⟩
theorem JW.put (h : JW Nd gT gR D W6 A c m T U) (hN : NodeSays Nd) (hD : D ≤ U.heap.size) {T' : AT} (hT : Stand Nd U T') : JW Nd gT gR D W6 A c m T' (U.setCell ⟨gT, 0, none⟩ (.pointer T'.ptr)) :=
  ⟨h.tbox.set _, Has.far (show Has _ _ _ _ from h.rbox) (p := ⟨gT, 0, none⟩) h.ne.symm _, hT.kept hN (nk_set h.tbox (by decide) _), h.kj.trans (.grown (grownBy_setCell' U gT _) hD (fun r e => by cases e; exact .inr (.inl rfl)))⟩
end
/-- the next item of a slice that is gone over from its end -/
theorem its_next {rs0 rs : List (Option Addr)} {pre : List (Nat × Option Addr)} {x : Nat × Option Addr} (h : pre ++ [x] <+: backIts rs0) (e : backIts rs0 = pre ++ backIts rs) : ∃ p r, rs = p :: r ∧ x = (r.length, p) ∧ backIts rs0 = (pre ++ [x]) ++ backIts r := by
  obtain ⟨z, hz⟩ := h
  rw [e, List.append_assoc] at hz
  have hz := List.append_cancel_left hz
  cases rs with
  | nil => cases hz
  | cons p r =>
    rw [backIts] at hz
    injection hz with h1 h2
    refine ⟨p, r, rfl, h1, ?_⟩
    rw [e, backIts, List.append_assoc, h1]
    rfl
theorem above_cell {ps : List AT} {p : Option Addr} {r : List (Option Addr)} (h : (p :: r) <:+ ps.map AT.ptr) : (aboveV ps)[r.length]? = some (.pointer p) := by
  obtain ⟨t, ht⟩ := h
  have e : aboveV ps = (ps.map AT.ptr).reverse.map Value.pointer := by simp [aboveV, List.map_reverse]
  rw [e, ← ht]
  simp
theorem suffix_tail {α : Type} {x : α} {r l : List α} (h : (x :: r) <:+ l) : r <:+ l := (List.suffix_cons x r).trans h
/-- between two rounds of the search: what stands in the place of a node -/
def Seek15 (Nd : NdP) (d : Bool) (H L : AT) (k v : BitVec 64) (base : List Addr) (ps : List AT) (gT gR D : Nat) (W6 : World) (A : Option Addr) (c : Nat) (pre : List (Nat × Option Addr)) (U : World) : Prop :=
  ∃ (rest : List AT) (M T : AT), backIts (ps.map AT.ptr) = pre ++ backIts (rest.map AT.ptr) ∧ rest.map AT.ptr <:+ ps.map AT.ptr ∧ Rep d H L k v base rest M T pre.length ∧ JW Nd gT gR D W6 A c rest.length T U
/-- behind the search: what there is, when no turn is to be made any more -/
def Done15 (Nd : NdP) (d : Bool) (H L : AT) (k v : BitVec 64) (base : List Addr) (ps : List AT) (n gT gR D : Nat) (W6 : World) (A : Option Addr) (c : Nat) (U : World) : Prop :=
  ∃ (rest : List AT) (M T : AT) (cnt : Nat), rest.map AT.ptr <:+ ps.map AT.ptr ∧ Fin d H L k v base n rest M T cnt ∧ cnt + rest.length = n ∧ JW Nd gT gR D W6 A c rest.length T U
theorem Seek15.turned {d : Bool} {H L : AT} {k v : BitVec 64} {base : List Addr} {ps : List AT} {gT gR D : Nat} {W6 : World} {A : Option Addr} {c : Nat} {pre : List (Nat × Option Addr)} {U U' : World} (h : Seek15 Nd d H L k v base ps gT gR D W6 A c pre U) (hN : NodeSays Nd) (hD : W6.heap.size = D) (ht : Turn (fun _ => false) D U U') : Seek15 Nd d H L k v base ps gT gR D W6 A c pre U' := by
  obtain ⟨rest, M, T, h1, h2, h3, h4⟩ := h
  exact ⟨rest, M, T, h1, h2, h3, h4.turned hN hD ht⟩
theorem Done15.turned {d : Bool} {H L : AT} {k v : BitVec 64} {base : List Addr} {ps : List AT} {n gT gR D : Nat} {W6 : World} {A : Option Addr} {c : Nat} {U U' : World} (h : Done15 Nd d H L k v base ps n gT gR D W6 A c U) (hN : NodeSays Nd) (hD : W6.heap.size = D) (ht : Turn (fun _ => false) D U U') : Done15 Nd d H L k v base ps n gT gR D W6 A c U' := by
  obtain ⟨rest, M, T, cnt, h1, h2, h3, h4⟩ := h
  exact ⟨rest, M, T, cnt, h1, h2, h3, h4.turned hN hD ht⟩
theorem Seek15.done {d : Bool} {H L : AT} {k v : BitVec 64} {base : List Addr} {ps : List AT} {gT gR D : Nat} {W6 : World} {A : Option Addr} {c : Nat} {U : World} (h : Seek15 Nd d H L k v base ps gT gR D W6 A c (backIts (ps.map AT.ptr)) U) : Done15 Nd d H L k v base ps ps.length gT gR D W6 A c U := by
  obtain ⟨rest, M, T, h1, h2, h3, h4⟩ := h
  cases rest with
  | nil => exact ⟨[], M, T, _, h2, h3.fin, by rw [backIts_len]; simp, h4⟩
  | cons N r =>
    have := congrArg List.length h1
    simp [backIts] at this
/-- what a join comes to -/
structure Join15 (d : Bool) (H L : AT) (k v : BitVec 64) (base : List Addr) (J : AT) : Prop where
  may : errA J.tr = 0
  pairs : prD d J.tr = prD d H.tr ++ (k, v) :: prD d L.tr
  high : J.tr.tag.toNat = H.tr.tag.toNat ∨ J.tr.tag.toNat = H.tr.tag.toNat + 1
  new : 1 ≤ newC J.addrs base
  few : newC J.addrs base ≤ H.tr.tag.toNat - L.tr.tag.toNat + 1

set_option maxHeartbeats 16000000 in
theorem joined15_any (hN : NodeSays Nd) {d : Bool} {fo fi fm : FuncId} (hd : Side15 Nd d fo fi fm) (w : World) (H L : AT) (k v : BitVec 64) (base : List Addr) (hH : Stand Nd w H) (hL : Stand Nd w L) (h1 : H.size ≤ 1000) (eH : errA H.tr = 0) (eL : errA L.tr = 0) (hle : L.tr.tag.toNat ≤ H.tr.tag.toNat)
    (oH : ∀ a ∈ H.addrs, a ∈ base) (oL : ∀ a ∈ L.addrs, a ∈ base) (oB : ∀ a ∈ base, a.block < w.heap.size) : Calls Try.prog 89 #[sidesV fo fi fm, .pointer H.ptr, K k, K v, .pointer L.ptr] w fun e w' => ∃ J : AT, e = .returned (.pointer J.ptr) ∧ Stand Nd w' J ∧ Join15 d H L k v base J ∧ Below w.heap.size w w' := by
  have aH : Av H.tr H.tr.tag.toNat := by have := Av.of eH; rwa [← may_high H.tr eH] at this
  have aL : Av L.tr L.tr.tag.toNat := by have := Av.of eL; rwa [← may_high L.tr eL] at this
  have hH9 : H.tr.tag.toNat ≤ 900 := by
    have := may_levels eH (m := 14) (by rw [show leastN (14 + 1) = 1596 by decide, AT.size_tr]; omega)
    rw [may_high H.tr eH]; omega
  have AH := Lib.hid aH
  have AL := Lib.hid aL
  have cW := Lib.hid (fun W (h1' : Stand Nd W H) (h2 : Stand Nd W L) => way15_any hN hd W H L h1' h2 h1)
  have hsv : sidesV fo fi fm = .agg #[fnV fo, fnV fi, fnV fm] := rfl
  have cM : Hid (∀ W (T : AT), Stand Nd W T → Stand Nd W L → Calls Try.prog fm #[.pointer T.ptr, K k, K v, .pointer L.ptr] W (MadeD Nd d T L k v (tagA T.tr L.tr) W)) := fun W T h1 h2 => hd.made W _ _ _ _ h1 h2
  rw [hsv] at cW ⊢
  have eo := hd.eo
  have ei := hd.ei
  have em := hd.em
  obtain ⟨W0, hW0⟩ : ∃ W, w.alloc (.cells #[fnV fo, fnV fi, fnV fm] 89) = W := ⟨_, rfl⟩
  obtain ⟨g0, hg0⟩ : ∃ g, w.heap.size = g := ⟨_, rfl⟩
  have hB0 : Below w.heap.size w W0 := hW0 ▸ (Below.refl _ w).alloc (Nat.le_refl _) _
  have hH0 : Has W0 g0 89 #[fnV fo, fnV fi, fnV fm] := hg0 ▸ hW0 ▸ Has.new w _ _
  have k0 : W0.cell? ⟨g0, 0, none⟩ = some (fnV fo) := hH0.cell 0
  have k1 : W0.cell? ⟨g0, 1, none⟩ = some (fnV fi) := hH0.cell 1
  have k2 : W0.cell? ⟨g0, 2, none⟩ = some (fnV fm) := hH0.cell 2
  have B0 := Lib.hid hB0
  have hN' := Lib.hid hN
  have H0 := Lib.hid hH0
  have HS0 : Hid (Stand Nd W0 H) := hH.after hN hB0
  have LS0 : Hid (Stand Nd W0 L) := hL.after hN hB0
  have HD := Lib.hid hd
  have HLE := Lib.hid hle
  have OH := Lib.hid oH
  have OL := Lib.hid oL
  have OB := Lib.hid oB
  have H9 := Lib.hid hH9
  obtain ⟨ph, hph⟩ : ∃ p, H.ptr = p := ⟨_, rfl⟩
  obtain ⟨pl, hpl⟩ : ∃ p, L.ptr = p := ⟨_, rfl⟩
  rw [hph, hpl] at cW
  rw [hpl] at cM
  rw [hph, hpl]
  have HW0 := Lib.hid hW0
  have HG0 := Lib.hid hg0
  clear hd hH hL hB0 hN hW0 hg0 hph hpl hH0 aH aL hle oH oL oB hsv hH9
  refine (callsIn_wide (n := 9)).1 ?_
  refine callsIn_of_wp_marks Try.func89 rfl trivial ?_ rfl
  simp only [Try.ntmps89, List.size_toArray, List.length_cons, List.length_nil, Nat.reduceAdd, Nat.reduceSub, Array.replicate_succ, Array.replicate_zero, List.push_toArray, List.append_toArray, List.nil_append, List.cons_append]
  refine wpIn_wide.2 ?_
  go_wp2_with fail
  rw [HW0.out, HG0.out]
  go_step3
  go_wp2_with fail
  refine (cW.out W0 HS0.out LS0.out).mono ?_
  rintro e W1 ⟨v1, B, ps, rfl, hway, htag, hbot, hown, hHs, hLs, hb⟩
  obtain ⟨A, c, rfl, hnc, hcm, hcz⟩ := own_slice hown
  obtain ⟨n, hn⟩ : ∃ n, ps.length = n := ⟨_, rfl⟩
  rw [hn] at hown hnc ⊢
  obtain ⟨pB, hpB⟩ : ∃ p, B.ptr = p := ⟨_, rfl⟩
  have hBs : Stand Nd W1 B := (hway.stand hN'.out hHs).1
  have B1 := Lib.hid (Below.after B0.out hb)
  have s1 := H0.out.next hb
  obtain ⟨W2, hW2⟩ : ∃ W, W1.alloc (.cells #[.slice A n c] 94) = W := ⟨_, rfl⟩
  obtain ⟨g11, hg11⟩ : ∃ g, W1.heap.size = g := ⟨_, rfl⟩
  have b12 : Below W1.heap.size W1 W2 := hW2 ▸ (Below.refl _ W1).alloc (Nat.le_refl _) _
  have x11 : Boxed W2 g11 94 (.slice A n c) := hg11 ▸ hW2 ▸ Boxed.new W1 _ _
  have s2 := s1.next b12
  have o2 := owned_next hown b12
  have HH2 := Lib.hid (hHs.after hN'.out b12)
  have HL2 := Lib.hid (hLs.after hN'.out b12)
  have HB2 := Lib.hid (hBs.after hN'.out b12)
  have B2 := Lib.hid (Below.after B1.out b12)
  have HW2 := Lib.hid hW2
  have HG11 := Lib.hid hg11
  have HPB := Lib.hid hpB
  have HN := Lib.hid hn
  have c0 := Lib.hid (cM.out W2 B HB2.out HL2.out)
  rw [hpB] at c0
  rw [hpB]
  have m2 : W2.cell? ⟨g0, 2, none⟩ = some (fnV fm) := s2.cell 2
  have O2 := Lib.hid o2
  have S2 := Lib.hid s2
  have X11 := Lib.hid x11
  have HWay := Lib.hid hway
  have HTag := Lib.hid htag
  have HBot := Lib.hid hbot
  clear hb k0 k1 k2 hW2 hg11 hpB hn b12 x11 s1 s2 o2 hown hHs hLs hBs hway htag hbot B0 B1 H0 HS0 LS0 HW0 cW
  go_upto_region 2 with (fail)
  rw [HW2.out, HG11.out]
  go_wp2_with fail
  refine c0.out.mono ?_
  rintro e W3 ⟨a0, x0, rfl, hx0, hs0, ha0, hb⟩
  obtain ⟨W4, hW4⟩ : ∃ W, W3.alloc (.cells #[.pointer (some a0)] 25) = W := ⟨_, rfl⟩
  obtain ⟨gT, hgT⟩ : ∃ g, W3.heap.size = g := ⟨_, rfl⟩
  obtain ⟨W5, hW5⟩ : ∃ W, W4.alloc (.cells #[.slice A n c] 94) = W := ⟨_, rfl⟩
  obtain ⟨gR, hgR⟩ : ∃ g, W4.heap.size = g := ⟨_, rfl⟩
  obtain ⟨W6, hW6⟩ : ∃ W, W5.alloc (.cells #[.slice A n c] 94) = W := ⟨_, rfl⟩
  obtain ⟨gS, hgS⟩ : ∃ g, W5.heap.size = g := ⟨_, rfl⟩
  have b34 : Below W3.heap.size W3 W4 := hW4 ▸ (Below.refl _ W3).alloc (Nat.le_refl _) _
  have b45 : Below W4.heap.size W4 W5 := hW5 ▸ (Below.refl _ W4).alloc (Nat.le_refl _) _
  have b56 : Below W5.heap.size W5 W6 := hW6 ▸ (Below.refl _ W5).alloc (Nat.le_refl _) _
  have b46 := Below.after b45 b56
  have b26 := Below.after hb (Below.after b34 b46)
  have xT : Boxed W6 gT 25 (.pointer (some a0)) := Has.next (show Has _ _ _ _ from hgT ▸ hW4 ▸ Boxed.new W3 _ _) b46
  have xR : Boxed W6 gR 94 (.slice A n c) := Has.next (show Has _ _ _ _ from hgR ▸ hW5 ▸ Boxed.new W4 _ _) b56
  have xS : Boxed W6 gS 94 (.slice A n c) := hgS ▸ hW6 ▸ Boxed.new W5 _ _
  have y11 : W3.cell? ⟨g11, 0, none⟩ = some (.slice A n c) := keep_cell hb X11.out.cell
  have y4 := keep_cell b34 y11
  have y5 := keep_cell b45 y4
  have HW4 := Lib.hid hW4
  have HW5 := Lib.hid hW5
  have HW6 := Lib.hid hW6
  have HGT := Lib.hid hgT
  have HGR := Lib.hid hgR
  have HGS := Lib.hid hgS
  have B26 := Lib.hid b26
  have z2 : Hid (W2.heap.size ≤ gT) := by
    have e2 := hb.size
    show W2.heap.size ≤ gT
    omega
  have z1 : Hid (g11 < gT ∧ gT < gR ∧ gR < gS ∧ gS + 1 = W6.heap.size) := by
    have e1 := X11.out.lt
    have e2 := hb.size
    have e3 : W4.heap.size = W3.heap.size + 1 := by rw [← hW4]; simp
    have e4 : W5.heap.size = W4.heap.size + 1 := by rw [← hW5]; simp
    have e5 : W6.heap.size = W5.heap.size + 1 := by rw [← hW6]; simp
    exact ⟨by omega, by omega, by omega, by omega⟩
  have T6 : Hid (Stand Nd W6 (AT.mk d a0 x0 B L)) := hs0.after hN'.out (Below.after b34 b46)
  have HX0 := Lib.hid hx0
  have HA0 : Hid (w.heap.size ≤ a0.block) := Nat.le_trans B2.out.size ha0
  have XT := Lib.hid xT
  have XR := Lib.hid xR
  have XS := Lib.hid xS
  clear hb hs0 hx0 ha0 hW4 hgT hW5 hgR hW6 hgS b34 b45 b56 b46 b26 xT xR xS m2 c0
  go_upto_region 3 with (fail)
  rw [HW4.out, HGT.out]
  go_wp2_with fail
  rw [HW5.out, HGR.out]
  go_step3
  go_wp2_with fail
  refine (back_any A n c W5).mono ?_
  rintro e W6' ⟨rfl, hW6'⟩
  obtain rfl : W6 = W6' := HW6.out.symm.trans hW6'
  rw [HGS.out]
  clear hW6' y11 y4 y5
  go_wp2_with fail
  refine (wpIn_wide (n := 9)).1 ?_
  have hps : ps.length ≤ 1000 := by have := HWay.out.size; omega
  have cells : ∀ p r, (p :: r) <:+ ps.map AT.ptr → ∃ ad, A = some ad ∧ W6.cell? (ad.add r.length) = some (.pointer p) := fun p r h => by
    obtain ⟨ad, e, hb, hc⟩ := (Row.of_own O2.out) r.length (.pointer p) (above_cell h)
    exact ⟨ad, e, keep_cell B26.out hc⟩
  have place : ∀ ad, 0 < n → A = some ad → ad.block < gT := fun ad h0 e => by
    obtain ⟨g, c', e2, h1, h2, h3⟩ := own_full O2.out h0
    cases e2.trans rfl
    cases e
    have e3 := (O2.out.lt g rfl).2
    have e4 := HGT.out
    have e5 := B26.out.size
    have e6 := z1.out
    show g < gT
    have e7 := z2.out
    omega
  have hn0 : n = 0 ∨ n + L.tr.tag.toNat + 1 ≤ H.tr.tag.toNat := by
    have hw := HWay.out
    have hn := HN.out
    cases ps with
    | nil => exact .inl (by rw [← hn]; rfl)
    | cons N r => exact .inr (by rw [← hn]; exact (Way.far AH.out hw (HTag.out N (List.mem_cons_self ..))).1)
  have HN0 := Lib.hid hn0
  have HP := Lib.hid hps
  have HC := Lib.hid cells
  have HPL := Lib.hid place
  clear hps cells place hn0
  refine wpIn_rangeFunc_runs (α := Nat × Option Addr) (mine := fun _ => false) rfl (by omega) (gf := 122) (lb := #[.pointer (some ⟨gS, 0, none⟩)]) rfl trivial (enters_of Try.func122 (by kernel_rfl) rfl)
    (back_runs W6 gS A n c (ps.map AT.ptr) (by rw [List.length_map]; exact HN.out) (by have := HP.out; have := HN.out; omega) XS.out HC.out (Kj gT gR W6.heap.size)
      (fun X Y h => ⟨h.keep gS (by have := z1.out; omega) (by have := z1.out; omega) (by have := z1.out; omega), fun h0 ad e => by have := HPL.out ad h0 e; have := z1.out; exact h.keep _ (by omega) (by omega) (by omega)⟩) _)
    Kj.trans (fun X l o o' h _ _ _ => Kj.put X l o' h) (Below.refl _ _) (fun _ => rfl)
    (fun pre U => Seek15 Nd d H L k v base ps gT gR W6.heap.size W6 A c pre U)
    (fun c' _ U => c' = .exit 0 ∧ Done15 Nd d H L k v base ps n gT gR W6.heap.size W6 A c U)
    (fun _ _ _ h ht => h.turned hN'.out rfl ht) (fun _ _ _ _ h ht => ⟨h.1, h.2.turned hN'.out rfl ht⟩)
    ?start
    (fun x a' _ => a' = { tmps := #[.agg #[fnV fo, fnV fi, fnV fm], .pointer ph, K k, K v, .pointer pl, .pointer (some ⟨g0, 0, none⟩), undef, undef, undef, undef, .pointer none, .pointer (some ⟨g11, 0, none⟩), .pointer pB, .pointer (some ⟨gT, 0, none⟩), .pointer (some ⟨gR, 0, none⟩), nI x.1, .pointer x.2, undef, undef, .tuple #[.slice A n c, .pointer pB], .agg #[fnV fo, fnV fi, fnV fm], .pointer ph, .pointer pl, .tuple #[.slice A n c, .pointer pB], .slice A n c, .pointer pB, .pointer (some ⟨g0, 2, none⟩), fnV fm, .pointer pB, K k, K v, .pointer pl, .pointer (some a0), .slice A n c, .slice A n c, .func (.func 122) #[] #[.pointer (some ⟨gS, 0, none⟩)], nI x.1, .pointer x.2, undef, undef, undef, undef, undef, undef, undef, undef, undef, undef, undef, undef, undef, undef, undef, undef, undef, undef, undef, undef, undef, undef, undef, undef, undef, undef, undef, undef, undef, undef, undef, undef, undef, undef, undef, undef, undef, undef, undef, undef, undef, undef, undef], defers := [] })
    (fun x a' _ X Y row hs hg hr => hs)
    ?assign ?body ?done ?stop
  case start =>
    refine ⟨ps, B, AT.mk d a0 x0 B L, rfl, List.suffix_refl _, ?_, XT.out, by rw [HN.out]; exact XR.out, T6.out, Kj.refl _ _ _ _⟩
    exact Rep.start AH.out AL.out HLE.out H9.out HWay.out HTag.out HBot.out HX0.out (fun h => by have := OB.out _ h; have := HA0.out; omega) OH.out OL.out
  case assign =>
    rintro L' pre ⟨pl', q⟩ U KK hI hpx hK
    have hK2 := Lib.hid (hK { tmps := #[.agg #[fnV fo, fnV fi, fnV fm], .pointer ph, K k, K v, .pointer pl, .pointer (some ⟨g0, 0, none⟩), undef, undef, undef, undef, .pointer none, .pointer (some ⟨g11, 0, none⟩), .pointer pB, .pointer (some ⟨gT, 0, none⟩), .pointer (some ⟨gR, 0, none⟩), nI pl', .pointer q, undef, undef, .tuple #[.slice A n c, .pointer pB], .agg #[fnV fo, fnV fi, fnV fm], .pointer ph, .pointer pl, .tuple #[.slice A n c, .pointer pB], .slice A n c, .pointer pB, .pointer (some ⟨g0, 2, none⟩), fnV fm, .pointer pB, K k, K v, .pointer pl, .pointer (some a0), .slice A n c, .slice A n c, .func (.func 122) #[] #[.pointer (some ⟨gS, 0, none⟩)], nI pl', .pointer q, undef, undef, undef, undef, undef, undef, undef, undef, undef, undef, undef, undef, undef, undef, undef, undef, undef, undef, undef, undef, undef, undef, undef, undef, undef, undef, undef, undef, undef, undef, undef, undef, undef, undef, undef, undef, undef, undef, undef, undef, undef, undef, undef], defers := [] } U ((KeepsOthers.refl _).from _) (Kj.refl _ _ _ _) hI rfl)
    clear hK hI hpx
    gi_wp2
    exact hK2.out
  case body =>
    rintro L' pre ⟨pl', q⟩ a' U hL _ ⟨rest, M, T, h1, h2, hR, hJ⟩ rfl hpx
    obtain ⟨p0, r0, e1, e2, e3⟩ := its_next hpx h1
    cases rest with
    | nil => cases e1
    | cons N rest =>
      rw [List.map_cons] at e1
      injection e1 with e4 e5
      subst e4 e5
      injection e2 with e6 e7
      rw [List.length_map] at e6
      subst e6 e7
      have hlen : pre.length + (rest.length + 1) = n := by
        have := congrArg List.length h1
        rw [backIts_len, List.length_append, backIts_len, List.length_map, List.length_map, List.length_cons, HN.out] at this
        omega
      obtain ⟨⟨aN, xN, ON, eN⟩, -⟩ := hR.way
      obtain ⟨y, l, r, eN2⟩ : ∃ y l r, N = .n aN y l r := ⟨xN, _, _, eN⟩
      clear eN
      subst eN2
      clear ON xN
      have hpn : (AT.n aN y l r).ptr = some aN := rfl
      rw [hpn]
      have hD : W6.heap.size ≤ U.heap.size := hJ.kj.size
      have hsuf := suffix_tail (x := (AT.n aN y l r).ptr) (r := rest.map AT.ptr) h2
      obtain ⟨m, hm⟩ : ∃ m, rest.length = m := ⟨_, rfl⟩
      rw [List.length_cons, hm] at hJ
      rw [hm] at hlen ⊢
      have hg : g0 < gT := by have := S2.out.lt; have := z2.out; omega
      have zz := z1.out
      have nk : NK W6 U := hJ.nk0 ⟨_, XT.out⟩ ⟨_, XR.out⟩ rfl
      have SH : Stand Nd U H := (HH2.out.after hN'.out B26.out).kept hN'.out nk
      have SN : Stand Nd U (.n aN y l r) := (Way.stand hN'.out SH hR.way).2 _ (List.mem_cons_self ..)
      have s0 : Has U g0 89 #[fnV fo, fnV fi, fnV fm] := hJ.kj.has (S2.out.next B26.out) (by omega) (by omega) (by omega)
      have x11 : Boxed U g11 94 (.slice A n c) := hJ.kj.has (Has.next (show Has _ _ _ _ from X11.out) B26.out) (by omega) (by omega) (by omega)
      have y11 := x11.cell
      have xR := hJ.rbox.cell
      have fR := hJ.rbox.frozen
      have ct : ∀ W, (Instr.slice 94 (.slice A n c) none (some (.int .i64 (m : Int))) none).run Try.prog W = .ok (.slice A m c) W := cut_to Try.underlying94 size_ptr13 A n c m _ rfl (by omega)
      obtain ⟨U1, hU1⟩ : ∃ V, U.setCell ⟨gR, 0, none⟩ (.slice A m c) = V := ⟨_, rfl⟩
      have J1 : JW Nd gT gR W6.heap.size W6 A c m T U1 := hU1 ▸ hJ.rest hN'.out hD m
      have nk1 : NK U U1 := hU1 ▸ nk_set hJ.rbox (by decide) _
      have hs1 : Has U1 g0 89 #[fnV fo, fnV fi, fnV fm] := hU1 ▸ s0.far (p := ⟨gR, 0, none⟩) (by show g0 ≠ gR; omega) _
      have KO1 : Hid (KeepsOthers U U1) := hU1 ▸ KeepsOthers.setCell _ _ _
      have KJ1 : Hid (Kj gT gR W6.heap.size U U1) := hU1 ▸ Kj.grown (grownBy_setCell' U gR _) hD (fun r e => by cases e; exact .inr (.inr rfl))
      have D1 : Hid (W6.heap.size ≤ U1.heap.size) := J1.kj.size
      have SN1 : Hid (Stand Nd U1 (.n aN y l r)) := SN.kept hN'.out nk1
      have ST1 : Hid (Stand Nd U1 T) := J1.tree
      have SO1 : Hid (Stand Nd U1 ((AT.n aN y l r).side d)) := Stand.side hN'.out d SN1.out
      have hmx : Try.prog.follows .mixedOrders = true := by kernel_rfl
      have JJ1 := Lib.hid J1
      have HS1 := Lib.hid hs1
      have HR := Lib.hid hR
      have HU1 := Lib.hid hU1
      have E3 := Lib.hid e3
      have HSUF := Lib.hid hsuf
      have HLEN := Lib.hid hlen
      have HM := Lib.hid hm
      have t0 := J1.tbox.cell
      have t1 := hs1.cell 0
      have cO : Hid (∀ W, Stand Nd W (.n aN y l r) → Calls Try.prog fo #[.pointer (some aN)] W fun e w' => e = .returned (.pointer ((AT.n aN y l r).side d).ptr) ∧ Below W.heap.size W w') := fun W h => HD.out.outer W _ h
      have mle : m ≤ c := by omega
      clear h1 h2 hR hJ hpx e3 hsuf nk SH SN s0 x11 hU1 J1 nk1 hs1 zz hg hm hlen hpn
      by_cases ht : T.tr.tag.toNat ≤ ((AT.n aN y l r).side d).tr.tag.toNat + 1
      · skip
        have hE0 : (T.tr.tag.toNat - ((AT.n aN y l r).side d).tr.tag.toNat) ≤ 1 := by omega
        have cE : Hid (∀ W, Stand Nd W (T) → Stand Nd W ((AT.n aN y l r).side d) → Calls Try.prog 87 #[.pointer (T).ptr, .pointer ((AT.n aN y l r).side d).ptr] W fun e w' => e = .returned (.int .u64 (((T).tr.tag.toNat - ((AT.n aN y l r).side d).tr.tag.toNat : Nat) : Int)) ∧ Below W.heap.size W w') := fun W h h' => excess_any hN'.out W _ _ _ _ h.tree h'.tree
        obtain ⟨E, hE⟩ : ∃ E, (T).tr.tag.toNat - ((AT.n aN y l r).side d).tr.tag.toNat = E := ⟨_, rfl⟩
        rw [hE] at cE hE0
        obtain ⟨pT, hpT⟩ : ∃ p, (T).ptr = p := ⟨_, rfl⟩
        obtain ⟨pO, hpO⟩ : ∃ p, ((AT.n aN y l r).side d).ptr = p := ⟨_, rfl⟩
        rw [hpT, hpO] at cE
        rw [hpO] at cO
        rw [hpT] at t0
        have dE : decide ((E : Int) ≤ 1) = true := decide_eq_true (by omega)
        have HPT := Lib.hid hpT
        have HT0 := Lib.hid ht
        clear hE hpT hpO ht
        gi_wp2
        rw [HU1.out]
        clear y11 xR fR ct HU1
        refine wpIn_round_held (S := fun W => W.cell? ⟨gT, 0, none⟩ = some (.pointer pT) ∧ W.cell? ⟨g0, 0, none⟩ = some (fnV fo) ∧ Below U1.heap.size U1 W) hmx (by kernel_rfl) ⟨t0, t1, (Below.refl _ U1).drew⟩ (fun hS => ?_)
        refine wpAnyH_take (i := 0) (oi := ?dqr4q0) (v := ?dvr4q0) ?hir4q0 (by kernel_rfl) (by kernel_rfl) (by kernel_rfl) ?hQr4q0 (Or.inl ⟨?hwr4q0, ?hyr4q0⟩) hS ?hrr4q0
        case hir4q0 => simp only [List.getElem?_toArray, List.getElem?_cons_zero]; rfl
        case hQr4q0 => exact fun _ _ _ h => h
        case hwr4q0 => rfl
        case hyr4q0 => (intro w hSw; (try dsimp only at hSw); go_simp; (try with_reducible rfl))
        simp only [Act.put, List.setIfInBounds_toArray, List.set_cons_zero, List.set_cons_succ]
        refine wpAnyH_take (i := 1) (oi := ?dqr4q1) (v := ?dvr4q1) ?hir4q1 (by kernel_rfl) (by kernel_rfl) (by kernel_rfl) ?hQr4q1 (Or.inl ⟨?hwr4q1, ?hyr4q1⟩) hS ?hrr4q1
        case hir4q1 => simp only [List.getElem?_toArray, List.getElem?_cons_succ, List.getElem?_cons_zero]; rfl
        case hQr4q1 => exact fun _ _ _ h => h
        case hwr4q1 => rfl
        case hyr4q1 => (intro w hSw; (try dsimp only at hSw); go_simp; (try with_reducible rfl))
        simp only [Act.put, List.setIfInBounds_toArray, List.set_cons_zero, List.set_cons_succ]
        refine wpAnyH_take (i := 2) (oi := ?dqr4q2) (v := ?dvr4q2) ?hir4q2 (by kernel_rfl) (by kernel_rfl) (by kernel_rfl) ?hQr4q2 (Or.inl ⟨?hwr4q2, ?hyr4q2⟩) hS ?hrr4q2
        case hir4q2 => simp only [List.getElem?_toArray, List.getElem?_cons_succ, List.getElem?_cons_zero]; rfl
        case hQr4q2 => exact fun _ _ _ h => h
        case hwr4q2 => rfl
        case hyr4q2 => (intro w hSw; (try dsimp only at hSw); go_simp; (try with_reducible rfl))
        simp only [Act.put, List.setIfInBounds_toArray, List.set_cons_zero, List.set_cons_succ]
        refine wpAnyH_take (i := 3) (oi := ?dqr4q3) (v := ?dvr4q3) ?hir4q3 (by kernel_rfl) (by kernel_rfl) (by kernel_rfl) ?hQr4q3 (Or.inl ⟨?hwr4q3, ?hyr4q3⟩) hS ?hrr4q3
        case hir4q3 => simp only [List.getElem?_toArray, List.getElem?_cons_succ, List.getElem?_cons_zero]; rfl
        case hQr4q3 => exact fun _ _ _ h => h
        case hwr4q3 => rfl
        case hyr4q3 => (intro w hSw; (try dsimp only at hSw); go_simp; (try with_reducible rfl))
        simp only [Act.put, List.setIfInBounds_toArray, List.set_cons_zero, List.set_cons_succ]
        refine wpAnyH_ready (rs := [4]) (by kernel_rfl) (by simp) ?_
        refine AllReadyH.cons (o := ?dqr4q4) ?hir4q4 (fun K hK => ?_) AllReadyH.nil
        case hir4q4 => simp only [List.getElem?_toArray, List.getElem?_cons_succ, List.getElem?_cons_zero]; rfl
        go_simp
        refine (cO.out _ (SN1.out.after hN'.out hS.2.2)).mono ?_
        rintro e u1 ⟨rfl, hb1⟩
        have hS2 := (And.intro (keep_cell hb1 hS.1) (And.intro (keep_cell hb1 hS.2.1) (Below.after hS.2.2 hb1)))
        clear hS
        refine hK.out _ _ hS2 (fun hS => ?_)
        clear hS2 hK K
        try simp only [Act.put, List.setIfInBounds_toArray, List.set_cons_zero, List.set_cons_succ]
        refine wpAnyH_ready (rs := [5]) (by kernel_rfl) (by simp) ?_
        refine AllReadyH.cons (o := ?dqr4q5) ?hir4q5 (fun K hK => ?_) AllReadyH.nil
        case hir4q5 => simp only [List.getElem?_toArray, List.getElem?_cons_succ, List.getElem?_cons_zero]; rfl
        go_simp
        refine (cE.out _ (ST1.out.after hN'.out hS.2.2) (SO1.out.after hN'.out hS.2.2)).mono ?_
        rintro e u2 ⟨rfl, hb2⟩
        have hS2 := (And.intro (keep_cell hb2 hS.1) (And.intro (keep_cell hb2 hS.2.1) (Below.after hS.2.2 hb2)))
        clear hS
        refine hK.out _ _ hS2 (fun hS => ?_)
        clear hS2 hK K
        try simp only [Act.put, List.setIfInBounds_toArray, List.set_cons_zero, List.set_cons_succ]
        refine wpAnyH_take (i := 6) (oi := ?dqr4q6) (v := ?dvr4q6) ?hir4q6 (by kernel_rfl) (by kernel_rfl) (by kernel_rfl) ?hQr4q6 (Or.inl ⟨?hwr4q6, ?hyr4q6⟩) hS ?hrr4q6
        case hir4q6 => simp only [List.getElem?_toArray, List.getElem?_cons_succ, List.getElem?_cons_zero]; rfl
        case hQr4q6 => exact fun _ _ _ h => h
        case hwr4q6 => rfl
        case hyr4q6 => (intro w hSw; (try dsimp only at hSw); go_simp; (try with_reducible rfl))
        simp only [Act.put, List.setIfInBounds_toArray, List.set_cons_zero, List.set_cons_succ]
        refine wpAnyH_take (i := 7) (oi := ?dqr4q7) (v := ?dvr4q7) ?hir4q7 (by kernel_rfl) (by kernel_rfl) (by kernel_rfl) ?hQr4q7 (Or.inl ⟨?hwr4q7, ?hyr4q7⟩) hS ?hrr4q7
        case hir4q7 => simp only [List.getElem?_toArray, List.getElem?_cons_succ, List.getElem?_cons_zero]; rfl
        case hQr4q7 => exact fun _ _ _ h => h
        case hwr4q7 => rfl
        case hyr4q7 => (intro w hSw; (try dsimp only at hSw); go_simp; (try with_reducible rfl))
        simp only [Act.put, List.setIfInBounds_toArray, List.set_cons_zero, List.set_cons_succ]
        refine wpAnyH_done (by kernel_rfl) ?_ _
        dsimp only [OnlyNormal]
        have JJ2 := Lib.hid (JJ1.out.later hN'.out hS.2.2 D1.out)
        have SN2 := Lib.hid (SN1.out.after hN'.out hS.2.2)
        have ST2 := Lib.hid (ST1.out.after hN'.out hS.2.2)
        have HS2 := Lib.hid (HS1.out.next hS.2.2)
        have KO2 := Lib.hid (KO1.out.trans (keeps_below14 hS.2.2))
        have KJ2 := Lib.hid (KJ1.out.trans (.of_below hS.2.2 D1.out))
        have D2 : Hid (W6.heap.size ≤ u2.heap.size) := Nat.le_trans D1.out hS.2.2.size
        clear hS hb1 hb2 JJ1 SN1 ST1 SO1 HS1 KO1 KJ1 D1 t0 t1 cO cE
        have r0 := HS2.out.cell 0
        have r1 := HS2.out.cell 1
        have r2 := HS2.out.cell 2
        have v0 := JJ2.out.tbox.cell
        rw [HPT.out] at v0
        have cW := Lib.hid (with15_any hN'.out HD.out u2 aN y l r T SN2.out ST2.out)
        rw [HPT.out, show sidesV fo fi fm = .agg #[fnV fo, fnV fi, fnV fm] from rfl] at cW
        gi_wp2
        refine ⟨trivial, ?_⟩
        refine CallsIn.inRound L' (callsIn_wide.2 (cW.out.mono ?_))
        rintro e u3 ⟨a, x, rfl, hx, hg, hs, ha, hb3⟩
        have JJ3 := Lib.hid (JJ2.out.later hN'.out hb3 D2.out)
        have v1 := JJ3.out.tbox.cell
        have v2 := JJ3.out.tbox.frozen
        rw [HPT.out] at v1
        have KO3 := Lib.hid (KO2.out.trans (keeps_below14 hb3))
        have KJ3 := Lib.hid (KJ2.out.trans (.of_below hb3 D2.out))
        have D3 : Hid (W6.heap.size ≤ u3.heap.size) := Nat.le_trans D2.out hb3.size
        have HXA : Hid (∀ b y' l' r', AT.n aN y l r = .n b y' l' r' → x.k = y'.k ∧ x.v = y'.v) := hx
        have HXG := Lib.hid hg
        have HXS := Lib.hid hs
        have HXB : Hid (a ∉ base) := fun h => by have e1 := OB.out _ h; have e2 := D2.out; have e3 := B2.out.size; have e4 := z1.out; have e5 := z2.out; omega
        have J4 := Lib.hid (JJ3.out.put hN'.out D3.out HXS.out)
        rw [AT.mk_ptr] at J4
        have KJ4 : Hid (Kj gT gR W6.heap.size u3 (u3.setCell ⟨gT, 0, none⟩ (.pointer (some a)))) := Kj.grown (grownBy_setCell' u3 gT _) D3.out (fun r e => by cases e; exact .inr (.inl rfl))
        clear hx hg hs ha hb3 cW r0 r1 r2 v0
        gi_wp2
        refine ⟨(KO3.out.trans (KeepsOthers.setCell _ _ _)).from _, KJ3.out.trans KJ4.out, rest, .n aN y l r, _, by rw [← HM.out]; exact E3.out, HSUF.out, ?_, by rw [HM.out]; exact J4.out⟩
        rw [List.length_append, List.length_singleton]
        exact Rep.with_ AH.out H9.out HR.out HT0.out HXA.out HXG.out HXB.out OH.out
      · obtain ⟨aT, xT, O, I, o, eT, haT, q1, q2, q3⟩ := Rep.turns AH.out HR.out ht
        subst eT
        rcases q3 with ⟨i1, i2, i3⟩ | ⟨i1, i2, i3⟩
        · skip
          have cTO := Lib.hid (fun W (h : Stand Nd W (AT.mk d aT xT O I)) => outD15 HD.out W h)
          have cTI := Lib.hid (fun W (h : Stand Nd W (AT.mk d aT xT O I)) => inD15 HD.out W h)
          have cE2 : Hid (∀ W, Stand Nd W (O) → Stand Nd W I → Calls Try.prog 87 #[.pointer (O).ptr, .pointer I.ptr] W fun e w' => e = .returned (.int .u64 (((O).tr.tag.toNat - I.tr.tag.toNat : Nat) : Int)) ∧ Below W.heap.size W w') := fun W h h' => excess_any hN'.out W _ _ _ _ h.tree h'.tree
          have hF0 : (O).tr.tag.toNat - I.tr.tag.toNat = 0 := by omega
          obtain ⟨F, hF⟩ : ∃ F, (O).tr.tag.toNat - I.tr.tag.toNat = F := ⟨_, rfl⟩
          rw [hF] at cE2 hF0
          obtain ⟨pQ, hpQ⟩ : ∃ p, (O).ptr = p := ⟨_, rfl⟩
          obtain ⟨pI, hpI⟩ : ∃ p, I.ptr = p := ⟨_, rfl⟩
          rw [hpQ] at cTO
          rw [hpI] at cTI
          rw [hpQ, hpI] at cE2
          have dF : decide ((0 : Int) < (F : Int)) = false := decide_eq_false (by omega)
          have I1 := Lib.hid i1
          have I2 := Lib.hid i2
          have I3 := Lib.hid i3
          have Q1 := Lib.hid q1
          have Q2 := Lib.hid q2
          have HAT := Lib.hid haT
          have QB : Hid (o ≤ H.tr.tag.toNat) := by
            obtain ⟨q9, w1, w2⟩ := Way.av AH.out HR.out.way.2
            have := w1.same q2
            show o ≤ _
            omega
          clear hF hpQ hpI i1 i2 i3 q1 q2 haT
          have hE0 : ¬ ((AT.mk d aT xT O I).tr.tag.toNat - ((AT.n aN y l r).side d).tr.tag.toNat) ≤ 1 := by omega
          have cE : Hid (∀ W, Stand Nd W ((AT.mk d aT xT O I)) → Stand Nd W ((AT.n aN y l r).side d) → Calls Try.prog 87 #[.pointer ((AT.mk d aT xT O I)).ptr, .pointer ((AT.n aN y l r).side d).ptr] W fun e w' => e = .returned (.int .u64 ((((AT.mk d aT xT O I)).tr.tag.toNat - ((AT.n aN y l r).side d).tr.tag.toNat : Nat) : Int)) ∧ Below W.heap.size W w') := fun W h h' => excess_any hN'.out W _ _ _ _ h.tree h'.tree
          obtain ⟨E, hE⟩ : ∃ E, ((AT.mk d aT xT O I)).tr.tag.toNat - ((AT.n aN y l r).side d).tr.tag.toNat = E := ⟨_, rfl⟩
          rw [hE] at cE hE0
          obtain ⟨pT, hpT⟩ : ∃ p, ((AT.mk d aT xT O I)).ptr = p := ⟨_, rfl⟩
          obtain ⟨pO, hpO⟩ : ∃ p, ((AT.n aN y l r).side d).ptr = p := ⟨_, rfl⟩
          rw [hpT, hpO] at cE
          rw [hpO] at cO
          rw [hpT] at t0
          have dE : decide ((E : Int) ≤ 1) = false := decide_eq_false (by omega)
          have HPT := Lib.hid hpT
          have HT0 := Lib.hid ht
          clear hE hpT hpO ht
          gi_wp2
          rw [HU1.out]
          clear y11 xR fR ct HU1
          refine wpIn_round_held (S := fun W => W.cell? ⟨gT, 0, none⟩ = some (.pointer pT) ∧ W.cell? ⟨g0, 0, none⟩ = some (fnV fo) ∧ Below U1.heap.size U1 W) hmx (by kernel_rfl) ⟨t0, t1, (Below.refl _ U1).drew⟩ (fun hS => ?_)
          refine wpAnyH_take (i := 0) (oi := ?dqr5q0) (v := ?dvr5q0) ?hir5q0 (by kernel_rfl) (by kernel_rfl) (by kernel_rfl) ?hQr5q0 (Or.inl ⟨?hwr5q0, ?hyr5q0⟩) hS ?hrr5q0
          case hir5q0 => simp only [List.getElem?_toArray, List.getElem?_cons_zero]; rfl
          case hQr5q0 => exact fun _ _ _ h => h
          case hwr5q0 => rfl
          case hyr5q0 => (intro w hSw; (try dsimp only at hSw); go_simp; (try with_reducible rfl))
          simp only [Act.put, List.setIfInBounds_toArray, List.set_cons_zero, List.set_cons_succ]
          refine wpAnyH_take (i := 1) (oi := ?dqr5q1) (v := ?dvr5q1) ?hir5q1 (by kernel_rfl) (by kernel_rfl) (by kernel_rfl) ?hQr5q1 (Or.inl ⟨?hwr5q1, ?hyr5q1⟩) hS ?hrr5q1
          case hir5q1 => simp only [List.getElem?_toArray, List.getElem?_cons_succ, List.getElem?_cons_zero]; rfl
          case hQr5q1 => exact fun _ _ _ h => h
          case hwr5q1 => rfl
          case hyr5q1 => (intro w hSw; (try dsimp only at hSw); go_simp; (try with_reducible rfl))
          simp only [Act.put, List.setIfInBounds_toArray, List.set_cons_zero, List.set_cons_succ]
          refine wpAnyH_take (i := 2) (oi := ?dqr5q2) (v := ?dvr5q2) ?hir5q2 (by kernel_rfl) (by kernel_rfl) (by kernel_rfl) ?hQr5q2 (Or.inl ⟨?hwr5q2, ?hyr5q2⟩) hS ?hrr5q2
          case hir5q2 => simp only [List.getElem?_toArray, List.getElem?_cons_succ, List.getElem?_cons_zero]; rfl
          case hQr5q2 => exact fun _ _ _ h => h
          case hwr5q2 => rfl
          case hyr5q2 => (intro w hSw; (try dsimp only at hSw); go_simp; (try with_reducible rfl))
          simp only [Act.put, List.setIfInBounds_toArray, List.set_cons_zero, List.set_cons_succ]
          refine wpAnyH_take (i := 3) (oi := ?dqr5q3) (v := ?dvr5q3) ?hir5q3 (by kernel_rfl) (by kernel_rfl) (by kernel_rfl) ?hQr5q3 (Or.inl ⟨?hwr5q3, ?hyr5q3⟩) hS ?hrr5q3
          case hir5q3 => simp only [List.getElem?_toArray, List.getElem?_cons_succ, List.getElem?_cons_zero]; rfl
          case hQr5q3 => exact fun _ _ _ h => h
          case hwr5q3 => rfl
          case hyr5q3 => (intro w hSw; (try dsimp only at hSw); go_simp; (try with_reducible rfl))
          simp only [Act.put, List.setIfInBounds_toArray, List.set_cons_zero, List.set_cons_succ]
          refine wpAnyH_ready (rs := [4]) (by kernel_rfl) (by simp) ?_
          refine AllReadyH.cons (o := ?dqr5q4) ?hir5q4 (fun K hK => ?_) AllReadyH.nil
          case hir5q4 => simp only [List.getElem?_toArray, List.getElem?_cons_succ, List.getElem?_cons_zero]; rfl
          go_simp
          refine (cO.out _ (SN1.out.after hN'.out hS.2.2)).mono ?_
          rintro e u1 ⟨rfl, hb1⟩
          have hS2 := (And.intro (keep_cell hb1 hS.1) (And.intro (keep_cell hb1 hS.2.1) (Below.after hS.2.2 hb1)))
          clear hS
          refine hK.out _ _ hS2 (fun hS => ?_)
          clear hS2 hK K
          try simp only [Act.put, List.setIfInBounds_toArray, List.set_cons_zero, List.set_cons_succ]
          refine wpAnyH_ready (rs := [5]) (by kernel_rfl) (by simp) ?_
          refine AllReadyH.cons (o := ?dqr5q5) ?hir5q5 (fun K hK => ?_) AllReadyH.nil
          case hir5q5 => simp only [List.getElem?_toArray, List.getElem?_cons_succ, List.getElem?_cons_zero]; rfl
          go_simp
          refine (cE.out _ (ST1.out.after hN'.out hS.2.2) (SO1.out.after hN'.out hS.2.2)).mono ?_
          rintro e u2 ⟨rfl, hb2⟩
          have hS2 := (And.intro (keep_cell hb2 hS.1) (And.intro (keep_cell hb2 hS.2.1) (Below.after hS.2.2 hb2)))
          clear hS
          refine hK.out _ _ hS2 (fun hS => ?_)
          clear hS2 hK K
          try simp only [Act.put, List.setIfInBounds_toArray, List.set_cons_zero, List.set_cons_succ]
          refine wpAnyH_take (i := 6) (oi := ?dqr5q6) (v := ?dvr5q6) ?hir5q6 (by kernel_rfl) (by kernel_rfl) (by kernel_rfl) ?hQr5q6 (Or.inl ⟨?hwr5q6, ?hyr5q6⟩) hS ?hrr5q6
          case hir5q6 => simp only [List.getElem?_toArray, List.getElem?_cons_succ, List.getElem?_cons_zero]; rfl
          case hQr5q6 => exact fun _ _ _ h => h
          case hwr5q6 => rfl
          case hyr5q6 => (intro w hSw; (try dsimp only at hSw); go_simp; (try with_reducible rfl))
          simp only [Act.put, List.setIfInBounds_toArray, List.set_cons_zero, List.set_cons_succ]
          refine wpAnyH_take (i := 7) (oi := ?dqr5q7) (v := ?dvr5q7) ?hir5q7 (by kernel_rfl) (by kernel_rfl) (by kernel_rfl) ?hQr5q7 (Or.inl ⟨?hwr5q7, ?hyr5q7⟩) hS ?hrr5q7
          case hir5q7 => simp only [List.getElem?_toArray, List.getElem?_cons_succ, List.getElem?_cons_zero]; rfl
          case hQr5q7 => exact fun _ _ _ h => h
          case hwr5q7 => rfl
          case hyr5q7 => (intro w hSw; (try dsimp only at hSw); go_simp; (try with_reducible rfl))
          simp only [Act.put, List.setIfInBounds_toArray, List.set_cons_zero, List.set_cons_succ]
          refine wpAnyH_done (by kernel_rfl) ?_ _
          dsimp only [OnlyNormal]
          have JJ2 := Lib.hid (JJ1.out.later hN'.out hS.2.2 D1.out)
          have SN2 := Lib.hid (SN1.out.after hN'.out hS.2.2)
          have ST2 := Lib.hid (ST1.out.after hN'.out hS.2.2)
          have HS2 := Lib.hid (HS1.out.next hS.2.2)
          have KO2 := Lib.hid (KO1.out.trans (keeps_below14 hS.2.2))
          have KJ2 := Lib.hid (KJ1.out.trans (.of_below hS.2.2 D1.out))
          have D2 : Hid (W6.heap.size ≤ u2.heap.size) := Nat.le_trans D1.out hS.2.2.size
          clear hS hb1 hb2 JJ1 SN1 ST1 SO1 HS1 KO1 KJ1 D1 t0 t1 cO cE
          obtain rfl : some aT = pT := HPT.out
          have t0 := JJ2.out.tbox.cell
          rw [AT.mk_ptr] at t0
          have t1 := HS2.out.cell 0
          have t2 := HS2.out.cell 1
          gi_wp2
          refine wpIn_round_held (S := fun W => W.cell? ⟨gT, 0, none⟩ = some (.pointer (some aT)) ∧ W.cell? ⟨g0, 0, none⟩ = some (fnV fo) ∧ W.cell? ⟨g0, 1, none⟩ = some (fnV fi) ∧ Below u2.heap.size u2 W) hmx (by kernel_rfl) ⟨t0, t1, t2, (Below.refl _ u2).drew⟩ (fun hS => ?_)
          refine wpAnyH_take (i := 0) (oi := ?dqr6q0) (v := ?dvr6q0) ?hir6q0 (by kernel_rfl) (by kernel_rfl) (by kernel_rfl) ?hQr6q0 (Or.inl ⟨?hwr6q0, ?hyr6q0⟩) hS ?hrr6q0
          case hir6q0 => simp only [List.getElem?_toArray, List.getElem?_cons_zero]; rfl
          case hQr6q0 => exact fun _ _ _ h => h
          case hwr6q0 => rfl
          case hyr6q0 => (intro w hSw; (try dsimp only at hSw); go_simp; (try with_reducible rfl))
          simp only [Act.put, List.setIfInBounds_toArray, List.set_cons_zero, List.set_cons_succ]
          refine wpAnyH_take (i := 1) (oi := ?dqr6q1) (v := ?dvr6q1) ?hir6q1 (by kernel_rfl) (by kernel_rfl) (by kernel_rfl) ?hQr6q1 (Or.inl ⟨?hwr6q1, ?hyr6q1⟩) hS ?hrr6q1
          case hir6q1 => simp only [List.getElem?_toArray, List.getElem?_cons_succ, List.getElem?_cons_zero]; rfl
          case hQr6q1 => exact fun _ _ _ h => h
          case hwr6q1 => rfl
          case hyr6q1 => (intro w hSw; (try dsimp only at hSw); go_simp; (try with_reducible rfl))
          simp only [Act.put, List.setIfInBounds_toArray, List.set_cons_zero, List.set_cons_succ]
          refine wpAnyH_take (i := 2) (oi := ?dqr6q2) (v := ?dvr6q2) ?hir6q2 (by kernel_rfl) (by kernel_rfl) (by kernel_rfl) ?hQr6q2 (Or.inl ⟨?hwr6q2, ?hyr6q2⟩) hS ?hrr6q2
          case hir6q2 => simp only [List.getElem?_toArray, List.getElem?_cons_succ, List.getElem?_cons_zero]; rfl
          case hQr6q2 => exact fun _ _ _ h => h
          case hwr6q2 => rfl
          case hyr6q2 => (intro w hSw; (try dsimp only at hSw); go_simp; (try with_reducible rfl))
          simp only [Act.put, List.setIfInBounds_toArray, List.set_cons_zero, List.set_cons_succ]
          refine wpAnyH_take (i := 4) (oi := ?dqr6q4) (v := ?dvr6q4) ?hir6q4 (by kernel_rfl) (by kernel_rfl) (by kernel_rfl) ?hQr6q4 (Or.inl ⟨?hwr6q4, ?hyr6q4⟩) hS ?hrr6q4
          case hir6q4 => simp only [List.getElem?_toArray, List.getElem?_cons_succ, List.getElem?_cons_zero]; rfl
          case hQr6q4 => exact fun _ _ _ h => h
          case hwr6q4 => rfl
          case hyr6q4 => (intro w hSw; (try dsimp only at hSw); go_simp; (try with_reducible rfl))
          simp only [Act.put, List.setIfInBounds_toArray, List.set_cons_zero, List.set_cons_succ]
          refine wpAnyH_take (i := 5) (oi := ?dqr6q5) (v := ?dvr6q5) ?hir6q5 (by kernel_rfl) (by kernel_rfl) (by kernel_rfl) ?hQr6q5 (Or.inl ⟨?hwr6q5, ?hyr6q5⟩) hS ?hrr6q5
          case hir6q5 => simp only [List.getElem?_toArray, List.getElem?_cons_succ, List.getElem?_cons_zero]; rfl
          case hQr6q5 => exact fun _ _ _ h => h
          case hwr6q5 => rfl
          case hyr6q5 => (intro w hSw; (try dsimp only at hSw); go_simp; (try with_reducible rfl))
          simp only [Act.put, List.setIfInBounds_toArray, List.set_cons_zero, List.set_cons_succ]
          refine wpAnyH_take (i := 6) (oi := ?dqr6q6) (v := ?dvr6q6) ?hir6q6 (by kernel_rfl) (by kernel_rfl) (by kernel_rfl) ?hQr6q6 (Or.inl ⟨?hwr6q6, ?hyr6q6⟩) hS ?hrr6q6
          case hir6q6 => simp only [List.getElem?_toArray, List.getElem?_cons_succ, List.getElem?_cons_zero]; rfl
          case hQr6q6 => exact fun _ _ _ h => h
          case hwr6q6 => rfl
          case hyr6q6 => (intro w hSw; (try dsimp only at hSw); go_simp; (try with_reducible rfl))
          simp only [Act.put, List.setIfInBounds_toArray, List.set_cons_zero, List.set_cons_succ]
          refine wpAnyH_ready (rs := [3]) (by kernel_rfl) (by simp) ?_
          refine AllReadyH.cons (o := ?dqr6q3) ?hir6q3 (fun K hK => ?_) AllReadyH.nil
          case hir6q3 => simp only [List.getElem?_toArray, List.getElem?_cons_succ, List.getElem?_cons_zero]; rfl
          go_simp
          refine (cTO.out _ (ST2.out.after hN'.out hS.2.2.2)).mono ?_
          rintro e u3 ⟨rfl, hb3⟩
          have hS2 := (And.intro (keep_cell hb3 hS.1) (And.intro (keep_cell hb3 hS.2.1) (And.intro (keep_cell hb3 hS.2.2.1) (Below.after hS.2.2.2 hb3))))
          clear hS
          refine hK.out _ _ hS2 (fun hS => ?_)
          clear hS2 hK K
          try simp only [Act.put, List.setIfInBounds_toArray, List.set_cons_zero, List.set_cons_succ]
          refine wpAnyH_ready (rs := [7]) (by kernel_rfl) (by simp) ?_
          refine AllReadyH.cons (o := ?dqr6q7) ?hir6q7 (fun K hK => ?_) AllReadyH.nil
          case hir6q7 => simp only [List.getElem?_toArray, List.getElem?_cons_succ, List.getElem?_cons_zero]; rfl
          go_simp
          refine (cTI.out _ (ST2.out.after hN'.out hS.2.2.2)).mono ?_
          rintro e u4 ⟨rfl, hb4⟩
          have hS2 := (And.intro (keep_cell hb4 hS.1) (And.intro (keep_cell hb4 hS.2.1) (And.intro (keep_cell hb4 hS.2.2.1) (Below.after hS.2.2.2 hb4))))
          clear hS
          refine hK.out _ _ hS2 (fun hS => ?_)
          clear hS2 hK K
          try simp only [Act.put, List.setIfInBounds_toArray, List.set_cons_zero, List.set_cons_succ]
          refine wpAnyH_ready (rs := [8]) (by kernel_rfl) (by simp) ?_
          refine AllReadyH.cons (o := ?dqr6q8) ?hir6q8 (fun K hK => ?_) AllReadyH.nil
          case hir6q8 => simp only [List.getElem?_toArray, List.getElem?_cons_succ, List.getElem?_cons_zero]; rfl
          go_simp
          refine (cE2.out _ (Stand.out hN'.out (ST2.out.after hN'.out hS.2.2.2)) (Stand.inn hN'.out (ST2.out.after hN'.out hS.2.2.2))).mono ?_
          rintro e u5 ⟨rfl, hb5⟩
          have hS2 := (And.intro (keep_cell hb5 hS.1) (And.intro (keep_cell hb5 hS.2.1) (And.intro (keep_cell hb5 hS.2.2.1) (Below.after hS.2.2.2 hb5))))
          clear hS
          refine hK.out _ _ hS2 (fun hS => ?_)
          clear hS2 hK K
          try simp only [Act.put, List.setIfInBounds_toArray, List.set_cons_zero, List.set_cons_succ]
          refine wpAnyH_take (i := 9) (oi := ?dqr6q9) (v := ?dvr6q9) ?hir6q9 (by kernel_rfl) (by kernel_rfl) (by kernel_rfl) ?hQr6q9 (Or.inl ⟨?hwr6q9, ?hyr6q9⟩) hS ?hrr6q9
          case hir6q9 => simp only [List.getElem?_toArray, List.getElem?_cons_succ, List.getElem?_cons_zero]; rfl
          case hQr6q9 => exact fun _ _ _ h => h
          case hwr6q9 => rfl
          case hyr6q9 => (intro w hSw; (try dsimp only at hSw); go_simp; (try with_reducible rfl))
          simp only [Act.put, List.setIfInBounds_toArray, List.set_cons_zero, List.set_cons_succ]
          refine wpAnyH_take (i := 10) (oi := ?dqr6q10) (v := ?dvr6q10) ?hir6q10 (by kernel_rfl) (by kernel_rfl) (by kernel_rfl) ?hQr6q10 (Or.inl ⟨?hwr6q10, ?hyr6q10⟩) hS ?hrr6q10
          case hir6q10 => simp only [List.getElem?_toArray, List.getElem?_cons_succ, List.getElem?_cons_zero]; rfl
          case hQr6q10 => exact fun _ _ _ h => h
          case hwr6q10 => rfl
          case hyr6q10 => (intro w hSw; (try dsimp only at hSw); go_simp; (try with_reducible rfl))
          simp only [Act.put, List.setIfInBounds_toArray, List.set_cons_zero, List.set_cons_succ]
          refine wpAnyH_done (by kernel_rfl) ?_ _
          dsimp only [OnlyNormal]
          have JJ5 := Lib.hid (JJ2.out.later hN'.out hS.2.2.2 D2.out)
          have SN5 := Lib.hid (SN2.out.after hN'.out hS.2.2.2)
          have ST5 := Lib.hid (ST2.out.after hN'.out hS.2.2.2)
          have HS5 := Lib.hid (HS2.out.next hS.2.2.2)
          have KO5 := Lib.hid (KO2.out.trans (keeps_below14 hS.2.2.2))
          have D5 : Hid (W6.heap.size ≤ u5.heap.size) := Nat.le_trans D2.out hS.2.2.2.size
          clear hS hb3 hb4 hb5 JJ2 SN2 ST2 HS2 KO2 KJ2 D2 t0 t1 t2 cTO cTI cE2
          have r0 := HS5.out.cell 0
          have r1 := HS5.out.cell 1
          have r2 := HS5.out.cell 2
          have v0 := JJ5.out.tbox.cell
          rw [AT.mk_ptr] at v0
          have cW := Lib.hid (once15_any hN'.out HD.out u5 aN y l r aT xT O I SN5.out ST5.out)
          rw [show sidesV fo fi fm = .agg #[fnV fo, fnV fi, fnV fm] from rfl] at cW
          gi_wp2
          refine ⟨trivial, ?_⟩
          refine CallsIn.inRound L' (callsIn_wide.2 (cW.out.mono ?_))
          rintro e u6 ⟨a, x, b, z, rfl, hx, hg, hz, hs, ⟨ha, hbb⟩, hb6⟩
          have JJ6 := Lib.hid (JJ5.out.later hN'.out hb6 D5.out)
          have v1 := JJ6.out.tbox.cell
          have v2 := JJ6.out.tbox.frozen
          rw [AT.mk_ptr] at v1
          have KO6 := Lib.hid (KO5.out.trans (keeps_below14 hb6))
          have D6 : Hid (W6.heap.size ≤ u6.heap.size) := Nat.le_trans D5.out hb6.size
          have HXA := Lib.hid hx
          have HXG := Lib.hid hg
          have HXS := Lib.hid hs
          have HXZ := Lib.hid hz
          have FA : Hid (a ∉ base) := fun h => by have e1 := OB.out _ h; have e2 := D5.out; have e3 := B2.out.size; have e4 := z1.out; have e5 := z2.out; have e6 := ha; omega
          have FB : Hid (b ∉ base) := fun h => by have e1 := OB.out _ h; have e2 := D5.out; have e3 := B2.out.size; have e4 := z1.out; have e5 := z2.out; have e6 := hbb; omega
          have J7 := Lib.hid (JJ6.out.put hN'.out D6.out HXS.out)
          rw [AT.mk_ptr] at J7
          clear hx hg hs hz ha hbb hb6 cW r0 r1 r2 v0
          gi_wp2
          refine ⟨(KO6.out.trans (KeepsOthers.setCell _ _ _)).from _, rfl, rest, .n aN y l r, _, pre.length + 1, HSUF.out, ?_, by have := HLEN.out; have := HM.out; omega, by rw [HM.out]; exact J7.out⟩
          have hn1 : n - 1 + 1 = n := by have := HLEN.out; omega
          rw [← hn1]
          exact Rep.once H9.out QB.out HR.out HAT.out Q1.out Q2.out I2.out I3.out HXA.out HXG.out HXZ.out ⟨FA.out, FB.out⟩ OH.out
        · skip
          obtain ⟨aM, xM, MO, MI, eO⟩ : ∃ aM xM MO MI, O = AT.mk d aM xM MO MI := by
            obtain ⟨aM, xM, l', r', eO⟩ := tag_node (T := O) (by omega)
            exact ⟨aM, xM, _, _, eO.trans (AT.mk_of d aM xM l' r')⟩
          subst eO
          have cTO := Lib.hid (fun W (h : Stand Nd W (AT.mk d aT xT (AT.mk d aM xM MO MI) I)) => outD15 HD.out W h)
          have cTI := Lib.hid (fun W (h : Stand Nd W (AT.mk d aT xT (AT.mk d aM xM MO MI) I)) => inD15 HD.out W h)
          have cE2 : Hid (∀ W, Stand Nd W (AT.mk d aM xM MO MI) → Stand Nd W I → Calls Try.prog 87 #[.pointer (AT.mk d aM xM MO MI).ptr, .pointer I.ptr] W fun e w' => e = .returned (.int .u64 (((AT.mk d aM xM MO MI).tr.tag.toNat - I.tr.tag.toNat : Nat) : Int)) ∧ Below W.heap.size W w') := fun W h h' => excess_any hN'.out W _ _ _ _ h.tree h'.tree
          have hF0 : 0 < (AT.mk d aM xM MO MI).tr.tag.toNat - I.tr.tag.toNat := by omega
          obtain ⟨F, hF⟩ : ∃ F, (AT.mk d aM xM MO MI).tr.tag.toNat - I.tr.tag.toNat = F := ⟨_, rfl⟩
          rw [hF] at cE2 hF0
          obtain ⟨pQ, hpQ⟩ : ∃ p, (AT.mk d aM xM MO MI).ptr = p := ⟨_, rfl⟩
          obtain ⟨pI, hpI⟩ : ∃ p, I.ptr = p := ⟨_, rfl⟩
          rw [hpQ] at cTO
          rw [hpI] at cTI
          rw [hpQ, hpI] at cE2
          have dF : decide ((0 : Int) < (F : Int)) = true := decide_eq_true (by omega)
          have I1 := Lib.hid i1
          have I2 := Lib.hid i2
          have I3 := Lib.hid i3
          have Q1 := Lib.hid q1
          have Q2 := Lib.hid q2
          have HAT := Lib.hid haT
          have QB : Hid (o ≤ H.tr.tag.toNat) := by
            obtain ⟨q9, w1, w2⟩ := Way.av AH.out HR.out.way.2
            have := w1.same q2
            show o ≤ _
            omega
          clear hF hpQ hpI i1 i2 i3 q1 q2 haT
          have hE0 : ¬ ((AT.mk d aT xT (AT.mk d aM xM MO MI) I).tr.tag.toNat - ((AT.n aN y l r).side d).tr.tag.toNat) ≤ 1 := by omega
          have cE : Hid (∀ W, Stand Nd W ((AT.mk d aT xT (AT.mk d aM xM MO MI) I)) → Stand Nd W ((AT.n aN y l r).side d) → Calls Try.prog 87 #[.pointer ((AT.mk d aT xT (AT.mk d aM xM MO MI) I)).ptr, .pointer ((AT.n aN y l r).side d).ptr] W fun e w' => e = .returned (.int .u64 ((((AT.mk d aT xT (AT.mk d aM xM MO MI) I)).tr.tag.toNat - ((AT.n aN y l r).side d).tr.tag.toNat : Nat) : Int)) ∧ Below W.heap.size W w') := fun W h h' => excess_any hN'.out W _ _ _ _ h.tree h'.tree
          obtain ⟨E, hE⟩ : ∃ E, ((AT.mk d aT xT (AT.mk d aM xM MO MI) I)).tr.tag.toNat - ((AT.n aN y l r).side d).tr.tag.toNat = E := ⟨_, rfl⟩
          rw [hE] at cE hE0
          obtain ⟨pT, hpT⟩ : ∃ p, ((AT.mk d aT xT (AT.mk d aM xM MO MI) I)).ptr = p := ⟨_, rfl⟩
          obtain ⟨pO, hpO⟩ : ∃ p, ((AT.n aN y l r).side d).ptr = p := ⟨_, rfl⟩
          rw [hpT, hpO] at cE
          rw [hpO] at cO
          rw [hpT] at t0
          have dE : decide ((E : Int) ≤ 1) = false := decide_eq_false (by omega)
          have HPT := Lib.hid hpT
          have HT0 := Lib.hid ht
          clear hE hpT hpO ht
          gi_wp2
          rw [HU1.out]
          clear y11 xR fR ct HU1
          refine wpIn_round_held (S := fun W => W.cell? ⟨gT, 0, none⟩ = some (.pointer pT) ∧ W.cell? ⟨g0, 0, none⟩ = some (fnV fo) ∧ Below U1.heap.size U1 W) hmx (by kernel_rfl) ⟨t0, t1, (Below.refl _ U1).drew⟩ (fun hS => ?_)
          refine wpAnyH_take (i := 0) (oi := ?dqr7q0) (v := ?dvr7q0) ?hir7q0 (by kernel_rfl) (by kernel_rfl) (by kernel_rfl) ?hQr7q0 (Or.inl ⟨?hwr7q0, ?hyr7q0⟩) hS ?hrr7q0
          case hir7q0 => simp only [List.getElem?_toArray, List.getElem?_cons_zero]; rfl
          case hQr7q0 => exact fun _ _ _ h => h
          case hwr7q0 => rfl
          case hyr7q0 => (intro w hSw; (try dsimp only at hSw); go_simp; (try with_reducible rfl))
          simp only [Act.put, List.setIfInBounds_toArray, List.set_cons_zero, List.set_cons_succ]
          refine wpAnyH_take (i := 1) (oi := ?dqr7q1) (v := ?dvr7q1) ?hir7q1 (by kernel_rfl) (by kernel_rfl) (by kernel_rfl) ?hQr7q1 (Or.inl ⟨?hwr7q1, ?hyr7q1⟩) hS ?hrr7q1
          case hir7q1 => simp only [List.getElem?_toArray, List.getElem?_cons_succ, List.getElem?_cons_zero]; rfl
          case hQr7q1 => exact fun _ _ _ h => h
          case hwr7q1 => rfl
          case hyr7q1 => (intro w hSw; (try dsimp only at hSw); go_simp; (try with_reducible rfl))
          simp only [Act.put, List.setIfInBounds_toArray, List.set_cons_zero, List.set_cons_succ]
          refine wpAnyH_take (i := 2) (oi := ?dqr7q2) (v := ?dvr7q2) ?hir7q2 (by kernel_rfl) (by kernel_rfl) (by kernel_rfl) ?hQr7q2 (Or.inl ⟨?hwr7q2, ?hyr7q2⟩) hS ?hrr7q2
          case hir7q2 => simp only [List.getElem?_toArray, List.getElem?_cons_succ, List.getElem?_cons_zero]; rfl
          case hQr7q2 => exact fun _ _ _ h => h
          case hwr7q2 => rfl
          case hyr7q2 => (intro w hSw; (try dsimp only at hSw); go_simp; (try with_reducible rfl))
          simp only [Act.put, List.setIfInBounds_toArray, List.set_cons_zero, List.set_cons_succ]
          refine wpAnyH_take (i := 3) (oi := ?dqr7q3) (v := ?dvr7q3) ?hir7q3 (by kernel_rfl) (by kernel_rfl) (by kernel_rfl) ?hQr7q3 (Or.inl ⟨?hwr7q3, ?hyr7q3⟩) hS ?hrr7q3
          case hir7q3 => simp only [List.getElem?_toArray, List.getElem?_cons_succ, List.getElem?_cons_zero]; rfl
          case hQr7q3 => exact fun _ _ _ h => h
          case hwr7q3 => rfl
          case hyr7q3 => (intro w hSw; (try dsimp only at hSw); go_simp; (try with_reducible rfl))
          simp only [Act.put, List.setIfInBounds_toArray, List.set_cons_zero, List.set_cons_succ]
          refine wpAnyH_ready (rs := [4]) (by kernel_rfl) (by simp) ?_
          refine AllReadyH.cons (o := ?dqr7q4) ?hir7q4 (fun K hK => ?_) AllReadyH.nil
          case hir7q4 => simp only [List.getElem?_toArray, List.getElem?_cons_succ, List.getElem?_cons_zero]; rfl
          go_simp
          refine (cO.out _ (SN1.out.after hN'.out hS.2.2)).mono ?_
          rintro e u1 ⟨rfl, hb1⟩
          have hS2 := (And.intro (keep_cell hb1 hS.1) (And.intro (keep_cell hb1 hS.2.1) (Below.after hS.2.2 hb1)))
          clear hS
          refine hK.out _ _ hS2 (fun hS => ?_)
          clear hS2 hK K
          try simp only [Act.put, List.setIfInBounds_toArray, List.set_cons_zero, List.set_cons_succ]
          refine wpAnyH_ready (rs := [5]) (by kernel_rfl) (by simp) ?_
          refine AllReadyH.cons (o := ?dqr7q5) ?hir7q5 (fun K hK => ?_) AllReadyH.nil
          case hir7q5 => simp only [List.getElem?_toArray, List.getElem?_cons_succ, List.getElem?_cons_zero]; rfl
          go_simp
          refine (cE.out _ (ST1.out.after hN'.out hS.2.2) (SO1.out.after hN'.out hS.2.2)).mono ?_
          rintro e u2 ⟨rfl, hb2⟩
          have hS2 := (And.intro (keep_cell hb2 hS.1) (And.intro (keep_cell hb2 hS.2.1) (Below.after hS.2.2 hb2)))
          clear hS
          refine hK.out _ _ hS2 (fun hS => ?_)
          clear hS2 hK K
          try simp only [Act.put, List.setIfInBounds_toArray, List.set_cons_zero, List.set_cons_succ]
          refine wpAnyH_take (i := 6) (oi := ?dqr7q6) (v := ?dvr7q6) ?hir7q6 (by kernel_rfl) (by kernel_rfl) (by kernel_rfl) ?hQr7q6 (Or.inl ⟨?hwr7q6, ?hyr7q6⟩) hS ?hrr7q6
          case hir7q6 => simp only [List.getElem?_toArray, List.getElem?_cons_succ, List.getElem?_cons_zero]; rfl
          case hQr7q6 => exact fun _ _ _ h => h
          case hwr7q6 => rfl
          case hyr7q6 => (intro w hSw; (try dsimp only at hSw); go_simp; (try with_reducible rfl))
          simp only [Act.put, List.setIfInBounds_toArray, List.set_cons_zero, List.set_cons_succ]
          refine wpAnyH_take (i := 7) (oi := ?dqr7q7) (v := ?dvr7q7) ?hir7q7 (by kernel_rfl) (by kernel_rfl) (by kernel_rfl) ?hQr7q7 (Or.inl ⟨?hwr7q7, ?hyr7q7⟩) hS ?hrr7q7
          case hir7q7 => simp only [List.getElem?_toArray, List.getElem?_cons_succ, List.getElem?_cons_zero]; rfl
          case hQr7q7 => exact fun _ _ _ h => h
          case hwr7q7 => rfl
          case hyr7q7 => (intro w hSw; (try dsimp only at hSw); go_simp; (try with_reducible rfl))
          simp only [Act.put, List.setIfInBounds_toArray, List.set_cons_zero, List.set_cons_succ]
          refine wpAnyH_done (by kernel_rfl) ?_ _
          dsimp only [OnlyNormal]
          have JJ2 := Lib.hid (JJ1.out.later hN'.out hS.2.2 D1.out)
          have SN2 := Lib.hid (SN1.out.after hN'.out hS.2.2)
          have ST2 := Lib.hid (ST1.out.after hN'.out hS.2.2)
          have HS2 := Lib.hid (HS1.out.next hS.2.2)
          have KO2 := Lib.hid (KO1.out.trans (keeps_below14 hS.2.2))
          have KJ2 := Lib.hid (KJ1.out.trans (.of_below hS.2.2 D1.out))
          have D2 : Hid (W6.heap.size ≤ u2.heap.size) := Nat.le_trans D1.out hS.2.2.size
          clear hS hb1 hb2 JJ1 SN1 ST1 SO1 HS1 KO1 KJ1 D1 t0 t1 cO cE
          obtain rfl : some aT = pT := HPT.out
          have t0 := JJ2.out.tbox.cell
          rw [AT.mk_ptr] at t0
          have t1 := HS2.out.cell 0
          have t2 := HS2.out.cell 1
          gi_wp2
          refine wpIn_round_held (S := fun W => W.cell? ⟨gT, 0, none⟩ = some (.pointer (some aT)) ∧ W.cell? ⟨g0, 0, none⟩ = some (fnV fo) ∧ W.cell? ⟨g0, 1, none⟩ = some (fnV fi) ∧ Below u2.heap.size u2 W) hmx (by kernel_rfl) ⟨t0, t1, t2, (Below.refl _ u2).drew⟩ (fun hS => ?_)
          refine wpAnyH_take (i := 0) (oi := ?dqr8q0) (v := ?dvr8q0) ?hir8q0 (by kernel_rfl) (by kernel_rfl) (by kernel_rfl) ?hQr8q0 (Or.inl ⟨?hwr8q0, ?hyr8q0⟩) hS ?hrr8q0
          case hir8q0 => simp only [List.getElem?_toArray, List.getElem?_cons_zero]; rfl
          case hQr8q0 => exact fun _ _ _ h => h
          case hwr8q0 => rfl
          case hyr8q0 => (intro w hSw; (try dsimp only at hSw); go_simp; (try with_reducible rfl))
          simp only [Act.put, List.setIfInBounds_toArray, List.set_cons_zero, List.set_cons_succ]
          refine wpAnyH_take (i := 1) (oi := ?dqr8q1) (v := ?dvr8q1) ?hir8q1 (by kernel_rfl) (by kernel_rfl) (by kernel_rfl) ?hQr8q1 (Or.inl ⟨?hwr8q1, ?hyr8q1⟩) hS ?hrr8q1
          case hir8q1 => simp only [List.getElem?_toArray, List.getElem?_cons_succ, List.getElem?_cons_zero]; rfl
          case hQr8q1 => exact fun _ _ _ h => h
          case hwr8q1 => rfl
          case hyr8q1 => (intro w hSw; (try dsimp only at hSw); go_simp; (try with_reducible rfl))
          simp only [Act.put, List.setIfInBounds_toArray, List.set_cons_zero, List.set_cons_succ]
          refine wpAnyH_take (i := 2) (oi := ?dqr8q2) (v := ?dvr8q2) ?hir8q2 (by kernel_rfl) (by kernel_rfl) (by kernel_rfl) ?hQr8q2 (Or.inl ⟨?hwr8q2, ?hyr8q2⟩) hS ?hrr8q2
          case hir8q2 => simp only [List.getElem?_toArray, List.getElem?_cons_succ, List.getElem?_cons_zero]; rfl
          case hQr8q2 => exact fun _ _ _ h => h
          case hwr8q2 => rfl
          case hyr8q2 => (intro w hSw; (try dsimp only at hSw); go_simp; (try with_reducible rfl))
          simp only [Act.put, List.setIfInBounds_toArray, List.set_cons_zero, List.set_cons_succ]
          refine wpAnyH_take (i := 4) (oi := ?dqr8q4) (v := ?dvr8q4) ?hir8q4 (by kernel_rfl) (by kernel_rfl) (by kernel_rfl) ?hQr8q4 (Or.inl ⟨?hwr8q4, ?hyr8q4⟩) hS ?hrr8q4
          case hir8q4 => simp only [List.getElem?_toArray, List.getElem?_cons_succ, List.getElem?_cons_zero]; rfl
          case hQr8q4 => exact fun _ _ _ h => h
          case hwr8q4 => rfl
          case hyr8q4 => (intro w hSw; (try dsimp only at hSw); go_simp; (try with_reducible rfl))
          simp only [Act.put, List.setIfInBounds_toArray, List.set_cons_zero, List.set_cons_succ]
          refine wpAnyH_take (i := 5) (oi := ?dqr8q5) (v := ?dvr8q5) ?hir8q5 (by kernel_rfl) (by kernel_rfl) (by kernel_rfl) ?hQr8q5 (Or.inl ⟨?hwr8q5, ?hyr8q5⟩) hS ?hrr8q5
          case hir8q5 => simp only [List.getElem?_toArray, List.getElem?_cons_succ, List.getElem?_cons_zero]; rfl
          case hQr8q5 => exact fun _ _ _ h => h
          case hwr8q5 => rfl
          case hyr8q5 => (intro w hSw; (try dsimp only at hSw); go_simp; (try with_reducible rfl))
          simp only [Act.put, List.setIfInBounds_toArray, List.set_cons_zero, List.set_cons_succ]
          refine wpAnyH_take (i := 6) (oi := ?dqr8q6) (v := ?dvr8q6) ?hir8q6 (by kernel_rfl) (by kernel_rfl) (by kernel_rfl) ?hQr8q6 (Or.inl ⟨?hwr8q6, ?hyr8q6⟩) hS ?hrr8q6
          case hir8q6 => simp only [List.getElem?_toArray, List.getElem?_cons_succ, List.getElem?_cons_zero]; rfl
          case hQr8q6 => exact fun _ _ _ h => h
          case hwr8q6 => rfl
          case hyr8q6 => (intro w hSw; (try dsimp only at hSw); go_simp; (try with_reducible rfl))
          simp only [Act.put, List.setIfInBounds_toArray, List.set_cons_zero, List.set_cons_succ]
          refine wpAnyH_ready (rs := [3]) (by kernel_rfl) (by simp) ?_
          refine AllReadyH.cons (o := ?dqr8q3) ?hir8q3 (fun K hK => ?_) AllReadyH.nil
          case hir8q3 => simp only [List.getElem?_toArray, List.getElem?_cons_succ, List.getElem?_cons_zero]; rfl
          go_simp
          refine (cTO.out _ (ST2.out.after hN'.out hS.2.2.2)).mono ?_
          rintro e u3 ⟨rfl, hb3⟩
          have hS2 := (And.intro (keep_cell hb3 hS.1) (And.intro (keep_cell hb3 hS.2.1) (And.intro (keep_cell hb3 hS.2.2.1) (Below.after hS.2.2.2 hb3))))
          clear hS
          refine hK.out _ _ hS2 (fun hS => ?_)
          clear hS2 hK K
          try simp only [Act.put, List.setIfInBounds_toArray, List.set_cons_zero, List.set_cons_succ]
          refine wpAnyH_ready (rs := [7]) (by kernel_rfl) (by simp) ?_
          refine AllReadyH.cons (o := ?dqr8q7) ?hir8q7 (fun K hK => ?_) AllReadyH.nil
          case hir8q7 => simp only [List.getElem?_toArray, List.getElem?_cons_succ, List.getElem?_cons_zero]; rfl
          go_simp
          refine (cTI.out _ (ST2.out.after hN'.out hS.2.2.2)).mono ?_
          rintro e u4 ⟨rfl, hb4⟩
          have hS2 := (And.intro (keep_cell hb4 hS.1) (And.intro (keep_cell hb4 hS.2.1) (And.intro (keep_cell hb4 hS.2.2.1) (Below.after hS.2.2.2 hb4))))
          clear hS
          refine hK.out _ _ hS2 (fun hS => ?_)
          clear hS2 hK K
          try simp only [Act.put, List.setIfInBounds_toArray, List.set_cons_zero, List.set_cons_succ]
          refine wpAnyH_ready (rs := [8]) (by kernel_rfl) (by simp) ?_
          refine AllReadyH.cons (o := ?dqr8q8) ?hir8q8 (fun K hK => ?_) AllReadyH.nil
          case hir8q8 => simp only [List.getElem?_toArray, List.getElem?_cons_succ, List.getElem?_cons_zero]; rfl
          go_simp
          refine (cE2.out _ (Stand.out hN'.out (ST2.out.after hN'.out hS.2.2.2)) (Stand.inn hN'.out (ST2.out.after hN'.out hS.2.2.2))).mono ?_
          rintro e u5 ⟨rfl, hb5⟩
          have hS2 := (And.intro (keep_cell hb5 hS.1) (And.intro (keep_cell hb5 hS.2.1) (And.intro (keep_cell hb5 hS.2.2.1) (Below.after hS.2.2.2 hb5))))
          clear hS
          refine hK.out _ _ hS2 (fun hS => ?_)
          clear hS2 hK K
          try simp only [Act.put, List.setIfInBounds_toArray, List.set_cons_zero, List.set_cons_succ]
          refine wpAnyH_take (i := 9) (oi := ?dqr8q9) (v := ?dvr8q9) ?hir8q9 (by kernel_rfl) (by kernel_rfl) (by kernel_rfl) ?hQr8q9 (Or.inl ⟨?hwr8q9, ?hyr8q9⟩) hS ?hrr8q9
          case hir8q9 => simp only [List.getElem?_toArray, List.getElem?_cons_succ, List.getElem?_cons_zero]; rfl
          case hQr8q9 => exact fun _ _ _ h => h
          case hwr8q9 => rfl
          case hyr8q9 => (intro w hSw; (try dsimp only at hSw); go_simp; (try with_reducible rfl))
          simp only [Act.put, List.setIfInBounds_toArray, List.set_cons_zero, List.set_cons_succ]
          refine wpAnyH_take (i := 10) (oi := ?dqr8q10) (v := ?dvr8q10) ?hir8q10 (by kernel_rfl) (by kernel_rfl) (by kernel_rfl) ?hQr8q10 (Or.inl ⟨?hwr8q10, ?hyr8q10⟩) hS ?hrr8q10
          case hir8q10 => simp only [List.getElem?_toArray, List.getElem?_cons_succ, List.getElem?_cons_zero]; rfl
          case hQr8q10 => exact fun _ _ _ h => h
          case hwr8q10 => rfl
          case hyr8q10 => (intro w hSw; (try dsimp only at hSw); go_simp; (try with_reducible rfl))
          simp only [Act.put, List.setIfInBounds_toArray, List.set_cons_zero, List.set_cons_succ]
          refine wpAnyH_done (by kernel_rfl) ?_ _
          dsimp only [OnlyNormal]
          have JJ5 := Lib.hid (JJ2.out.later hN'.out hS.2.2.2 D2.out)
          have SN5 := Lib.hid (SN2.out.after hN'.out hS.2.2.2)
          have ST5 := Lib.hid (ST2.out.after hN'.out hS.2.2.2)
          have HS5 := Lib.hid (HS2.out.next hS.2.2.2)
          have KO5 := Lib.hid (KO2.out.trans (keeps_below14 hS.2.2.2))
          have D5 : Hid (W6.heap.size ≤ u5.heap.size) := Nat.le_trans D2.out hS.2.2.2.size
          clear hS hb3 hb4 hb5 JJ2 SN2 ST2 HS2 KO2 KJ2 D2 t0 t1 t2 cTO cTI cE2
          have r0 := HS5.out.cell 0
          have r1 := HS5.out.cell 1
          have r2 := HS5.out.cell 2
          have v0 := JJ5.out.tbox.cell
          rw [AT.mk_ptr] at v0
          have cW := Lib.hid (twice15_any hN'.out HD.out u5 aN y l r aT aM xT xM MO MI I SN5.out ST5.out)
          rw [show sidesV fo fi fm = .agg #[fnV fo, fnV fi, fnV fm] from rfl] at cW
          gi_wp2
          refine ⟨trivial, ?_⟩
          refine CallsIn.inRound L' (callsIn_wide.2 (cW.out.mono ?_))
          rintro e u6 ⟨a, x, b, z, c2, z2', rfl, hx, hg, hz2, hz, hs, ⟨ha, hbb, hcc⟩, hb6⟩
          have JJ6 := Lib.hid (JJ5.out.later hN'.out hb6 D5.out)
          have v1 := JJ6.out.tbox.cell
          have v2 := JJ6.out.tbox.frozen
          rw [AT.mk_ptr] at v1
          have KO6 := Lib.hid (KO5.out.trans (keeps_below14 hb6))
          have D6 : Hid (W6.heap.size ≤ u6.heap.size) := Nat.le_trans D5.out hb6.size
          have HXA := Lib.hid hx
          have HXG := Lib.hid hg
          have HXS := Lib.hid hs
          have HXZ := Lib.hid hz
          have HXU := Lib.hid hz2
          have FA : Hid (a ∉ base) := fun h => by have e1 := OB.out _ h; have e2 := D5.out; have e3 := B2.out.size; have e4 := z1.out; have e5 := z2.out; have e6 := ha; omega
          have FB : Hid (b ∉ base) := fun h => by have e1 := OB.out _ h; have e2 := D5.out; have e3 := B2.out.size; have e4 := z1.out; have e5 := z2.out; have e6 := hbb; omega
          have FC : Hid (c2 ∉ base) := fun h => by have e1 := OB.out _ h; have e2 := D5.out; have e3 := B2.out.size; have e4 := z1.out; have e5 := z2.out; have e6 := hcc; omega
          have J7 := Lib.hid (JJ6.out.put hN'.out D6.out HXS.out)
          rw [AT.mk_ptr] at J7
          clear hx hg hs hz ha hbb hb6 cW r0 r1 r2 v0 hz2 hcc
          gi_wp2
          refine ⟨(KO6.out.trans (KeepsOthers.setCell _ _ _)).from _, rfl, rest, .n aN y l r, _, pre.length + 1, HSUF.out, ?_, by have := HLEN.out; have := HM.out; omega, by rw [HM.out]; exact J7.out⟩
          have hn1 : n - 1 + 1 = n := by have := HLEN.out; omega
          rw [← hn1]
          exact Rep.twice H9.out QB.out HR.out HAT.out Q1.out Q2.out I2.out I3.out HXA.out HXG.out HXU.out HXZ.out ⟨FA.out, FB.out, FC.out⟩ OH.out
  case done =>
    rintro D1 U hD1 hI hK
    have hE : Hid (Done15 Nd d H L k v base ps n gT gR W6.heap.size W6 A c U) := HN.out ▸ hI.done
    clear hI
    obtain ⟨rest, M, T, cnt, e1, e2, e3, hJ⟩ := hE.out
    clear hE
    have hD : W6.heap.size ≤ U.heap.size := hJ.kj.size
    obtain ⟨m, hm⟩ : ∃ m, rest.length = m := ⟨_, rfl⟩
    rw [hm] at hJ
    have xR := hJ.rbox.cell
    have hg : g0 < gT := by have := S2.out.lt; have := z2.out; omega
    have zz := z1.out
    have s0 : Has U g0 89 #[fnV fo, fnV fi, fnV fm] := hJ.kj.has (S2.out.next B26.out) (by omega) (by omega) (by omega)
    have SH : Stand Nd U H := (HH2.out.after hN'.out B26.out).kept hN'.out (hJ.nk0 ⟨_, XT.out⟩ ⟨_, XR.out⟩ rfl)
    have nD1 : D1 ≠ gT ∧ D1 ≠ gR := by
      refine ⟨fun e => ?_, fun e => ?_⟩
      · subst e
        rw [show U.heap[D1]? = _ from hJ.tbox] at hK
        cases hK
      · subst e
        rw [show U.heap[D1]? = _ from hJ.rbox] at hK
        cases hK
    have cells : ∀ p r, (p :: r) <:+ rest.map AT.ptr → ∃ ad, A = some ad ∧ U.cell? (ad.add r.length) = some (.pointer p) := fun p r h => by
      have hs := h.trans e1
      obtain ⟨ad, e, hc⟩ := HC.out p r hs
      have h0 : 0 < n := by have h5 := hs.length_le; have h6 := HN.out; rw [List.length_cons, List.length_map] at h5; omega
      have h7 := HPL.out ad h0 e
      exact ⟨ad, e, (cell_same (a := ad.add r.length) (by rw [add_block]; exact hJ.kj.keep _ (by omega) (by omega) (by omega))).trans hc⟩
    have place : ∀ ad, 0 < m → A = some ad → ad.block < gT := fun ad h0 e => HPL.out ad (by omega) e
    have S9 := Lib.hid s0
    have SH9 := Lib.hid SH
    have C9 := Lib.hid cells
    have P9 := Lib.hid place
    have J9 := Lib.hid hJ
    have D9 := Lib.hid hD
    have HM := Lib.hid hm
    have E2 := Lib.hid e2
    have E3 := Lib.hid e3
    have ND1 := Lib.hid nD1
    have HK1 := Lib.hid hK
    have hm5 : m ≤ 1000 := by have := HP.out; have := HN.out; omega
    clear s0 SH cells place hJ hD hm e1 e2 e3 nD1 hg zz hK
    go_wp2_with fail
    refine (back_any A m c U).mono ?_
    rintro e U2 ⟨rfl, hU2⟩
    obtain ⟨gZ, hgZ⟩ : ∃ g, U.heap.size = g := ⟨_, rfl⟩
    rw [hgZ]
    have b2 : Below U.heap.size U U2 := hU2 ▸ (Below.refl _ U).alloc (Nat.le_refl _) _
    have xZ : Boxed U2 gZ 94 (.slice A m c) := hgZ ▸ hU2 ▸ Boxed.new U _ _
    have zZ : Hid (gZ + 1 = U2.heap.size ∧ W6.heap.size ≤ gZ ∧ gR < gZ ∧ gT < gZ ∧ g0 < gZ) := by
      have e1 : U2.heap.size = U.heap.size + 1 := by rw [← hU2]; simp
      have e2 := D9.out
      have e3 := z1.out
      have e4 := S2.out.lt
      have e5 := z2.out
      exact ⟨by omega, by omega, by omega, by omega, by omega⟩
    have XZ := Lib.hid xZ
    have J2 := Lib.hid (J9.out.later hN'.out b2 D9.out)
    have S10 := Lib.hid (S9.out.next b2)
    have SH10 := Lib.hid (SH9.out.after hN'.out b2)
    have C10 : Hid (∀ p r, (p :: r) <:+ rest.map AT.ptr → ∃ ad, A = some ad ∧ U2.cell? (ad.add r.length) = some (.pointer p)) := fun p r h => by
      obtain ⟨ad, e, hc⟩ := C9.out p r h
      exact ⟨ad, e, keep_cell b2 hc⟩
    have HK2 : Hid (U2.heap[D1]? = some (.deferred (some [])) ∧ D1 < U2.heap.size) := by
      have hlt := (Array.getElem?_eq_some_iff.1 HK1.out).1
      exact ⟨(b2.block D1 hlt).trans HK1.out, Nat.lt_of_lt_of_le hlt b2.size⟩
    have B9 : Hid (Below w.heap.size w U2) := (Below.after B2.out B26.out).trans (((J9.out.kj.below (n := w.heap.size) (by have := B2.out.size; have := z2.out; omega) (by have := B2.out.size; have := z2.out; have := z1.out; omega) (by have := B2.out.size; have := B26.out.size; omega))).trans (b2.mono (by have := B2.out.size; have := B26.out.size; have := D9.out; omega)))
    clear hU2 hgZ b2 xZ xR S9 SH9 C9 J9 HK1
    go_wp2_with fail
    refine (wpIn_wide (n := 9)).1 ?_
    refine wpIn_rangeFunc_runs (α := Nat × Option Addr) (mine := fun _ => false) rfl (by omega) (gf := 122) (lb := #[.pointer (some ⟨gZ, 0, none⟩)]) rfl trivial (enters_of Try.func122 (by kernel_rfl) rfl)
      (back_runs U2 gZ A m c (rest.map AT.ptr) (by rw [List.length_map]; exact HM.out) (by omega) XZ.out C10.out (Kj gT gR U2.heap.size)
        (fun X Y h => ⟨h.keep gZ (by have := zZ.out; omega) (by have := zZ.out; omega) (by have := zZ.out; omega), fun h0 ad e => by have := P9.out ad h0 e; have := zZ.out; have := z1.out; exact h.keep _ (by omega) (by omega) (by omega)⟩) _)
      Kj.trans (fun X l o o' h _ _ _ => Kj.put X l o' h) (Below.refl _ _) (fun _ => rfl)
      (fun pre V => ∃ (rest' : List AT) (M' T' : AT), backIts (rest.map AT.ptr) = pre ++ backIts (rest'.map AT.ptr) ∧ Fin d H L k v base n rest' M' T' (cnt + pre.length) ∧ JW Nd gT gR U2.heap.size U2 A c m T' V)
      (fun _ _ _ => False)
      (fun _ _ _ h ht => by obtain ⟨r', M', T', h1, h2, h3⟩ := h; exact ⟨r', M', T', h1, h2, h3.turned hN'.out rfl ht⟩) (fun _ _ _ _ h _ => h)
      ⟨rest, M, T, rfl, E2.out, J2.out.tbox, J2.out.rbox, J2.out.tree, Kj.refl _ _ _ _⟩
      (fun x a' _ => a' = { tmps := #[.agg #[fnV fo, fnV fi, fnV fm], .pointer ph, K k, K v, .pointer pl, .pointer (some ⟨g0, 0, none⟩), undef, undef, undef, undef, .pointer none, .pointer (some ⟨g11, 0, none⟩), .pointer pB, .pointer (some ⟨gT, 0, none⟩), .pointer (some ⟨gR, 0, none⟩), undef, undef, undef, .pointer x.2, .tuple #[.slice A n c, .pointer pB], .agg #[fnV fo, fnV fi, fnV fm], .pointer ph, .pointer pl, .tuple #[.slice A n c, .pointer pB], .slice A n c, .pointer pB, .pointer (some ⟨g0, 2, none⟩), fnV fm, .pointer pB, K k, K v, .pointer pl, .pointer (some a0), .slice A n c, .slice A n c, .func (.func 122) #[] #[.pointer (some ⟨gS, 0, none⟩)], undef, undef, undef, undef, undef, undef, undef, undef, undef, undef, undef, undef, undef, undef, undef, undef, undef, undef, undef, undef, undef, undef, undef, undef, undef, undef, undef, undef, undef, undef, undef, undef, undef, undef, undef, undef, .slice A m c, .func (.func 122) #[] #[.pointer (some ⟨gZ, 0, none⟩)], nI x.1, .pointer x.2, undef, undef, undef, undef, undef], defers := [] })
      (fun x a' _ X Y row hs hg hr => hs)
      ?assign2 ?body2 ?done2 ?stop2
    case assign2 =>
      rintro L' pre ⟨pl', q⟩ V KK hI hpx hK
      have hK2 := Lib.hid (hK { tmps := #[.agg #[fnV fo, fnV fi, fnV fm], .pointer ph, K k, K v, .pointer pl, .pointer (some ⟨g0, 0, none⟩), undef, undef, undef, undef, .pointer none, .pointer (some ⟨g11, 0, none⟩), .pointer pB, .pointer (some ⟨gT, 0, none⟩), .pointer (some ⟨gR, 0, none⟩), undef, undef, undef, .pointer q, .tuple #[.slice A n c, .pointer pB], .agg #[fnV fo, fnV fi, fnV fm], .pointer ph, .pointer pl, .tuple #[.slice A n c, .pointer pB], .slice A n c, .pointer pB, .pointer (some ⟨g0, 2, none⟩), fnV fm, .pointer pB, K k, K v, .pointer pl, .pointer (some a0), .slice A n c, .slice A n c, .func (.func 122) #[] #[.pointer (some ⟨gS, 0, none⟩)], undef, undef, undef, undef, undef, undef, undef, undef, undef, undef, undef, undef, undef, undef, undef, undef, undef, undef, undef, undef, undef, undef, undef, undef, undef, undef, undef, undef, undef, undef, undef, undef, undef, undef, undef, undef, .slice A m c, .func (.func 122) #[] #[.pointer (some ⟨gZ, 0, none⟩)], nI pl', .pointer q, undef, undef, undef, undef, undef], defers := [] } V ((KeepsOthers.refl _).from _) (Kj.refl _ _ _ _) hI rfl)
      clear hK hI hpx
      gi_wp2
      exact hK2.out
    case body2 =>
      rintro L' pre ⟨pl', q⟩ a' V hL _ ⟨rest', M', T', h1, hF, hJ⟩ rfl hpx
      obtain ⟨p0, r0, e1, e2, e3⟩ := its_next hpx h1
      cases rest' with
      | nil => cases e1
      | cons N rest' =>
        rw [List.map_cons] at e1
        injection e1 with e4 e5
        subst e4 e5
        injection e2 with e6 e7
        rw [List.length_map] at e6
        subst e6 e7
        obtain ⟨⟨aN, xN, ON, eN⟩, -⟩ := hF.way
        obtain ⟨y, l, r, eN2⟩ : ∃ y l r, N = .n aN y l r := ⟨xN, _, _, eN⟩
        clear eN
        subst eN2
        clear ON xN
        have hpn : (AT.n aN y l r).ptr = some aN := rfl
        rw [hpn]
        have hD : U2.heap.size ≤ V.heap.size := hJ.kj.size
        have zz := zZ.out
        have nk : NK U2 V := hJ.nk0 ⟨_, J2.out.tbox⟩ ⟨_, J2.out.rbox⟩ rfl
        have SH : Stand Nd V H := SH10.out.kept hN'.out nk
        have SN : Stand Nd V (.n aN y l r) := (Way.stand hN'.out SH hF.way).2 _ (List.mem_cons_self ..)
        have z3 := z1.out
        have s0 : Has V g0 89 #[fnV fo, fnV fi, fnV fm] := hJ.kj.has S10.out (by omega) (by have := S2.out.lt; have := z2.out; omega) (by have := S2.out.lt; have := z2.out; omega)
        have r0 := s0.cell 0
        have r1 := s0.cell 1
        have r2 := s0.cell 2
        have v0 := hJ.tbox.cell
        obtain ⟨pT, hpT⟩ : ∃ p, T'.ptr = p := ⟨_, rfl⟩
        have cW := Lib.hid (with15_any hN'.out HD.out V aN y l r T' SN hJ.tree)
        rw [hpT, show sidesV fo fi fm = .agg #[fnV fo, fnV fi, fnV fm] from rfl] at cW
        rw [hpT] at v0
        have HPT := Lib.hid hpT
        have HJ := Lib.hid hJ
        have HF := Lib.hid hF
        have HDV := Lib.hid hD
        have H3 := Lib.hid e3
        obtain ⟨q1, hq1⟩ : ∃ q1, rest'.length = q1 := ⟨_, rfl⟩
        have HQ1 := Lib.hid hq1
        rw [hq1]
        clear h1 hF hJ hpx e3 nk SH SN s0 zz z3 hpT hD hpn hq1
        gi_wp2
        refine ⟨trivial, ?_⟩
        refine CallsIn.inRound L' (callsIn_wide.2 (cW.out.mono ?_))
        rintro e u3 ⟨a, x, rfl, hx, hg, hs, ha, hb3⟩
        have JJ3 := Lib.hid (HJ.out.later hN'.out hb3 HDV.out)
        have v1 := JJ3.out.tbox.cell
        have v2 := JJ3.out.tbox.frozen
        rw [HPT.out] at v1
        have KO3 := Lib.hid (keeps_below14 hb3)
        have KJ3 : Hid (Kj gT gR U2.heap.size V u3) := .of_below hb3 HDV.out
        have D3 : Hid (U2.heap.size ≤ u3.heap.size) := Nat.le_trans HDV.out hb3.size
        have HXA : Hid (∀ b y' l' r', AT.n aN y l r = .n b y' l' r' → x.k = y'.k ∧ x.v = y'.v) := hx
        have HXG := Lib.hid hg
        have HXS := Lib.hid hs
        have HXB : Hid (a ∉ base) := fun h => by have e1 := OB.out _ h; have e2 := HDV.out; have e3 := B9.out.size; omega
        have J4 := Lib.hid (JJ3.out.put hN'.out D3.out HXS.out)
        rw [AT.mk_ptr] at J4
        have KJ4 : Hid (Kj gT gR U2.heap.size u3 (u3.setCell ⟨gT, 0, none⟩ (.pointer (some a)))) := Kj.grown (grownBy_setCell' u3 gT _) D3.out (fun r e => by cases e; exact .inr (.inl rfl))
        clear hx hg hs ha hb3 cW r0 r1 r2 v0
        gi_wp2
        refine ⟨(KO3.out.trans (KeepsOthers.setCell _ _ _)).from _, KJ3.out.trans KJ4.out, rest', .n aN y l r, _, by rw [← HQ1.out]; exact H3.out, ?_, J4.out⟩
        rw [List.length_append, List.length_singleton, ← Nat.add_assoc]
        exact Fin.with_ AH.out H9.out HF.out HXA.out HXG.out HXB.out OH.out
    case done2 =>
      rintro D2 V hD2 ⟨rest', M', T', h1, hF, hJ⟩ hK
      have hr0 : rest' = [] := by
        have := congrArg List.length h1
        rw [List.length_append, backIts_len, backIts_len, List.length_map, List.length_map] at this
        exact List.eq_nil_of_length_eq_zero (by omega)
      subst hr0
      have hcnt : cnt + (backIts (rest.map AT.ptr)).length = n := by rw [backIts_len, List.length_map]; exact E3.out
      rw [hcnt] at hF
      have hJn := hF.done AH.out HLE.out HN0.out
      have JN : Hid (Join15 d H L k v base T') := ⟨hJn.1, hJn.2.1, hJn.2.2.1, hJn.2.2.2.1, hJn.2.2.2.2⟩
      have v0 := hJ.tbox.cell
      have hK1 : (V.putObj D2 (.deferred none)).heap[D1]? = some (.deferred (some [])) := (World.putObj_heap_other (by have := HK2.out.2; omega)).trans ((hJ.kj.keep D1 HK2.out.2 ND1.out.1 ND1.out.2).trans HK2.out.1)
      have b1 : Below w.heap.size V (V.putObj D2 (.deferred none)) := belowK_b (w := w) (Nat.le_refl _) V D2 _ _ (by have := B9.out.size; omega) hK rfl rfl
      have bD1 : w.heap.size ≤ D1 := by
        have := hD1
        have := B2.out.size
        have := B26.out.size
        omega
      have b2 : Below w.heap.size (V.putObj D2 (.deferred none)) ((V.putObj D2 (.deferred none)).putObj D1 (.deferred none)) := belowK_b (w := w) (Nat.le_refl _) _ D1 _ _ bD1 hK1 rfl rfl
      have bV : Below w.heap.size U2 V := hJ.kj.below (by have := B2.out.size; have := z2.out; omega) (by have := B2.out.size; have := z2.out; have := z1.out; omega) B9.out.size
      have BF := Lib.hid (((B9.out.trans bV).trans b1).trans b2)
      have nk1 : NK V (V.putObj D2 (.deferred none)) := .of_grown (grownBy_putObj' V D2 _) (fun r e cs hc => by cases e; rw [hK] at hc; cases hc)
      have nk2 : NK (V.putObj D2 (.deferred none)) ((V.putObj D2 (.deferred none)).putObj D1 (.deferred none)) := .of_grown (grownBy_putObj' _ D1 _) (fun r e cs hc => by cases e; rw [hK1] at hc; cases hc)
      have SF := Lib.hid (hJ.tree.kept hN'.out (nk1.trans nk2))
      obtain ⟨pT, hpT⟩ : ∃ p, T'.ptr = p := ⟨_, rfl⟩
      rw [hpT] at v0
      have HPT := Lib.hid hpT
      clear hF hJn hJ h1 hcnt nk1 nk2 bV b1 b2 bD1 hpT
      go_wp2_with fail
      dsimp only [Exit.noGoto]
      refine ⟨by simp, .inl ⟨_, _, rfl, run_takeDeferred hK, ?_⟩⟩
      refine ⟨by simp, .inl ⟨_, _, rfl, run_takeDeferred hK1, ?_⟩⟩
      exact ⟨_, results_tmp rfl _ _ _, T', by rw [HPT.out]; rfl, SF.out, JN.out, BF.out⟩
    case stop2 =>
      rintro D2 c2 pre V _ _ h _
      exact h.elim
  case stop =>
    rintro D1 c' pre U hD1 hpre ⟨rfl, hI⟩ hK
    have hE := Lib.hid hI
    clear hI hpre
    obtain ⟨rest, M, T, cnt, e1, e2, e3, hJ⟩ := hE.out
    clear hE
    have hD : W6.heap.size ≤ U.heap.size := hJ.kj.size
    obtain ⟨m, hm⟩ : ∃ m, rest.length = m := ⟨_, rfl⟩
    rw [hm] at hJ
    have xR := hJ.rbox.cell
    have hg : g0 < gT := by have := S2.out.lt; have := z2.out; omega
    have zz := z1.out
    have s0 : Has U g0 89 #[fnV fo, fnV fi, fnV fm] := hJ.kj.has (S2.out.next B26.out) (by omega) (by omega) (by omega)
    have SH : Stand Nd U H := (HH2.out.after hN'.out B26.out).kept hN'.out (hJ.nk0 ⟨_, XT.out⟩ ⟨_, XR.out⟩ rfl)
    have nD1 : D1 ≠ gT ∧ D1 ≠ gR := by
      refine ⟨fun e => ?_, fun e => ?_⟩
      · subst e
        rw [show U.heap[D1]? = _ from hJ.tbox] at hK
        cases hK
      · subst e
        rw [show U.heap[D1]? = _ from hJ.rbox] at hK
        cases hK
    have cells : ∀ p r, (p :: r) <:+ rest.map AT.ptr → ∃ ad, A = some ad ∧ U.cell? (ad.add r.length) = some (.pointer p) := fun p r h => by
      have hs := h.trans e1
      obtain ⟨ad, e, hc⟩ := HC.out p r hs
      have h0 : 0 < n := by have h5 := hs.length_le; have h6 := HN.out; rw [List.length_cons, List.length_map] at h5; omega
      have h7 := HPL.out ad h0 e
      exact ⟨ad, e, (cell_same (a := ad.add r.length) (by rw [add_block]; exact hJ.kj.keep _ (by omega) (by omega) (by omega))).trans hc⟩
    have place : ∀ ad, 0 < m → A = some ad → ad.block < gT := fun ad h0 e => HPL.out ad (by omega) e
    have S9 := Lib.hid s0
    have SH9 := Lib.hid SH
    have C9 := Lib.hid cells
    have P9 := Lib.hid place
    have J9 := Lib.hid hJ
    have D9 := Lib.hid hD
    have HM := Lib.hid hm
    have E2 := Lib.hid e2
    have E3 := Lib.hid e3
    have ND1 := Lib.hid nD1
    have HK1 := Lib.hid hK
    have hm5 : m ≤ 1000 := by have := HP.out; have := HN.out; omega
    clear s0 SH cells place hJ hD hm e1 e2 e3 nD1 hg zz hK
    gi_wp2
    go_wp2_with fail
    refine (back_any A m c U).mono ?_
    rintro e U2 ⟨rfl, hU2⟩
    obtain ⟨gZ, hgZ⟩ : ∃ g, U.heap.size = g := ⟨_, rfl⟩
    rw [hgZ]
    have b2 : Below U.heap.size U U2 := hU2 ▸ (Below.refl _ U).alloc (Nat.le_refl _) _
    have xZ : Boxed U2 gZ 94 (.slice A m c) := hgZ ▸ hU2 ▸ Boxed.new U _ _
    have zZ : Hid (gZ + 1 = U2.heap.size ∧ W6.heap.size ≤ gZ ∧ gR < gZ ∧ gT < gZ ∧ g0 < gZ) := by
      have e1 : U2.heap.size = U.heap.size + 1 := by rw [← hU2]; simp
      have e2 := D9.out
      have e3 := z1.out
      have e4 := S2.out.lt
      have e5 := z2.out
      exact ⟨by omega, by omega, by omega, by omega, by omega⟩
    have XZ := Lib.hid xZ
    have J2 := Lib.hid (J9.out.later hN'.out b2 D9.out)
    have S10 := Lib.hid (S9.out.next b2)
    have SH10 := Lib.hid (SH9.out.after hN'.out b2)
    have C10 : Hid (∀ p r, (p :: r) <:+ rest.map AT.ptr → ∃ ad, A = some ad ∧ U2.cell? (ad.add r.length) = some (.pointer p)) := fun p r h => by
      obtain ⟨ad, e, hc⟩ := C9.out p r h
      exact ⟨ad, e, keep_cell b2 hc⟩
    have HK2 : Hid (U2.heap[D1]? = some (.deferred (some [])) ∧ D1 < U2.heap.size) := by
      have hlt := (Array.getElem?_eq_some_iff.1 HK1.out).1
      exact ⟨(b2.block D1 hlt).trans HK1.out, Nat.lt_of_lt_of_le hlt b2.size⟩
    have B9 : Hid (Below w.heap.size w U2) := (Below.after B2.out B26.out).trans (((J9.out.kj.below (n := w.heap.size) (by have := B2.out.size; have := z2.out; omega) (by have := B2.out.size; have := z2.out; have := z1.out; omega) (by have := B2.out.size; have := B26.out.size; omega))).trans (b2.mono (by have := B2.out.size; have := B26.out.size; have := D9.out; omega)))
    clear hU2 hgZ b2 xZ xR S9 SH9 C9 J9 HK1
    go_wp2_with fail
    refine (wpIn_wide (n := 9)).1 ?_
    refine wpIn_rangeFunc_runs (α := Nat × Option Addr) (mine := fun _ => false) rfl (by omega) (gf := 122) (lb := #[.pointer (some ⟨gZ, 0, none⟩)]) rfl trivial (enters_of Try.func122 (by kernel_rfl) rfl)
      (back_runs U2 gZ A m c (rest.map AT.ptr) (by rw [List.length_map]; exact HM.out) (by omega) XZ.out C10.out (Kj gT gR U2.heap.size)
        (fun X Y h => ⟨h.keep gZ (by have := zZ.out; omega) (by have := zZ.out; omega) (by have := zZ.out; omega), fun h0 ad e => by have := P9.out ad h0 e; have := zZ.out; have := z1.out; exact h.keep _ (by omega) (by omega) (by omega)⟩) _)
      Kj.trans (fun X l o o' h _ _ _ => Kj.put X l o' h) (Below.refl _ _) (fun _ => rfl)
      (fun pre V => ∃ (rest' : List AT) (M' T' : AT), backIts (rest.map AT.ptr) = pre ++ backIts (rest'.map AT.ptr) ∧ Fin d H L k v base n rest' M' T' (cnt + pre.length) ∧ JW Nd gT gR U2.heap.size U2 A c m T' V)
      (fun _ _ _ => False)
      (fun _ _ _ h ht => by obtain ⟨r', M', T', h1, h2, h3⟩ := h; exact ⟨r', M', T', h1, h2, h3.turned hN'.out rfl ht⟩) (fun _ _ _ _ h _ => h)
      ⟨rest, M, T, rfl, E2.out, J2.out.tbox, J2.out.rbox, J2.out.tree, Kj.refl _ _ _ _⟩
      (fun x a' _ => a' = { tmps := #[.agg #[fnV fo, fnV fi, fnV fm], .pointer ph, K k, K v, .pointer pl, .pointer (some ⟨g0, 0, none⟩), undef, undef, undef, undef, .pointer none, .pointer (some ⟨g11, 0, none⟩), .pointer pB, .pointer (some ⟨gT, 0, none⟩), .pointer (some ⟨gR, 0, none⟩), undef, undef, undef, .pointer x.2, .tuple #[.slice A n c, .pointer pB], .agg #[fnV fo, fnV fi, fnV fm], .pointer ph, .pointer pl, .tuple #[.slice A n c, .pointer pB], .slice A n c, .pointer pB, .pointer (some ⟨g0, 2, none⟩), fnV fm, .pointer pB, K k, K v, .pointer pl, .pointer (some a0), .slice A n c, .slice A n c, .func (.func 122) #[] #[.pointer (some ⟨gS, 0, none⟩)], undef, undef, undef, undef, undef, undef, undef, undef, undef, undef, undef, undef, undef, undef, undef, undef, undef, undef, undef, undef, undef, undef, undef, undef, undef, undef, undef, undef, undef, undef, undef, undef, undef, undef, undef, undef, .slice A m c, .func (.func 122) #[] #[.pointer (some ⟨gZ, 0, none⟩)], nI x.1, .pointer x.2, undef, undef, undef, undef, undef], defers := [] })
      (fun x a' _ X Y row hs hg hr => hs)
      ?assign3 ?body3 ?done3 ?stop3
    case assign3 =>
      rintro L' pre ⟨pl', q⟩ V KK hI hpx hK
      have hK2 := Lib.hid (hK { tmps := #[.agg #[fnV fo, fnV fi, fnV fm], .pointer ph, K k, K v, .pointer pl, .pointer (some ⟨g0, 0, none⟩), undef, undef, undef, undef, .pointer none, .pointer (some ⟨g11, 0, none⟩), .pointer pB, .pointer (some ⟨gT, 0, none⟩), .pointer (some ⟨gR, 0, none⟩), undef, undef, undef, .pointer q, .tuple #[.slice A n c, .pointer pB], .agg #[fnV fo, fnV fi, fnV fm], .pointer ph, .pointer pl, .tuple #[.slice A n c, .pointer pB], .slice A n c, .pointer pB, .pointer (some ⟨g0, 2, none⟩), fnV fm, .pointer pB, K k, K v, .pointer pl, .pointer (some a0), .slice A n c, .slice A n c, .func (.func 122) #[] #[.pointer (some ⟨gS, 0, none⟩)], undef, undef, undef, undef, undef, undef, undef, undef, undef, undef, undef, undef, undef, undef, undef, undef, undef, undef, undef, undef, undef, undef, undef, undef, undef, undef, undef, undef, undef, undef, undef, undef, undef, undef, undef, undef, .slice A m c, .func (.func 122) #[] #[.pointer (some ⟨gZ, 0, none⟩)], nI pl', .pointer q, undef, undef, undef, undef, undef], defers := [] } V ((KeepsOthers.refl _).from _) (Kj.refl _ _ _ _) hI rfl)
      clear hK hI hpx
      gi_wp2
      exact hK2.out
    case body3 =>
      rintro L' pre ⟨pl', q⟩ a' V hL _ ⟨rest', M', T', h1, hF, hJ⟩ rfl hpx
      obtain ⟨p0, r0, e1, e2, e3⟩ := its_next hpx h1
      cases rest' with
      | nil => cases e1
      | cons N rest' =>
        rw [List.map_cons] at e1
        injection e1 with e4 e5
        subst e4 e5
        injection e2 with e6 e7
        rw [List.length_map] at e6
        subst e6 e7
        obtain ⟨⟨aN, xN, ON, eN⟩, -⟩ := hF.way
        obtain ⟨y, l, r, eN2⟩ : ∃ y l r, N = .n aN y l r := ⟨xN, _, _, eN⟩
        clear eN
        subst eN2
        clear ON xN
        have hpn : (AT.n aN y l r).ptr = some aN := rfl
        rw [hpn]
        have hD : U2.heap.size ≤ V.heap.size := hJ.kj.size
        have zz := zZ.out
        have nk : NK U2 V := hJ.nk0 ⟨_, J2.out.tbox⟩ ⟨_, J2.out.rbox⟩ rfl
        have SH : Stand Nd V H := SH10.out.kept hN'.out nk
        have SN : Stand Nd V (.n aN y l r) := (Way.stand hN'.out SH hF.way).2 _ (List.mem_cons_self ..)
        have z3 := z1.out
        have s0 : Has V g0 89 #[fnV fo, fnV fi, fnV fm] := hJ.kj.has S10.out (by omega) (by have := S2.out.lt; have := z2.out; omega) (by have := S2.out.lt; have := z2.out; omega)
        have r0 := s0.cell 0
        have r1 := s0.cell 1
        have r2 := s0.cell 2
        have v0 := hJ.tbox.cell
        obtain ⟨pT, hpT⟩ : ∃ p, T'.ptr = p := ⟨_, rfl⟩
        have cW := Lib.hid (with15_any hN'.out HD.out V aN y l r T' SN hJ.tree)
        rw [hpT, show sidesV fo fi fm = .agg #[fnV fo, fnV fi, fnV fm] from rfl] at cW
        rw [hpT] at v0
        have HPT := Lib.hid hpT
        have HJ := Lib.hid hJ
        have HF := Lib.hid hF
        have HDV := Lib.hid hD
        have H3 := Lib.hid e3
        obtain ⟨q1, hq1⟩ : ∃ q1, rest'.length = q1 := ⟨_, rfl⟩
        have HQ1 := Lib.hid hq1
        rw [hq1]
        clear h1 hF hJ hpx e3 nk SH SN s0 zz z3 hpT hD hpn hq1
        gi_wp2
        refine ⟨trivial, ?_⟩
        refine CallsIn.inRound L' (callsIn_wide.2 (cW.out.mono ?_))
        rintro e u3 ⟨a, x, rfl, hx, hg, hs, ha, hb3⟩
        have JJ3 := Lib.hid (HJ.out.later hN'.out hb3 HDV.out)
        have v1 := JJ3.out.tbox.cell
        have v2 := JJ3.out.tbox.frozen
        rw [HPT.out] at v1
        have KO3 := Lib.hid (keeps_below14 hb3)
        have KJ3 : Hid (Kj gT gR U2.heap.size V u3) := .of_below hb3 HDV.out
        have D3 : Hid (U2.heap.size ≤ u3.heap.size) := Nat.le_trans HDV.out hb3.size
        have HXA : Hid (∀ b y' l' r', AT.n aN y l r = .n b y' l' r' → x.k = y'.k ∧ x.v = y'.v) := hx
        have HXG := Lib.hid hg
        have HXS := Lib.hid hs
        have HXB : Hid (a ∉ base) := fun h => by have e1 := OB.out _ h; have e2 := HDV.out; have e3 := B9.out.size; omega
        have J4 := Lib.hid (JJ3.out.put hN'.out D3.out HXS.out)
        rw [AT.mk_ptr] at J4
        have KJ4 : Hid (Kj gT gR U2.heap.size u3 (u3.setCell ⟨gT, 0, none⟩ (.pointer (some a)))) := Kj.grown (grownBy_setCell' u3 gT _) D3.out (fun r e => by cases e; exact .inr (.inl rfl))
        clear hx hg hs ha hb3 cW r0 r1 r2 v0
        gi_wp2
        refine ⟨(KO3.out.trans (KeepsOthers.setCell _ _ _)).from _, KJ3.out.trans KJ4.out, rest', .n aN y l r, _, by rw [← HQ1.out]; exact H3.out, ?_, J4.out⟩
        rw [List.length_append, List.length_singleton, ← Nat.add_assoc]
        exact Fin.with_ AH.out H9.out HF.out HXA.out HXG.out HXB.out OH.out
    case done3 =>
      rintro D2 V hD2 ⟨rest', M', T', h1, hF, hJ⟩ hK
      have hr0 : rest' = [] := by
        have := congrArg List.length h1
        rw [List.length_append, backIts_len, backIts_len, List.length_map, List.length_map] at this
        exact List.eq_nil_of_length_eq_zero (by omega)
      subst hr0
      have hcnt : cnt + (backIts (rest.map AT.ptr)).length = n := by rw [backIts_len, List.length_map]; exact E3.out
      rw [hcnt] at hF
      have hJn := hF.done AH.out HLE.out HN0.out
      have JN : Hid (Join15 d H L k v base T') := ⟨hJn.1, hJn.2.1, hJn.2.2.1, hJn.2.2.2.1, hJn.2.2.2.2⟩
      have v0 := hJ.tbox.cell
      have hK1 : (V.putObj D2 (.deferred none)).heap[D1]? = some (.deferred (some [])) := (World.putObj_heap_other (by have := HK2.out.2; omega)).trans ((hJ.kj.keep D1 HK2.out.2 ND1.out.1 ND1.out.2).trans HK2.out.1)
      have b1 : Below w.heap.size V (V.putObj D2 (.deferred none)) := belowK_b (w := w) (Nat.le_refl _) V D2 _ _ (by have := B9.out.size; omega) hK rfl rfl
      have bD1 : w.heap.size ≤ D1 := by
        have := hD1
        have := B2.out.size
        have := B26.out.size
        omega
      have b2 : Below w.heap.size (V.putObj D2 (.deferred none)) ((V.putObj D2 (.deferred none)).putObj D1 (.deferred none)) := belowK_b (w := w) (Nat.le_refl _) _ D1 _ _ bD1 hK1 rfl rfl
      have bV : Below w.heap.size U2 V := hJ.kj.below (by have := B2.out.size; have := z2.out; omega) (by have := B2.out.size; have := z2.out; have := z1.out; omega) B9.out.size
      have BF := Lib.hid (((B9.out.trans bV).trans b1).trans b2)
      have nk1 : NK V (V.putObj D2 (.deferred none)) := .of_grown (grownBy_putObj' V D2 _) (fun r e cs hc => by cases e; rw [hK] at hc; cases hc)
      have nk2 : NK (V.putObj D2 (.deferred none)) ((V.putObj D2 (.deferred none)).putObj D1 (.deferred none)) := .of_grown (grownBy_putObj' _ D1 _) (fun r e cs hc => by cases e; rw [hK1] at hc; cases hc)
      have SF := Lib.hid (hJ.tree.kept hN'.out (nk1.trans nk2))
      obtain ⟨pT, hpT⟩ : ∃ p, T'.ptr = p := ⟨_, rfl⟩
      rw [hpT] at v0
      have HPT := Lib.hid hpT
      clear hF hJn hJ h1 hcnt nk1 nk2 bV b1 b2 bD1 hpT
      go_wp2_with fail
      dsimp only [Exit.noGoto]
      refine ⟨by simp, .inl ⟨_, _, rfl, run_takeDeferred hK, ?_⟩⟩
      refine ⟨by simp, .inl ⟨_, _, rfl, run_takeDeferred hK1, ?_⟩⟩
      exact ⟨_, results_tmp rfl _ _ _, T', by rw [HPT.out]; rfl, SF.out, JN.out, BF.out⟩
    case stop3 =>
      rintro D2 c2 pre V _ _ h _
      exact h.elim
end Go.Proofs.Ytifhnaelkjfmdaa
/- Package avljoin, as landed: Join; what the package answers. -/
namespace Go.Proofs.Ytifhnaelkjfmdaa
open Go.RowKit Go.Shelf Go.Proofs.Treem Go.Proofs.Cardm
set_option maxRecDepth 100000
variable {Nd : NdP}

theorem old_of (L R : AT) {w : World} (hN : NodeSays Nd) (hL : Stand Nd w L) (hR : Stand Nd w R) : (∀ a ∈ L.addrs, a ∈ addrsOf [L, R]) ∧ (∀ a ∈ R.addrs, a ∈ addrsOf [L, R]) ∧ ∀ a ∈ addrsOf [L, R], a.block < w.heap.size :=
  ⟨fun _ h => of_two.2 (.inl h), fun _ h => of_two.2 (.inr h), fun a h => (of_two.1 h).elim (hL.lies.lt hN a) (hR.lies.lt hN a)⟩
set_option maxHeartbeats 4000000 in
theorem join15_any (hN : NodeSays Nd) (w : World) (L R : AT) (k v : BitVec 64) (hL : Stand Nd w L) (hR : Stand Nd w R) (eL : errA L.tr = 0) (eR : errA R.tr = 0) (h1 : L.tr.size ≤ 1000) (h2 : R.tr.size ≤ 1000) :
    Calls Try.prog 53 #[.pointer L.ptr, K k, K v, .pointer R.ptr] w (Joined15 Nd L R k v w) := by
  rw [AT.size_tr] at h1 h2
  have c1 := Lib.hid (excess_any hN w R.tr L.tr R.ptr L.ptr hR.tree hL.tree)
  have hN' := Lib.hid hN
  have HL := Lib.hid hL
  have HR := Lib.hid hR
  obtain ⟨E, hE⟩ : ∃ E, R.tr.tag.toNat - L.tr.tag.toNat = E := ⟨_, rfl⟩
  rw [hE] at c1
  obtain ⟨Q, hQ⟩ : ∃ Q, Joined15 Nd L R k v w = Q := ⟨_, rfl⟩
  by_cases hgt : R.tr.tag.toNat ≤ L.tr.tag.toNat
  · have cJ : Hid (∀ W, Below w.heap.size w W → Calls Try.prog 89 #[sidesV 30 31 43, .pointer L.ptr, K k, K v, .pointer R.ptr] W fun e w' => ∃ J : AT, e = .returned (.pointer J.ptr) ∧ Stand Nd w' J ∧ Join15 true L R k v (addrsOf [L, R]) J ∧ Below W.heap.size W w') := fun W hb => by
      have a1 := hL.after hN hb
      have a2 := hR.after hN hb
      obtain ⟨o1, o2, o3⟩ := old_of L R hN a1 a2
      exact joined15_any hN (side_right15 hN) W L R k v _ a1 a2 h1 eL eR hgt o1 o2 o3
    have fin : Hid (∀ J U, Stand Nd U J → Join15 true L R k v (addrsOf [L, R]) J → Below w.heap.size w U → Q (.returned (.pointer J.ptr)) U) := fun J U h1 h2 h3 => hQ ▸ ⟨J, rfl, h1, h2.may, h2.pairs, by rw [Nat.max_eq_left hgt]; exact h2.high, h2.new, by unfold mostA; rw [Nat.max_eq_left hgt, Nat.min_eq_right hgt]; exact h2.few, h3⟩
    have d1 : decide (0 < E) = false := decide_eq_false (by omega)
    have d2 : ¬ 0 < E := by omega
    rw [hQ]
    clear hN hL hR hgt hE hQ h1 h2
    go_enter Try.func53, Try.ntmps53
    go_wp2_with fail
    refine c1.out.mono ?_
    rintro e w1 ⟨rfl, hb⟩
    have b1 := Lib.hid hb
    clear hb
    go_wp2_with fail
    refine (lowOnRight_any w1).mono ?_
    rintro e w2 ⟨rfl, hb⟩
    have b2 := Lib.hid (Below.after b1.out hb)
    clear hb
    go_wp2_with fail
    refine (cJ.out w2 b2.out).mono ?_
    rintro e w3 ⟨J, rfl, hJ, hq, hb⟩
    have f3 := Lib.hid (fin.out J w3 hJ hq (Below.after b2.out hb))
    clear hb hJ hq
    go_wp2
    exact f3.out
  · have hle : L.tr.tag.toNat ≤ R.tr.tag.toNat := by omega
    have cJ : Hid (∀ W, Below w.heap.size w W → Calls Try.prog 89 #[sidesV 31 30 109, .pointer R.ptr, K k, K v, .pointer L.ptr] W fun e w' => ∃ J : AT, e = .returned (.pointer J.ptr) ∧ Stand Nd w' J ∧ Join15 false R L k v (addrsOf [L, R]) J ∧ Below W.heap.size W w') := fun W hb => by
      have a1 := hL.after hN hb
      have a2 := hR.after hN hb
      obtain ⟨o1, o2, o3⟩ := old_of L R hN a1 a2
      exact joined15_any hN (side_left15 hN) W R L k v _ a2 a1 h2 eR eL hle o2 o1 o3
    have fin : Hid (∀ J U, Stand Nd U J → Join15 false R L k v (addrsOf [L, R]) J → Below w.heap.size w U → Q (.returned (.pointer J.ptr)) U) := fun J U h1 h2 h3 => hQ ▸ ⟨J, rfl, h1, h2.may, (by
      have h := congrArg List.reverse h2.pairs
      simpa [prD] using h), by rw [Nat.max_eq_right hle]; exact h2.high, h2.new, by unfold mostA; rw [Nat.max_eq_right hle, Nat.min_eq_left hle]; exact h2.few, h3⟩
    have d1 : decide (0 < E) = true := decide_eq_true (by omega)
    have d2 : 0 < E := by omega
    rw [hQ]
    clear hN hL hR hgt hE hQ h1 h2 hle
    go_enter Try.func53, Try.ntmps53
    go_wp2_with fail
    refine c1.out.mono ?_
    rintro e w1 ⟨rfl, hb⟩
    have b1 := Lib.hid hb
    clear hb
    go_wp2_with fail
    refine (lowOnLeft_any w1).mono ?_
    rintro e w2 ⟨rfl, hb⟩
    have b2 := Lib.hid (Below.after b1.out hb)
    clear hb
    go_wp2_with fail
    refine (cJ.out w2 b2.out).mono ?_
    rintro e w3 ⟨J, rfl, hJ, hq, hb⟩
    have f3 := Lib.hid (fin.out J w3 hJ hq (Below.after b2.out hb))
    clear hb hJ hq
    go_wp2
    exact f3.out
/-- what package avljoin answers -/
theorem join_says (hN : NodeSays Nd) : JoinSays Nd where
  join := fun w L R k v hL hR eL eR h1 h2 => join15_any hN w L R k v hL hR eL eR h1 h2
  most := fun w t u p q hl hr h1 h2 => mostJ_any hN w t u p q hl hr h1 h2
end Go.Proofs.Ytifhnaelkjfmdaa
namespace Go.Proofs.Ytifhnaelkjfmdaa
open Go.RowKit Go.Proofs.Treem
set_option maxRecDepth 100000
variable {Nd : NdP}

theorem root_A (l : Tr) (k v g : BitVec 64) (r : Tr) : rootA (.n l k v g r) = if decide (g.toNat ≠ max l.tag.toNat r.tag.toNat + 1) = true then 140 else if decide (1 < max l.tag.toNat r.tag.toNat - min l.tag.toNat r.tag.toNat) = true then 8 else 0 := by
  rw [rootA, oneA]
  simp only [decide_eq_true_eq]
/-- what the landed Check answers -/
theorem checkA_any (hN : NodeSays Nd) (w : World) (t : Tr) (p : Option Addr) (ht : TreeAt Nd w w.heap.size t p) (h5 : t.size ≤ 5000) : Calls Try.prog 35 #[.pointer p] w fun e w' => e = .returned (.tuple #[nI (placeA t), nI (errA t)]) ∧ Below w.heap.size w w' := by
  have h := check14_any hN rootA (fun t => decide (t.tag.toNat ≠ max (Tr.lt t).tag.toNat (Tr.rt t).tag.toNat + 1)) (fun t => decide (1 < max (Tr.lt t).tag.toNat (Tr.rt t).tag.toNat - min (Tr.lt t).tag.toNat (Tr.rt t).tag.toNat))
    (fun W t p h => missTag_any hN W t p h) (fun W t p h => missGap_any hN W t p h) (fun l k v g r => root_A l k v g r) w t p ht h5
  rw [errF_A, placeF_A] at h
  exact h
theorem may_eq (t : Tr) : mayA t = ((errA t : Int) == 0) := by
  unfold mayA
  by_cases h : errA t = 0
  · rw [h]; rfl
  · rw [beq_eq_false_iff_ne.2 h, beq_eq_false_iff_ne.2 (show ((errA t : Nat) : Int) ≠ 0 by omega)]
theorem avlMay_any (hN : NodeSays Nd) (w : World) (t : Tr) (p : Option Addr) (ht : TreeAt Nd w w.heap.size t p) (h5 : t.size ≤ 5000) : Calls Try.prog 39 #[.pointer p] w fun e w' => e = .returned (.bool (mayA t)) ∧ Below w.heap.size w w' := by
  rw [may_eq]
  have c1 := Lib.hid (checkA_any hN w t p ht h5)
  obtain ⟨f, hf⟩ : ∃ x, errA t = x := ⟨_, rfl⟩
  obtain ⟨x, hx⟩ : ∃ x, placeA t = x := ⟨_, rfl⟩
  rw [hf, hx] at c1
  rw [hf]
  clear hf hx ht hN h5
  go_enter Try.func39, Try.ntmps39
  go_wp2_with fail
  refine c1.out.mono ?_
  rintro e w1 ⟨rfl, hb⟩
  have b1 := Lib.hid hb
  clear hb c1
  go_wp2
  go_ret
  exact ⟨rfl, b1.out⟩
theorem avl_says (hN : NodeSays Nd) : AvlSays Nd where
  make := fun w L R k v hl hr => avlMake_any hN w L R k v hl hr
  check := fun w t p ht h5 => checkA_any hN w t p ht h5
  may := fun w t p ht h5 => avlMay_any hN w t p ht h5
  rank := fun w t p ht => avlRank_any hN w t p ht
  lean := fun w t p ht => avlLean_any hN w t p ht
end Go.Proofs.Ytifhnaelkjfmdaa
