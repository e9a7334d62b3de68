/- Layer 11, as landed: Make: all that is thrown on the way is caught. -/
import Derived.Test.YtlhnjgmjkoafpaaDoorN9Get
import Derived.Test.YtlhnjgmjkoafpaaDoorL11Says
import Derived.WalkSmall
import Derived.Deep.Cut
import Derived.Test.YtlhnjgmjkoafpaaDoorL11Parse
import Derived.Test.YtlhnjgmjkoafpaaDoorL9Says
import Derived.Recover
import Derived.Defers
import Derived.BigRegion
import Derived.RegionTactic
import Derived.Outline
import Derived.Deep.QuietTactic
import Derived.BigQuiet
/- Layer 11, as landed: one variable alone turns; what is thrown; how deep a bead may lie. -/
namespace Go.Proofs.YtlhnjgmjkoafpaaDoor
open Go.RowKit Go.Proofs.Treem
set_option maxRecDepth 100000

/-- all that lies there but one variable is as it was -/
structure Moved (g : Nat) (W W' : World) : Prop where
  os : W'.os = W.os
  tape : W'.tape = W.tape
  output : W'.output = W.output
  size : W.heap.size ≤ W'.heap.size
  block : ∀ k, k < W.heap.size → k ≠ g → W'.heap[k]? = W.heap[k]?
theorem Moved.refl (g : Nat) (W : World) : Moved g W W := ⟨rfl, rfl, rfl, Nat.le_refl _, fun _ _ _ => rfl⟩
theorem Moved.trans {g : Nat} {X Y Z : World} (h : Moved g X Y) (k : Moved g Y Z) : Moved g X Z :=
  ⟨k.os.trans h.os, k.tape.trans h.tape, k.output.trans h.output, Nat.le_trans h.size k.size, fun i hi hg => (k.block i (Nat.lt_of_lt_of_le hi h.size) hg).trans (h.block i hi hg)⟩
theorem Moved.of_below {g : Nat} {W W' : World} (h : Below W.heap.size W W') : Moved g W W' := ⟨h.os, h.tape, h.output, h.size, fun k hk _ => h.block k hk⟩
theorem Moved.below {g B : Nat} {W W' : World} (h : Moved g W W') (hg : B ≤ g) (hB : B ≤ W.heap.size) : Below B W W' := ⟨h.os, h.tape, h.output, h.size, fun k hk => h.block k (Nat.lt_of_lt_of_le hk hB) (by omega)⟩
theorem Moved.set (g : Nat) (W : World) (v : Value) : Moved g W (W.setCell ⟨g, 0, none⟩ v) := ⟨rfl, rfl, rfl, by rw [World.size_setCell]; exact Nat.le_refl _, fun k _ hk => Below.heap_setCell _ _ _ k hk⟩
theorem Moved.has {g b : Nat} {W W' : World} {t : TypeId} {cs : Array Value} (h : Moved g W W') (hh : Has W b t cs) (hb : b ≠ g) : Has W' b t cs := (h.block b hh.lt hb).trans hh
theorem has_apart {W : World} {b g : Nat} {t u : TypeId} {cs ds : Array Value} (h : Has W b t cs) (k : Has W g u ds) (ht : t ≠ u) : b ≠ g := by
  rintro rfl
  have e : some (Obj.cells cs t (0, 0)) = some (Obj.cells ds u (0, 0)) := h.symm.trans k
  simp at e
  exact ht e.2
theorem Moved.tree {g : Nat} {W W' : World} {v : Value} (h : Moved g W W') (hg : Has W g 3 #[v]) : ∀ {t : Tr} {B : Nat} {p : Option Addr}, TreeAt NdS W B t p → TreeAt NdS W' B t p
  | .e, _, _, ht => ht
  | .n .., _, _, ⟨a, pl, pr, e, ⟨b, e', hb, hh, hn⟩, h1, h2⟩ => ⟨a, pl, pr, e, ⟨b, e', hb, h.has hh (has_apart hh hg (by decide)), hn⟩, h.tree hg h1, h.tree hg h2⟩
theorem Moved.tree2 {g : Nat} {u : TypeId} {W W' : World} {v : Value} (hu : 78 ≠ u) (h : Moved g W W') (hg : Has W g u #[v]) : ∀ {t : Tr} {B : Nat} {p : Option Addr}, TreeAt NdS W B t p → TreeAt NdS W' B t p
  | .e, _, _, ht => ht
  | .n .., _, _, ⟨a, pl, pr, e, ⟨b, e', hb, hh, hn⟩, h1, h2⟩ => ⟨a, pl, pr, e, ⟨b, e', hb, h.has hh (has_apart hh hg hu), hn⟩, h.tree2 hu hg h1, h.tree2 hu hg h2⟩
theorem Moved.then {g B : Nat} {W X Y : World} (h : Moved g W X) (k : Below B X Y) (hB : W.heap.size ≤ B) : Moved g W Y :=
  ⟨k.os.trans h.os, k.tape.trans h.tape, k.output.trans h.output, Nat.le_trans h.size k.size, fun i hi hg => (k.block i (Nat.lt_of_lt_of_le hi hB)).trans (h.block i hi hg)⟩
theorem Moved.drew (g : Nat) (W : World) : Moved g W W.drew := ⟨rfl, rfl, rfl, Nat.le_refl _, fun _ _ _ => rfl⟩
/-- what is thrown -/
abbrev thrown : Ending := .panicked [{ v := .iface 33 (.int .i64 7), recovered := false }]
theorem results_row1 {P : Program} {fn : Func} {p : Tmp} {ty : TypeId} (h : fn.results = #[.cell p ty]) (tmps : Array Value) (w : World) (g : Nat) (t : TypeId) (cs : Array Value) (fr : Nat × Nat) (d : TypeDesc)
    (hp : tmps.getD p undef = .pointer (some ⟨g, 0, none⟩)) (hg : w.heap[g]? = some (.cells cs t fr))
    (hu : P.underlying ty = some d) (hd : (match d with | .struct _ | .array _ _ => true | _ => false) = true) (hi : (P.info? ty).map (·.size) = some cs.size) :
    (results fn tmps).run P w = .ok (.agg cs) w := by
  have hp' : tmps[p]?.getD undef = .pointer (some ⟨g, 0, none⟩) := by simpa using hp
  simp [results, h, hp', asAddr, run_loadVar_row w g t ty cs fr d hg hu hd hi]
theorem far_cell {w : World} {p q : Addr} {u : Value} (h : w.cell? p = some u) (hw : p.block < w.heap.size) (hq : q.block ≠ p.block) (v : Value) (o : Obj) : ((w.setCell q v).alloc o).cell? p = some u := by
  rw [World.cell?_alloc_lt _ o p (by rw [World.size_setCell]; exact hw), World.cell?_setCell_far w q p v hq, h]
theorem add_at (a : Addr) (k : Nat) : (a.add k).block = a.block := by
  unfold Addr.add
  split <;> rfl
theorem has_one {w : World} {g : Nat} {t : TypeId} {v : Value} (h : Has w g t #[v]) (u : Value) : Has (w.setCell ⟨g, 0, none⟩ u) g t (#[v].setIfInBounds 0 u) := h.set 0 u
theorem set_one {w : World} {g : Nat} {t : TypeId} {v : Value} (h : Has w g t #[v]) (u : Value) : Has (w.setCell ⟨g, 0, none⟩ u) g t #[u] := by
  have k := has_one h u
  rw [show (#[v].setIfInBounds 0 u) = #[u] by simp] at k
  exact k
theorem has_drew {w : World} {g : Nat} {t : TypeId} {cs : Array Value} (h : Has w g t cs) : Has w.drew g t cs := h
theorem new_at {w : World} {k : Nat} (h : w.heap.size = k) (t : TypeId) (cs : Array Value) : Has (w.alloc (.cells cs t)) k t cs := h ▸ Has.new w t cs
theorem size_next {w : World} {k : Nat} (h : w.heap.size = k) (o : Obj) : (w.alloc o).heap.size = k + 1 := by simp [h]
/-- a bead does not lie too deep -/
theorem deep_ok (w : World) (d : Int) (h : d ≤ 4096) : Calls Tryd.prog 54 #[.int .i64 d] w fun e w' => e = .returned (.tuple #[]) ∧ w = w' := by
  have d1 : decide ((4096 : Int) < d) = false := decide_eq_false (by omega)
  go_enter Tryd.func54, Tryd.ntmps54
  go_wp2
  go_end0
  exact ⟨rfl, rfl⟩
theorem deep_no (w : World) (d : Int) (h : 4096 < d) : Calls Tryd.prog 54 #[.int .i64 d] w fun e w' => e = thrown ∧ w = w' := by
  have d1 : decide ((4096 : Int) < d) = true := decide_eq_true (by omega)
  go_enter Tryd.func54, Tryd.ntmps54
  go_wp2
  exact ⟨rfl, rfl, rfl⟩
end Go.Proofs.YtlhnjgmjkoafpaaDoor
/- Layer 11, as landed: beads, taken one by one by a closure. -/
namespace Go.Proofs.YtlhnjgmjkoafpaaDoor
open Go.RowKit Go.Proofs.Treem
set_option maxRecDepth 100000

theorem take_none (w : World) (g : Nat) (A : Option Addr) (c : Nat) (hg : Has w g 22 #[.slice A 0 c]) :
    Calls Tryd.prog 55 #[.pointer (some ⟨g, 0, none⟩)] w fun e w' => e = thrown ∧ Below w.heap.size w w' := by
  have q1 : ∀ o, (w.alloc o).cell? ⟨g, 0, none⟩ = some (.slice A 0 c) := fun o => (hg.alloc o).cell 0
  clear hg
  go_enter Tryd.func55, Tryd.ntmps55
  go_wp2
  exact ⟨rfl, rfl, (Below.refl _ w).alloc (Nat.le_refl _) _⟩
theorem bead_put {W0 : World} {sz : Nat} {t : TypeId} {v0 v1 v2 v3 v4 v5 v6 : Value} (h : Has W0 sz t #[v0, v1, v2, v3, v4, v5, v6]) (u0 u1 u2 u3 u4 u5 u6 : Value) :
    Has (((((((W0.setCell ⟨sz, 0, none⟩ u0).setCell ⟨sz, 1, none⟩ u1).setCell ⟨sz, 2, none⟩ u2).setCell ⟨sz, 3, none⟩ u3).setCell ⟨sz, 4, none⟩ u4).setCell ⟨sz, 5, none⟩ u5).setCell ⟨sz, 6, none⟩ u6) sz t #[u0, u1, u2, u3, u4, u5, u6] := by
  have k := ((((((h.set 0 u0).set 1 u1).set 2 u2).set 3 u3).set 4 u4).set 5 u5).set 6 u6
  simp only [List.setIfInBounds_toArray, List.set_cons_zero, List.set_cons_succ] at k
  generalize ((((((W0.setCell ⟨sz, 0, none⟩ u0).setCell ⟨sz, 1, none⟩ u1).setCell ⟨sz, 2, none⟩ u2).setCell ⟨sz, 3, none⟩ u3).setCell ⟨sz, 4, none⟩ u4).setCell ⟨sz, 5, none⟩ u5).setCell ⟨sz, 6, none⟩ u6 = W at k ⊢
  exact k
theorem put_below {w W0 : World} {sz : Nat} (h : Below sz w W0) (u0 u1 u2 u3 u4 u5 u6 : Value) :
    Below sz w (((((((W0.setCell ⟨sz, 0, none⟩ u0).setCell ⟨sz, 1, none⟩ u1).setCell ⟨sz, 2, none⟩ u2).setCell ⟨sz, 3, none⟩ u3).setCell ⟨sz, 4, none⟩ u4).setCell ⟨sz, 5, none⟩ u5).setCell ⟨sz, 6, none⟩ u6) :=
  ((((((h.setCell (p := ⟨sz, 0, none⟩) (Nat.le_refl _) u0).setCell (p := ⟨sz, 1, none⟩) (Nat.le_refl _) u1).setCell (p := ⟨sz, 2, none⟩) (Nat.le_refl _) u2).setCell (p := ⟨sz, 3, none⟩) (Nat.le_refl _) u3).setCell (p := ⟨sz, 4, none⟩) (Nat.le_refl _) u4).setCell (p := ⟨sz, 5, none⟩) (Nat.le_refl _) u5).setCell (p := ⟨sz, 6, none⟩) (Nat.le_refl _) u6
/-- a bead that was taken, and those behind it -/
def Taken (w : World) (B g : Nat) (b : Bd) (r : List Bd) (e : Ending) (w' : World) : Prop := ∃ A n c, e = .returned (bdV b) ∧ Moved g w w' ∧ Has w' g 22 #[.slice A n c] ∧ LieB w' B A n c r
set_option maxHeartbeats 4000000 in
theorem take_some (w : World) (B g : Nat) (A : Option Addr) (n c : Nat) (b : Bd) (r : List Bd) (h : LieB w B A n c (b :: r)) (hB : B ≤ g) (hg : Has w g 22 #[.slice A n c]) :
    Calls Tryd.prog 55 #[.pointer (some ⟨g, 0, none⟩)] w (Taken w B g b r) := by
  have h9 := h.few
  have hcm := h.max
  have hnc := h.cap
  have hlen := h.len
  have hlt := hg.lt
  rw [List.length_cons] at hlen
  obtain ⟨A1, q, qr, qn⟩ := cut_from2 (P := Tryd.prog) Tryd.underlying22 size_bead A n c 1 1 rfl (by omega) (by omega)
  have hrow := qr w B _ h.row (by rw [flat7_length, h.len]; exact Nat.le_refl _)
  rw [← flat7_drop, List.drop_succ_cons, List.drop_zero] at hrow
  have hL : LieB w B A1 (n - 1) (c - 1) r := ⟨by omega, by omega, by omega, by omega, fun e => by have := h.nil (qn e); omega, hrow⟩
  have hL' := Lib.hid hL
  obtain ⟨ad, rfl, hb, y0, y1, y2, y3, y4, y5, y6⟩ := bead_at h 0 (by simp)
  have e0 : ad.add (0 * 7) = ad := by simp [Addr.add]
  rw [e0] at y0 y1 y2 y3 y4 y5 y6
  simp only [List.getElem_cons_zero] at y0 y1 y2 y3 y4 y5 y6
  have d0 : ((n : Int) == 0) = false := beq_eq_false_iff_ne.2 (by omega)
  have hw : ad.block < w.heap.size := by omega
  have hn0 : 0 < n := by omega
  have hgg := Lib.hid hg
  obtain ⟨sz, hsz⟩ : ∃ sz, w.heap.size = sz := ⟨_, rfl⟩
  obtain ⟨V, hV⟩ : ∃ V, w.alloc (.cells #[.int .i64 0, .int .i64 0, .int .i64 0, .int .i64 0, .int .u64 0, .bool false, .bool false] 44) = V := ⟨_, rfl⟩
  have hbV : Hid (Below sz w V) := hV ▸ hsz ▸ (Below.refl _ w).alloc (Nat.le_refl _) _
  have gV : Hid (Has V g 22 #[.slice (some ad) n c]) := hV ▸ hg.alloc _
  have rV : Hid (Has V sz 44 #[.int .i64 0, .int .i64 0, .int .i64 0, .int .i64 0, .int .u64 0, .bool false, .bool false]) := hV ▸ new_at hsz _ _
  have sV' : V.heap.size = sz + 1 := hV ▸ size_next hsz _
  have SV := Lib.hid sV'
  have p1 : ∀ o, (w.alloc o).cell? ⟨g, 0, none⟩ = some (.slice (some ad) n c) := fun o => (hgg.out.alloc o).cell 0
  have q0 : V.cell? ⟨g, 0, none⟩ = some (.slice (some ad) n c) := gV.out.cell 0
  have q1 : ∀ o, (V.alloc o).cell? ⟨g, 0, none⟩ = some (.slice (some ad) n c) := fun o => (gV.out.alloc o).cell 0
  have f1 : ∀ o, (V.alloc o).frozen? ⟨g, 0, none⟩ = false := fun o => (gV.out.alloc o).free 0
  have hwsz : ad.block < sz := by omega
  rw [← hbV.out.cell (by exact hwsz)] at y0
  rw [← hbV.out.cell (by exact hwsz)] at y1 y2 y3 y4 y5 y6
  have HW := Lib.hid hV
  have HS := Lib.hid hsz
  have hg2 : g < sz := by omega
  have hng : g ≠ sz + 1 := by omega
  have hgn : sz + 1 ≠ g := by omega
  have hrn : sz ≠ sz + 1 := by omega
  have hrg : sz ≠ g := by omega
  have hlen' := Lib.hid hlen
  clear h hg hV hsz sV' hL hrow qr qn e0 hlen hb hw
  go_enter Tryd.func55, Tryd.ntmps55
  go_upto_region 3 with (fail)
  rw [HS.out, HW.out]
  clear p1
  go_upto_region 5 with (fail)
  rw [SV.out]
  obtain ⟨X, hX⟩ : ∃ X, (V.alloc (.cells #[K b.key, K b.val, K b.sum, K b.size, G64 b.tag, .bool b.left, .bool b.right] 44)).setCell ⟨g, 0, none⟩ (.slice A1 (n - 1) (c - 1)) = X := ⟨_, rfl⟩
  rw [hX]
  have gX : Hid (Has X g 22 #[.slice A1 (n - 1) (c - 1)]) := hX ▸ set_one (gV.out.alloc _) _
  have bX : Hid (Has X (sz + 1) 44 #[K b.key, K b.val, K b.sum, K b.size, G64 b.tag, .bool b.left, .bool b.right]) := hX ▸ (new_at SV.out _ _).far (p := ⟨g, 0, none⟩) hgn _
  have rX : Hid (Has X sz 44 #[.int .i64 0, .int .i64 0, .int .i64 0, .int .i64 0, .int .u64 0, .bool false, .bool false]) := hX ▸ (rV.out.alloc _).far (p := ⟨g, 0, none⟩) hrg _
  have mX : Hid (Moved g w X) := hX ▸ ((Moved.of_below (HS.out ▸ hbV.out)).trans (Moved.of_below ((Below.refl _ V).alloc (Nat.le_refl _) _))).trans (Moved.set g _ _)
  have sX : Hid (sz ≤ X.heap.size) := by have := mX.out.size; rw [HS.out] at this; exact this
  clear y0 y1 y2 y3 y4 y5 y6 q0 q1 f1 hX
  obtain ⟨z0, z1, z2, z3, z4, z5, z6⟩ := bX.out.seven
  have w0 := rX.out.free 0
  have w1 := rX.out.free 1
  have w2 := rX.out.free 2
  have w3 := rX.out.free 3
  have w4 := rX.out.free 4
  have w5 := rX.out.free 5
  have w6 := rX.out.free 6
  have r0 := rX.out.cell 0
  have r1 := rX.out.cell 1
  have r2 := rX.out.cell 2
  have r3 := rX.out.cell 3
  have r4 := rX.out.cell 4
  have r5 := rX.out.cell 5
  have r6 := rX.out.cell 6
  simp only [List.getElem?_toArray, List.getElem?_cons_zero, List.getElem?_cons_succ] at r0 r1 r2 r3 r4 r5 r6
  go_wp2_with fail
  obtain ⟨Y, hY⟩ : ∃ Y, (((((((X.setCell ⟨sz, 0, none⟩ (K b.key)).setCell ⟨sz, 1, none⟩ (K b.val)).setCell ⟨sz, 2, none⟩ (K b.sum)).setCell ⟨sz, 3, none⟩ (K b.size)).setCell ⟨sz, 4, none⟩ (G64 b.tag)).setCell ⟨sz, 5, none⟩ (.bool b.left)).setCell ⟨sz, 6, none⟩ (.bool b.right)) = Y := ⟨_, rfl⟩
  have hH : Has Y sz 44 #[K b.key, K b.val, K b.sum, K b.size, G64 b.tag, .bool b.left, .bool b.right] := hY ▸ bead_put rX.out _ _ _ _ _ _ _
  have hbY : Below sz X Y := hY ▸ put_below (Below.refl sz X) _ _ _ _ _ _ _
  rw [hY]
  have mY := mX.out.then hbY (Nat.le_of_eq HS.out)
  refine bodyPost_ret (results_row1 rfl _ _ sz 44 _ (0, 0) _ rfl hH Tryd.underlying44 rfl (by kernel_rfl)) rfl ?_
  exact ⟨A1, _, _, rfl, mY, gX.out.below hbY hg2, hL'.out.next (mY.below hB (by omega))⟩
end Go.Proofs.YtlhnjgmjkoafpaaDoor
/- Layer 11, as landed (gen/layer11made.py): a tree, made of the beads that a closure takes one by one. -/
namespace Go.Proofs.YtlhnjgmjkoafpaaDoor
open Go.RowKit Go.Proofs.Treem
set_option maxRecDepth 100000

/-- what is made, or that something was thrown -/
def Got (B g : Nat) (w : World) : Option (Tr × List St) → Ending → World → Prop
  | some (t, r), e, w' => ∃ (p A : Option Addr) (n c : Nat) (l : List Bd), e = .returned (.pointer p) ∧ TreeAt NdS w' w'.heap.size t p ∧ Has w' g 22 #[.slice A n c] ∧ LieB w' B A n c l ∧ l.map strip = r ∧ Moved g w w'
  | none, e, w' => e = thrown ∧ Moved g w w'
abbrev takeV (g : Nat) : Value := .func (.func 55) #[] #[.pointer (some ⟨g, 0, none⟩)]
theorem box_next {g b : Nat} {W W' : World} {v : Value} {cs : Array Value} (h : Has W b 44 cs) (hg : Has W g 22 #[v]) (hm : Moved g W W') : Has W' b 44 cs := hm.has h (has_apart h hg (by decide))
theorem tree_on {g : Nat} {W W' : World} {v : Value} {t : Tr} {p : Option Addr} (h : TreeAt NdS W W.heap.size t p) (hg : Has W g 22 #[v]) (hm : Moved g W W') : TreeAt NdS W' W'.heap.size t p := (hm.tree2 (by decide) hg h).more node_says hm.size
theorem LieB.moved {g B : Nat} {W W' : World} {A : Option Addr} {n c : Nat} {l : List Bd} (h : LieB W B A n c l) (hg : B ≤ g) (hB : B ≤ W.heap.size) (hm : Moved g W W') : LieB W' B A n c l := h.next (hm.below hg hB)
set_option maxHeartbeats 4000000 in
theorem made_any (g B : Nat) (hB : B ≤ g) : ∀ (lv : Nat) (w : World) (A : Option Addr) (n c : Nat) (l : List Bd), lv ≤ 4096 → LieB w B A n c l → B ≤ w.heap.size → Has w g 22 #[.slice A n c] →
    Calls Tryd.prog 36 #[takeV g, .int .i64 ((4097 : Int) - lv)] w (Got B g w (bld lv (l.map strip)))
  | 0, w, A, n, c, l, _, hl, hBw, hg => by
    have c0 := Lib.hid (deep_no w ((4097 : Int) - ((0 : Nat) : Int)) (by omega))
    rw [bld]
    clear hl hg
    go_enter Tryd.func36, Tryd.ntmps36
    go_wp2_with fail
    refine c0.out.mono ?_
    rintro e w1 ⟨rfl, rfl⟩
    go_wp2_with fail
    exact ⟨rfl, rfl, Moved.refl g w⟩
  | lv + 1, w, A, n, c, l, h4, hl, hBw, hg => by
    have ih := made_any g B hB lv
    obtain ⟨D, hD⟩ : ∃ D, (4097 : Int) - ((lv + 1 : Nat) : Int) = D := ⟨_, rfl⟩
    have D0 : 1 ≤ D := by omega
    have D1 : D ≤ 4096 := by omega
    have hD2 : D + 1 = (4097 : Int) - (lv : Int) := by omega
    have cD := Lib.hid (deep_ok w D D1)
    rw [hD]
    clear hD
    cases l with
    | cons b rl =>
      have cN := Lib.hid (take_some w B g A n c b rl hl hB hg)
      rw [List.map_cons, bld]
      obtain ⟨rs, hrs⟩ : ∃ rs, rl.map strip = rs := ⟨_, rfl⟩
      rw [hrs]
      have cB : Hid (∀ (W : World) (A : Option Addr) (n c : Nat) (l' : List Bd), Moved g w W → LieB W B A n c l' → Has W g 22 #[.slice A n c] →
          Calls Tryd.prog 36 #[takeV g, .int .i64 (D + 1)] W (Got B g W (bld lv (l'.map strip)))) := fun W A n c l' h2 h1 h3 => by
        rw [hD2]
        exact ih W A n c l' (by omega) h1 (Nat.le_trans hBw h2.size) h3
      have H4 := Lib.hid hrs
      have hBw' := Lib.hid hBw
      obtain ⟨bk, bv, bm, bs, bg, bl, br⟩ := b
      change Calls Tryd.prog _ _ w (Got B g w (bld1 (bld lv) ⟨bk, bv, bg, bl, br⟩ (if bl then bld lv rs else some (.e, rs))))
      obtain ⟨O, hO⟩ : ∃ O, bld1 (bld lv) ⟨bk, bv, bg, bl, br⟩ (if bl then bld lv rs else some (.e, rs)) = O := ⟨_, rfl⟩
      rw [hO]
      have HO := Lib.hid hO
      clear hO
      clear hl hg ih hrs hD2
      go_enter Tryd.func36, Tryd.ntmps36
      go_wp2_with fail
      refine cD.out.mono ?_
      rintro e w' ⟨rfl, rfl⟩
      go_wp2_with fail
      refine cN.out.mono ?_
      rintro e w1 ⟨A1, n1, c1, rfl, hm1, hg1, hl1⟩
      have M1 := Lib.hid hm1
      have G1 := Lib.hid hg1
      have L1 := Lib.hid hl1
      clear hm1 hg1 hl1 cN
      cases bl <;> cases br
      · go_wp2_with fail
        have MX : Hid (Moved g w (w1.alloc (.cells #[K bk, K bv, K bm, K bs, G64 bg, .bool false, .bool false] 44))) := M1.out.trans (Moved.of_below ((Below.refl _ w1).alloc (Nat.le_refl _) _))
        have GX : Hid (Has (w1.alloc (.cells #[K bk, K bv, K bm, K bs, G64 bg, .bool false, .bool false] 44)) g 22 #[.slice A1 n1 c1]) := G1.out.alloc _
        have LX : Hid (LieB (w1.alloc (.cells #[K bk, K bv, K bm, K bs, G64 bg, .bool false, .bool false] 44)) B A1 n1 c1 rl) := L1.out.next ((Below.refl B w1).alloc (Nat.le_trans hBw'.out M1.out.size) _)
        have BX : Hid (Has (w1.alloc (.cells #[K bk, K bv, K bm, K bs, G64 bg, .bool false, .bool false] 44)) w1.heap.size 44 #[K bk, K bv, K bm, K bs, G64 bg, .bool false, .bool false]) := Has.new _ _ _
        have u1 : Hid (TreeAt NdS (w1.alloc (.cells #[K bk, K bv, K bm, K bs, G64 bg, .bool false, .bool false] 44)) (w1.alloc (.cells #[K bk, K bv, K bm, K bs, G64 bg, .bool false, .bool false] 44)).heap.size .e none) := rfl
        have u2 : Hid (TreeAt NdS (w1.alloc (.cells #[K bk, K bv, K bm, K bs, G64 bg, .bool false, .bool false] 44)) (w1.alloc (.cells #[K bk, K bv, K bm, K bs, G64 bg, .bool false, .bool false] 44)).heap.size .e none) := rfl
        refine (newS (w1.alloc (.cells #[K bk, K bv, K bm, K bs, G64 bg, .bool false, .bool false] 44)) (w1.alloc (.cells #[K bk, K bv, K bm, K bs, G64 bg, .bool false, .bool false] 44)).heap.size none none bk bv bg _ _ _ _ (Nat.le_refl _) u1.out.look u2.out.look).mono ?_
        rintro e w4 hb
        obtain ⟨ad, rfl, _, _, ht, hbel⟩ := TreeAt.born node_says (Nat.le_refl _) u1.out u2.out hb
        have T4 := Lib.hid ht
        have G4 := Lib.hid (GX.out.next hbel)
        have L4 := Lib.hid (LX.out.next (hbel.mono (Nat.le_trans hBw'.out MX.out.size)))
        have M4 := Lib.hid (MX.out.trans (Moved.of_below hbel))
        clear hb ht hbel
        go_wp2_with fail
        go_ret
        rw [← HO.out]
        simp only [bld1, Bool.false_eq_true, if_false, bld2]
        exact ⟨_, _, _, _, _, rfl, T4.out, G4.out, L4.out, H4.out, M4.out⟩
      · go_wp2_with fail
        have MX : Hid (Moved g w (w1.alloc (.cells #[K bk, K bv, K bm, K bs, G64 bg, .bool false, .bool true] 44))) := M1.out.trans (Moved.of_below ((Below.refl _ w1).alloc (Nat.le_refl _) _))
        have GX : Hid (Has (w1.alloc (.cells #[K bk, K bv, K bm, K bs, G64 bg, .bool false, .bool true] 44)) g 22 #[.slice A1 n1 c1]) := G1.out.alloc _
        have LX : Hid (LieB (w1.alloc (.cells #[K bk, K bv, K bm, K bs, G64 bg, .bool false, .bool true] 44)) B A1 n1 c1 rl) := L1.out.next ((Below.refl B w1).alloc (Nat.le_trans hBw'.out M1.out.size) _)
        have BX : Hid (Has (w1.alloc (.cells #[K bk, K bv, K bm, K bs, G64 bg, .bool false, .bool true] 44)) w1.heap.size 44 #[K bk, K bv, K bm, K bs, G64 bg, .bool false, .bool true]) := Has.new _ _ _
        have cR := cB.out (w1.alloc (.cells #[K bk, K bv, K bm, K bs, G64 bg, .bool false, .bool true] 44)) A1 n1 c1 rl MX.out LX.out GX.out
        rw [H4.out] at cR
        rcases hR : bld lv rs with _ | ⟨tb, r2⟩
        · rw [hR] at cR
          refine cR.mono ?_
          rintro e w3 ⟨rfl, hm⟩
          have m := Lib.hid (MX.out.trans hm)
          clear hm
          go_wp2_with fail
          refine ⟨rfl, ?_⟩
          rw [← HO.out]
          simp only [bld1, hR, if_true, Bool.false_eq_true, if_false, bld2]
          exact ⟨rfl, m.out⟩
        rw [hR] at cR
        refine cR.mono ?_
        rintro e w3 ⟨p2, A3, n3, c3, l3, rfl, ht, hg, hl3, hr, hm⟩
        have M3 := Lib.hid (MX.out.trans hm)
        have G3 := Lib.hid hg
        have L3 := Lib.hid hl3
        have B3 := Lib.hid (box_next BX.out GX.out hm)
        have T2 := Lib.hid ht
        have R2 := Lib.hid hr
        clear hm hg ht hr hl3 cR
        have y0w3 : w3.cell? ⟨w1.heap.size, 0, none⟩ = some (K bk) := B3.out.cell 0
        have y1w3 : w3.cell? ⟨w1.heap.size, 1, none⟩ = some (K bv) := B3.out.cell 1
        have y4w3 : w3.cell? ⟨w1.heap.size, 4, none⟩ = some (G64 bg) := B3.out.cell 4
        have y5w3 : w3.cell? ⟨w1.heap.size, 5, none⟩ = some (.bool false) := B3.out.cell 5
        have y6w3 : w3.cell? ⟨w1.heap.size, 6, none⟩ = some (.bool true) := B3.out.cell 6
        go_wp2_with fail
        have u1 : Hid (TreeAt NdS w3 w3.heap.size .e none) := rfl
        have u2 : Hid (TreeAt NdS w3 w3.heap.size tb p2) := T2.out
        refine (newS w3 w3.heap.size none p2 bk bv bg _ _ _ _ (Nat.le_refl _) u1.out.look u2.out.look).mono ?_
        rintro e w4 hb
        obtain ⟨ad, rfl, _, _, ht, hbel⟩ := TreeAt.born node_says (Nat.le_refl _) u1.out u2.out hb
        have T4 := Lib.hid ht
        have G4 := Lib.hid (G3.out.next hbel)
        have L4 := Lib.hid (L3.out.next (hbel.mono (Nat.le_trans hBw'.out M3.out.size)))
        have M4 := Lib.hid (M3.out.trans (Moved.of_below hbel))
        clear hb ht hbel
        go_wp2_with fail
        go_ret
        rw [← HO.out]
        simp only [bld1, if_true, Bool.false_eq_true, if_false, bld2, hR]
        exact ⟨_, _, _, _, _, rfl, T4.out, G4.out, L4.out, R2.out, M4.out⟩
      · go_wp2_with fail
        have MX : Hid (Moved g w (w1.alloc (.cells #[K bk, K bv, K bm, K bs, G64 bg, .bool true, .bool false] 44))) := M1.out.trans (Moved.of_below ((Below.refl _ w1).alloc (Nat.le_refl _) _))
        have GX : Hid (Has (w1.alloc (.cells #[K bk, K bv, K bm, K bs, G64 bg, .bool true, .bool false] 44)) g 22 #[.slice A1 n1 c1]) := G1.out.alloc _
        have LX : Hid (LieB (w1.alloc (.cells #[K bk, K bv, K bm, K bs, G64 bg, .bool true, .bool false] 44)) B A1 n1 c1 rl) := L1.out.next ((Below.refl B w1).alloc (Nat.le_trans hBw'.out M1.out.size) _)
        have BX : Hid (Has (w1.alloc (.cells #[K bk, K bv, K bm, K bs, G64 bg, .bool true, .bool false] 44)) w1.heap.size 44 #[K bk, K bv, K bm, K bs, G64 bg, .bool true, .bool false]) := Has.new _ _ _
        have cL := cB.out (w1.alloc (.cells #[K bk, K bv, K bm, K bs, G64 bg, .bool true, .bool false] 44)) A1 n1 c1 rl MX.out LX.out GX.out
        rw [H4.out] at cL
        rcases hL : bld lv rs with _ | ⟨ta, r1⟩
        · rw [hL] at cL
          refine cL.mono ?_
          rintro e w2 ⟨rfl, hm⟩
          have m := Lib.hid (MX.out.trans hm)
          clear hm
          go_wp2_with fail
          refine ⟨rfl, ?_⟩
          rw [← HO.out]
          simp only [hL, if_true, bld1]
          exact ⟨rfl, m.out⟩
        rw [hL] at cL
        refine cL.mono ?_
        rintro e w2 ⟨p1, A2, n2, c2, l2, rfl, ht, hg, hl2, hr, hm⟩
        have M2 := Lib.hid (MX.out.trans hm)
        have G2 := Lib.hid hg
        have L2 := Lib.hid hl2
        have B2 := Lib.hid (box_next BX.out GX.out hm)
        have T1 := Lib.hid ht
        have R1 := Lib.hid hr
        clear hm hg ht hr hl2 cL
        have y0w2 : w2.cell? ⟨w1.heap.size, 0, none⟩ = some (K bk) := B2.out.cell 0
        have y1w2 : w2.cell? ⟨w1.heap.size, 1, none⟩ = some (K bv) := B2.out.cell 1
        have y4w2 : w2.cell? ⟨w1.heap.size, 4, none⟩ = some (G64 bg) := B2.out.cell 4
        have y5w2 : w2.cell? ⟨w1.heap.size, 5, none⟩ = some (.bool true) := B2.out.cell 5
        have y6w2 : w2.cell? ⟨w1.heap.size, 6, none⟩ = some (.bool false) := B2.out.cell 6
        go_wp2_with fail
        have u1 : Hid (TreeAt NdS w2 w2.heap.size ta p1) := T1.out
        have u2 : Hid (TreeAt NdS w2 w2.heap.size .e none) := rfl
        refine (newS w2 w2.heap.size p1 none bk bv bg _ _ _ _ (Nat.le_refl _) u1.out.look u2.out.look).mono ?_
        rintro e w4 hb
        obtain ⟨ad, rfl, _, _, ht, hbel⟩ := TreeAt.born node_says (Nat.le_refl _) u1.out u2.out hb
        have T4 := Lib.hid ht
        have G4 := Lib.hid (G2.out.next hbel)
        have L4 := Lib.hid (L2.out.next (hbel.mono (Nat.le_trans hBw'.out M2.out.size)))
        have M4 := Lib.hid (M2.out.trans (Moved.of_below hbel))
        clear hb ht hbel
        go_wp2_with fail
        go_ret
        rw [← HO.out]
        simp only [bld1, hL, if_true, Bool.false_eq_true, if_false, bld2]
        exact ⟨_, _, _, _, _, rfl, T4.out, G4.out, L4.out, R1.out, M4.out⟩
      · go_wp2_with fail
        have MX : Hid (Moved g w (w1.alloc (.cells #[K bk, K bv, K bm, K bs, G64 bg, .bool true, .bool true] 44))) := M1.out.trans (Moved.of_below ((Below.refl _ w1).alloc (Nat.le_refl _) _))
        have GX : Hid (Has (w1.alloc (.cells #[K bk, K bv, K bm, K bs, G64 bg, .bool true, .bool true] 44)) g 22 #[.slice A1 n1 c1]) := G1.out.alloc _
        have LX : Hid (LieB (w1.alloc (.cells #[K bk, K bv, K bm, K bs, G64 bg, .bool true, .bool true] 44)) B A1 n1 c1 rl) := L1.out.next ((Below.refl B w1).alloc (Nat.le_trans hBw'.out M1.out.size) _)
        have BX : Hid (Has (w1.alloc (.cells #[K bk, K bv, K bm, K bs, G64 bg, .bool true, .bool true] 44)) w1.heap.size 44 #[K bk, K bv, K bm, K bs, G64 bg, .bool true, .bool true]) := Has.new _ _ _
        have cL := cB.out (w1.alloc (.cells #[K bk, K bv, K bm, K bs, G64 bg, .bool true, .bool true] 44)) A1 n1 c1 rl MX.out LX.out GX.out
        rw [H4.out] at cL
        rcases hL : bld lv rs with _ | ⟨ta, r1⟩
        · rw [hL] at cL
          refine cL.mono ?_
          rintro e w2 ⟨rfl, hm⟩
          have m := Lib.hid (MX.out.trans hm)
          clear hm
          go_wp2_with fail
          refine ⟨rfl, ?_⟩
          rw [← HO.out]
          simp only [hL, if_true, bld1]
          exact ⟨rfl, m.out⟩
        rw [hL] at cL
        refine cL.mono ?_
        rintro e w2 ⟨p1, A2, n2, c2, l2, rfl, ht, hg, hl2, hr, hm⟩
        have M2 := Lib.hid (MX.out.trans hm)
        have G2 := Lib.hid hg
        have L2 := Lib.hid hl2
        have B2 := Lib.hid (box_next BX.out GX.out hm)
        have T1 := Lib.hid ht
        have R1 := Lib.hid hr
        clear hm hg ht hr hl2 cL
        have y0w2 : w2.cell? ⟨w1.heap.size, 0, none⟩ = some (K bk) := B2.out.cell 0
        have y1w2 : w2.cell? ⟨w1.heap.size, 1, none⟩ = some (K bv) := B2.out.cell 1
        have y4w2 : w2.cell? ⟨w1.heap.size, 4, none⟩ = some (G64 bg) := B2.out.cell 4
        have y5w2 : w2.cell? ⟨w1.heap.size, 5, none⟩ = some (.bool true) := B2.out.cell 5
        have y6w2 : w2.cell? ⟨w1.heap.size, 6, none⟩ = some (.bool true) := B2.out.cell 6
        go_wp2_with fail
        have cR := cB.out w2 A2 n2 c2 l2 M2.out L2.out G2.out
        rw [R1.out] at cR
        rcases hR : bld lv r1 with _ | ⟨tb, r2⟩
        · rw [hR] at cR
          refine cR.mono ?_
          rintro e w3 ⟨rfl, hm⟩
          have m := Lib.hid (M2.out.trans hm)
          clear hm
          go_wp2_with fail
          refine ⟨rfl, ?_⟩
          rw [← HO.out]
          simp only [hL, bld1, hR, if_true, bld2]
          exact ⟨rfl, m.out⟩
        rw [hR] at cR
        refine cR.mono ?_
        rintro e w3 ⟨p2, A3, n3, c3, l3, rfl, ht, hg, hl3, hr, hm⟩
        have M3 := Lib.hid (M2.out.trans hm)
        have G3 := Lib.hid hg
        have L3 := Lib.hid hl3
        have B3 := Lib.hid (box_next B2.out G2.out hm)
        have T2 := Lib.hid ht
        have R2 := Lib.hid hr
        have T1' := Lib.hid (tree_on T1.out G2.out hm)
        clear hm hg ht hr hl3 cR
        have y0w3 : w3.cell? ⟨w1.heap.size, 0, none⟩ = some (K bk) := B3.out.cell 0
        have y1w3 : w3.cell? ⟨w1.heap.size, 1, none⟩ = some (K bv) := B3.out.cell 1
        have y4w3 : w3.cell? ⟨w1.heap.size, 4, none⟩ = some (G64 bg) := B3.out.cell 4
        have y5w3 : w3.cell? ⟨w1.heap.size, 5, none⟩ = some (.bool true) := B3.out.cell 5
        have y6w3 : w3.cell? ⟨w1.heap.size, 6, none⟩ = some (.bool true) := B3.out.cell 6
        go_wp2_with fail
        have u1 : Hid (TreeAt NdS w3 w3.heap.size ta p1) := T1'.out
        have u2 : Hid (TreeAt NdS w3 w3.heap.size tb p2) := T2.out
        refine (newS w3 w3.heap.size p1 p2 bk bv bg _ _ _ _ (Nat.le_refl _) u1.out.look u2.out.look).mono ?_
        rintro e w4 hb
        obtain ⟨ad, rfl, _, _, ht, hbel⟩ := TreeAt.born node_says (Nat.le_refl _) u1.out u2.out hb
        have T4 := Lib.hid ht
        have G4 := Lib.hid (G3.out.next hbel)
        have L4 := Lib.hid (L3.out.next (hbel.mono (Nat.le_trans hBw'.out M3.out.size)))
        have M4 := Lib.hid (M3.out.trans (Moved.of_below hbel))
        clear hb ht hbel
        go_wp2_with fail
        go_ret
        rw [← HO.out]
        simp only [bld1, hL, if_true, bld2, hR]
        exact ⟨_, _, _, _, _, rfl, T4.out, G4.out, L4.out, R2.out, M4.out⟩
    | nil =>
      obtain rfl : n = 0 := hl.len.symm
      have cN := Lib.hid (take_none w g A c hg)
      rw [List.map_nil, bld]
      clear ih hl hg
      go_enter Tryd.func36, Tryd.ntmps36
      go_wp2_with fail
      refine cD.out.mono ?_
      rintro e w' ⟨rfl, rfl⟩
      go_wp2_with fail
      refine cN.out.mono ?_
      rintro e w1 ⟨rfl, hb⟩
      go_wp2_with fail
      exact ⟨rfl, rfl, Moved.of_below hb⟩
end Go.Proofs.YtlhnjgmjkoafpaaDoor
/- Layer 11, as landed (gen/layer11caught.py): what is thrown is caught. -/
namespace Go.Proofs.YtlhnjgmjkoafpaaDoor
open Go.RowKit Go.Proofs.Treem
set_option maxRecDepth 100000

theorem as_nil (W : World) : (Instr.typeAssert .nilIface 20 33 true).run Tryd.prog W = .ok (.tuple #[.int .i64 0, .bool false]) W := by kernel_rfl
theorem as_errno (W : World) (v : Value) : (Instr.typeAssert (.iface 33 v) 20 33 true).run Tryd.prog W = .ok (.tuple #[v, .bool true]) W := by kernel_rfl
theorem caught_idle (p q : Addr) (w : World) :
    CallsD Tryd.prog 53 #[.pointer (some p), .pointer (some q)] .returning w fun e u' w' => e = .returned (.tuple #[]) ∧ u' = .returning ∧ w' = w := by
  have ha := as_nil
  refine callsD_of_wpS Tryd.func53 rfl fun c₀ cs hu => ?_
  apply wpS_seq
  apply wpS_region
  simp [wpOpsS, go_sem, recoverD, hu, Tryd.ntmps53, Exit.thenS]
  apply wpS_seq
  apply wpS_region
  simp [wpOpsS, go_sem, Exit.thenS, ha, Array.replicate]
  apply wpS_seq
  apply wpS_region
  simp [wpOpsS, go_sem, Exit.thenS]
  refine wpS_cond (t := false) (by simp [Act.eval]) ?_
  simp only [Bool.false_eq_true, if_false]
  apply wpS_seq
  apply wpS_region
  simp [wpOpsS, go_sem, Exit.thenS]
  refine wpS_cond (t := false) (by simp [Act.eval]) ?_
  simp only [Bool.false_eq_true, if_false]
  refine wpS_of_wp (wp_skip ?_)
  cases c₀
  simp_all [bodyPostS, results, Tryd.results53]
theorem caught_flaw (gp gq : Nat) (vp vq : Value) (older : List PanicEntry) (w : World) (hp : Has w gp 25 #[vp]) (hq : Has w gq 33 #[vq]) :
    CallsD Tryd.prog 53 #[.pointer (some ⟨gp, 0, none⟩), .pointer (some ⟨gq, 0, none⟩)] (.panicking ({ v := .iface 33 (.int .i64 7), recovered := false } :: older)) w fun e u' w' =>
      e = .returned (.tuple #[]) ∧ u' = .panicking ({ v := .iface 33 (.int .i64 7), recovered := true } :: older) ∧
      Has w' gp 25 #[.pointer none] ∧ Has w' gq 33 #[.int .i64 7] ∧ ∀ B, B ≤ gp → B ≤ gq → Below B w w' := by
  have ha := as_errno
  refine callsD_of_wpS Tryd.func53 rfl fun c₀ cs hu => ?_
  apply wpS_seq
  apply wpS_region
  simp [wpOpsS, go_sem, recoverD, hu, Tryd.ntmps53, Exit.thenS]
  apply wpS_seq
  apply wpS_region
  simp [wpOpsS, go_sem, Exit.thenS, ha, Array.replicate]
  apply wpS_seq
  apply wpS_region
  simp [wpOpsS, go_sem, Exit.thenS]
  refine wpS_cond (t := true) (by simp [Act.eval]) ?_
  simp only [if_true]
  refine wpS_of_wp ?_
  have hne : gp ≠ gq := has_apart hp hq (by decide)
  have hne2 : gq ≠ gp := fun e => hne e.symm
  have P1 := Lib.hid hp
  have P2 := Lib.hid hq
  have fp : w.frozen? ⟨gp, 0, none⟩ = false := hp.free 0
  have fq : w.frozen? ⟨gq, 0, none⟩ = false := hq.free 0
  have cp : w.cell? ⟨gp, 0, none⟩ = some vp := hp.cell 0
  have cq : w.cell? ⟨gq, 0, none⟩ = some vq := hq.cell 0
  clear hp hq ha
  go_wp2
  refine ⟨rfl, _, rfl, _, results_none rfl _ _ _, rfl, rfl, ?_, ?_, fun B h1 h2 => ?_⟩
  · exact (set_one P1.out _).far (p := ⟨gq, 0, none⟩) hne _
  · exact set_one (P2.out.far (p := ⟨gp, 0, none⟩) hne2 _) _
  · exact ((Below.refl _ _).setCell (p := ⟨gp, 0, none⟩) h1 (.pointer none)).setCell (p := ⟨gq, 0, none⟩) h2 (.int .i64 7)
/-- what a closure makes, or throws -/
def Made1 (w : World) : Option Tr → Ending → World → Prop
  | some t, e, w' => ∃ p, e = .returned (.pointer p) ∧ TreeAt NdS w' w'.heap.size t p ∧ Below w.heap.size w w'
  | none, e, w' => e = thrown ∧ Below w.heap.size w w'
set_option maxHeartbeats 4000000 in
theorem caughtM (w : World) (gl : Nat) (o : Option Tr) (hM : ∀ W, Below w.heap.size w W → Calls Tryd.prog 35 #[.pointer (some ⟨gl, 0, none⟩)] W (Made1 W o)) :
    Calls Tryd.prog 34 #[.func (.func 35) #[] #[.pointer (some ⟨gl, 0, none⟩)]] w (MadeTree NdS w o) := by
  have hmf : ∀ (fn : Fn) (first cap : Array Value) (w : World), (Instr.makeFunc fn first cap).run Tryd.prog w = .ok (.func fn first cap) w := fun _ _ _ _ => rfl
  obtain ⟨sz, hsz⟩ : ∃ sz, w.heap.size = sz := ⟨_, rfl⟩
  obtain ⟨W, hW⟩ : ∃ W, (w.alloc (.cells #[.pointer none] 25)).alloc (.cells #[.int .i64 0] 33) = W := ⟨_, rfl⟩
  have s1 := size_next hsz (.cells #[.pointer none] 25)
  have s2 : Hid (W.heap.size = sz + 1 + 1) := hW ▸ size_next s1 _
  have hb : Hid (Below sz w W) := hW ▸ hsz ▸ ((Below.refl _ w).alloc (Nat.le_refl _) _).alloc (by rw [s1]; omega) _
  have g1 : Hid (Has W sz 25 #[.pointer none]) := hW ▸ (new_at hsz _ _).alloc _
  have g2 : Hid (Has W (sz + 1) 33 #[.int .i64 0]) := hW ▸ new_at s1 _ _
  have cM := Lib.hid (hM W (hsz ▸ hb.out))
  have HW := Lib.hid hW
  have HS := Lib.hid hsz
  clear s1 hW hsz hM
  go_enter_defers Tryd.func34, Tryd.ntmps34
  go_wp2_with fail
  rw [HS.out, HW.out]
  refine cM.out.mono ?_
  cases o with
  | none =>
    rintro e w5 ⟨rfl, hm⟩
    have k1 := Lib.hid (g1.out.next hm)
    have k2 := Lib.hid (g2.out.next hm)
    have kb := Lib.hid (hb.out.trans (hm.mono (by rw [s2.out]; omega)))
    clear hm
    go_wp2_with fail
    refine leaves_cons (f := 53) (args := #[.pointer (some ⟨sz, 0, none⟩), .pointer (some ⟨sz + 1, 0, none⟩)]) (by simp) (by simp [go_sem]) ?_
    refine (caught_flaw sz (sz + 1) _ _ [] w5 (k1.out) (k2.out)).mono ?_
    rintro e u' w'' ⟨rfl, rfl, hp', hq', hbl⟩
    have cp : w''.cell? ⟨sz, 0, none⟩ = some (.pointer none) := hp'.cell 0
    have cq : w''.cell? ⟨sz + 1, 0, none⟩ = some (.int .i64 7) := hq'.cell 0
    have hbb := Lib.hid ((kb.out).trans (hbl sz (by omega) (by omega)))
    clear hp' hq' hbl
    simp [Leaves, settle, results, Tryd.results34, go_sem, cp, cq]
    exact ⟨rfl, HS.out ▸ hbb.out⟩
  | some t =>
    rintro e w5 ⟨p, rfl, ht, hm⟩
    have k1 := Lib.hid (g1.out.next hm)
    have k2 := Lib.hid (g2.out.next hm)
    have kb := Lib.hid (hb.out.trans (hm.mono (by rw [s2.out]; omega)))
    have kt := Lib.hid ht
    clear hm ht
    have c1 : w5.cell? ⟨sz, 0, none⟩ = some (.pointer none) := k1.out.cell 0
    have f1 : w5.frozen? ⟨sz, 0, none⟩ = false := k1.out.free 0
    have c2 : w5.cell? ⟨sz + 1, 0, none⟩ = some (.int .i64 0) := k2.out.cell 0
    have f2 : w5.frozen? ⟨sz + 1, 0, none⟩ = false := k2.out.free 0
    go_wp2_with fail
    obtain ⟨V, hV⟩ : ∃ V, (w5.setCell ⟨sz, 0, none⟩ (.pointer p)).setCell ⟨sz + 1, 0, none⟩ (.int .i64 0) = V := ⟨_, rfl⟩
    have x1 : sz + 1 ≠ sz := by omega
    have x2 : sz ≠ sz + 1 := by omega
    have m1 := Moved.set sz w5 (.pointer p)
    have q1 := set_one k1.out (.pointer p)
    have r2 := k2.out.far (p := ⟨sz, 0, none⟩) x1 (.pointer p)
    have m3 := Moved.set (sz + 1) (w5.setCell ⟨sz, 0, none⟩ (.pointer p)) (.int .i64 0)
    have q3 := q1.far (p := ⟨sz + 1, 0, none⟩) x2 (.int .i64 0)
    have r3 := set_one r2 (.int .i64 0)
    have t1 := m1.tree2 (by decide) k1.out kt.out
    have t3 := m3.tree2 (by decide) r2 t1
    have b3 := ((kb.out.setCell (p := ⟨sz, 0, none⟩) (Nat.le_refl sz) (.pointer p)).setCell (p := ⟨sz + 1, 0, none⟩) (Nat.le_succ sz) (.int .i64 0))
    have mm := m1.size
    rw [hV] at m3 q3 r3 t3 b3 ⊢
    have T3 := Lib.hid (t3.more node_says (Nat.le_trans mm m3.size))
    have B3 := Lib.hid b3
    have cp : V.cell? ⟨sz, 0, none⟩ = some (.pointer p) := q3.cell 0
    have cq : V.cell? ⟨sz + 1, 0, none⟩ = some (.int .i64 0) := r3.cell 0
    clear m1 m3 q1 q3 r2 r3 t1 t3 b3 mm c1 c2 f1 f2
    refine leaves_cons (f := 53) (args := #[.pointer (some ⟨sz, 0, none⟩), .pointer (some ⟨sz + 1, 0, none⟩)]) (by simp) (by simp [go_sem]) ?_
    refine (caught_idle ⟨sz, 0, none⟩ ⟨sz + 1, 0, none⟩ _).mono ?_
    rintro e u' w'' ⟨rfl, rfl, rfl⟩
    simp [Leaves, settle, results, Tryd.results34, go_sem, cp, cq]
    exact ⟨p, rfl, T3.out, HS.out ▸ B3.out⟩
set_option maxHeartbeats 4000000 in
theorem caughtR (w : World) (gl : Nat) (o : Option Tr) (hM : ∀ W, Below w.heap.size w W → Calls Tryd.prog 40 #[.pointer (some ⟨gl, 0, none⟩)] W (Made1 W o)) :
    Calls Tryd.prog 34 #[.func (.func 40) #[] #[.pointer (some ⟨gl, 0, none⟩)]] w (MadeTree NdS w o) := by
  have hmf : ∀ (fn : Fn) (first cap : Array Value) (w : World), (Instr.makeFunc fn first cap).run Tryd.prog w = .ok (.func fn first cap) w := fun _ _ _ _ => rfl
  obtain ⟨sz, hsz⟩ : ∃ sz, w.heap.size = sz := ⟨_, rfl⟩
  obtain ⟨W, hW⟩ : ∃ W, (w.alloc (.cells #[.pointer none] 25)).alloc (.cells #[.int .i64 0] 33) = W := ⟨_, rfl⟩
  have s1 := size_next hsz (.cells #[.pointer none] 25)
  have s2 : Hid (W.heap.size = sz + 1 + 1) := hW ▸ size_next s1 _
  have hb : Hid (Below sz w W) := hW ▸ hsz ▸ ((Below.refl _ w).alloc (Nat.le_refl _) _).alloc (by rw [s1]; omega) _
  have g1 : Hid (Has W sz 25 #[.pointer none]) := hW ▸ (new_at hsz _ _).alloc _
  have g2 : Hid (Has W (sz + 1) 33 #[.int .i64 0]) := hW ▸ new_at s1 _ _
  have cM := Lib.hid (hM W (hsz ▸ hb.out))
  have HW := Lib.hid hW
  have HS := Lib.hid hsz
  clear s1 hW hsz hM
  go_enter_defers Tryd.func34, Tryd.ntmps34
  go_wp2_with fail
  rw [HS.out, HW.out]
  refine cM.out.mono ?_
  cases o with
  | none =>
    rintro e w5 ⟨rfl, hm⟩
    have k1 := Lib.hid (g1.out.next hm)
    have k2 := Lib.hid (g2.out.next hm)
    have kb := Lib.hid (hb.out.trans (hm.mono (by rw [s2.out]; omega)))
    clear hm
    go_wp2_with fail
    refine leaves_cons (f := 53) (args := #[.pointer (some ⟨sz, 0, none⟩), .pointer (some ⟨sz + 1, 0, none⟩)]) (by simp) (by simp [go_sem]) ?_
    refine (caught_flaw sz (sz + 1) _ _ [] w5 (k1.out) (k2.out)).mono ?_
    rintro e u' w'' ⟨rfl, rfl, hp', hq', hbl⟩
    have cp : w''.cell? ⟨sz, 0, none⟩ = some (.pointer none) := hp'.cell 0
    have cq : w''.cell? ⟨sz + 1, 0, none⟩ = some (.int .i64 7) := hq'.cell 0
    have hbb := Lib.hid ((kb.out).trans (hbl sz (by omega) (by omega)))
    clear hp' hq' hbl
    simp [Leaves, settle, results, Tryd.results34, go_sem, cp, cq]
    exact ⟨rfl, HS.out ▸ hbb.out⟩
  | some t =>
    rintro e w5 ⟨p, rfl, ht, hm⟩
    have k1 := Lib.hid (g1.out.next hm)
    have k2 := Lib.hid (g2.out.next hm)
    have kb := Lib.hid (hb.out.trans (hm.mono (by rw [s2.out]; omega)))
    have kt := Lib.hid ht
    clear hm ht
    have c1 : w5.cell? ⟨sz, 0, none⟩ = some (.pointer none) := k1.out.cell 0
    have f1 : w5.frozen? ⟨sz, 0, none⟩ = false := k1.out.free 0
    have c2 : w5.cell? ⟨sz + 1, 0, none⟩ = some (.int .i64 0) := k2.out.cell 0
    have f2 : w5.frozen? ⟨sz + 1, 0, none⟩ = false := k2.out.free 0
    go_wp2_with fail
    obtain ⟨V, hV⟩ : ∃ V, (w5.setCell ⟨sz, 0, none⟩ (.pointer p)).setCell ⟨sz + 1, 0, none⟩ (.int .i64 0) = V := ⟨_, rfl⟩
    have x1 : sz + 1 ≠ sz := by omega
    have x2 : sz ≠ sz + 1 := by omega
    have m1 := Moved.set sz w5 (.pointer p)
    have q1 := set_one k1.out (.pointer p)
    have r2 := k2.out.far (p := ⟨sz, 0, none⟩) x1 (.pointer p)
    have m3 := Moved.set (sz + 1) (w5.setCell ⟨sz, 0, none⟩ (.pointer p)) (.int .i64 0)
    have q3 := q1.far (p := ⟨sz + 1, 0, none⟩) x2 (.int .i64 0)
    have r3 := set_one r2 (.int .i64 0)
    have t1 := m1.tree2 (by decide) k1.out kt.out
    have t3 := m3.tree2 (by decide) r2 t1
    have b3 := ((kb.out.setCell (p := ⟨sz, 0, none⟩) (Nat.le_refl sz) (.pointer p)).setCell (p := ⟨sz + 1, 0, none⟩) (Nat.le_succ sz) (.int .i64 0))
    have mm := m1.size
    rw [hV] at m3 q3 r3 t3 b3 ⊢
    have T3 := Lib.hid (t3.more node_says (Nat.le_trans mm m3.size))
    have B3 := Lib.hid b3
    have cp : V.cell? ⟨sz, 0, none⟩ = some (.pointer p) := q3.cell 0
    have cq : V.cell? ⟨sz + 1, 0, none⟩ = some (.int .i64 0) := r3.cell 0
    clear m1 m3 q1 q3 r2 r3 t1 t3 b3 mm c1 c2 f1 f2
    refine leaves_cons (f := 53) (args := #[.pointer (some ⟨sz, 0, none⟩), .pointer (some ⟨sz + 1, 0, none⟩)]) (by simp) (by simp [go_sem]) ?_
    refine (caught_idle ⟨sz, 0, none⟩ ⟨sz + 1, 0, none⟩ _).mono ?_
    rintro e u' w'' ⟨rfl, rfl, rfl⟩
    simp [Leaves, settle, results, Tryd.results34, go_sem, cp, cq]
    exact ⟨p, rfl, T3.out, HS.out ▸ B3.out⟩
end Go.Proofs.YtlhnjgmjkoafpaaDoor
namespace Go.Proofs.YtlhnjgmjkoafpaaDoor
open Go.RowKit Go.Proofs.Treem
set_option maxRecDepth 100000

theorem kN (m : Nat) (h : m ≤ 100000) : K (BitVec.ofNat 64 m) = .int .i64 (m : Int) := by
  show Value.int .i64 (BitVec.ofNat 64 m).toInt = _
  congr 1
  rw [BitVec.toInt_eq_toNat_of_lt (by rw [BitVec.toNat_ofNat]; omega), BitVec.toNat_ofNat, Nat.mod_eq_of_lt (by omega)]
theorem taker_any (w : World) (A : Option Addr) (n c : Nat) : Calls Tryd.prog 37 #[.slice A n c] w fun e w' => e = .returned (takeV w.heap.size) ∧ w' = w.alloc (.cells #[.slice A n c] 22) := by
  have hmf : ∀ (fn : Fn) (first cap : Array Value) (w : World), (Instr.makeFunc fn first cap).run Tryd.prog w = .ok (.func fn first cap) w := fun _ _ _ _ => rfl
  go_enter Tryd.func37, Tryd.ntmps37
  go_wp2
  go_ret
  exact ⟨rfl, rfl⟩
theorem made1_none (w : World) (gl : Nat) (A : Option Addr) (c : Nat) (hg : Has w gl 22 #[.slice A 0 c]) : Calls Tryd.prog 35 #[.pointer (some ⟨gl, 0, none⟩)] w (Made1 w (some .e)) := by
  have q1 : w.cell? ⟨gl, 0, none⟩ = some (.slice A 0 c) := hg.cell 0
  clear hg
  go_enter Tryd.func35, Tryd.ntmps35
  go_wp2_with fail
  go_ret
  exact ⟨none, rfl, rfl, Below.refl _ _⟩
set_option maxHeartbeats 4000000 in
theorem made1_any (w : World) (gl : Nat) (A : Option Addr) (n c : Nat) (l : List Bd) (hl : LieB w w.heap.size A n c l) (hn : 0 < n) (hg : Has w gl 22 #[.slice A n c]) :
    Calls Tryd.prog 35 #[.pointer (some ⟨gl, 0, none⟩)] w (Made1 w (madeOf (l.map strip))) := by
  have q1 : w.cell? ⟨gl, 0, none⟩ = some (.slice A n c) := hg.cell 0
  have d0 : ((n : Int) == 0) = false := beq_eq_false_iff_ne.2 (by omega)
  have hlen := hl.len
  have h9 := hl.few
  have hne : l.map strip ≠ [] := fun e => by have := congrArg List.length e; simp [hlen] at this; omega
  obtain ⟨sz, hsz⟩ : ∃ sz, w.heap.size = sz := ⟨_, rfl⟩
  obtain ⟨W, hW⟩ : ∃ W, w.alloc (.cells #[.slice A n c] 22) = W := ⟨_, rfl⟩
  have hb : Hid (Below sz w W) := hW ▸ hsz ▸ (Below.refl _ w).alloc (Nat.le_refl _) _
  have g0 : Hid (Has W gl 22 #[.slice A n c]) := hW ▸ hg.alloc _
  have g1 : Hid (Has W sz 22 #[.slice A n c]) := hW ▸ new_at hsz _ _
  have hgl : gl < sz := hsz ▸ hg.lt
  have hBW : Hid (sz ≤ W.heap.size) := Nat.le_trans (Nat.le_of_eq hsz.symm) hb.out.size
  have hB : Hid (Calls Tryd.prog 36 #[takeV sz, .int .i64 1] W (Got sz sz W (bld 4096 (l.map strip)))) := made_any sz sz (Nat.le_refl _) 4096 W A n c l (by omega) (hsz ▸ hl.next (hsz ▸ hb.out)) hBW.out g1.out
  have cT := Lib.hid (taker_any w A n c)
  rw [hsz, hW] at cT
  have HS := Lib.hid hsz
  obtain ⟨O, hO⟩ : ∃ O, madeOf (l.map strip) = O := ⟨_, rfl⟩
  rw [hO]
  have HO := Lib.hid hO
  have hn' : Hid (n = l.length) := hlen.symm
  clear hl hg hW hsz hO hlen
  go_enter Tryd.func35, Tryd.ntmps35
  go_wp2_with fail
  refine cT.out.mono ?_
  rintro e w' ⟨rfl, rfl⟩
  clear q1
  go_wp2_with fail
  rcases hr : bld 4096 (l.map strip) with _ | ⟨t, r⟩
  · obtain rfl : O = none := HO.out.symm.trans (made_none hne hr)
    rw [hr] at hB
    refine hB.out.mono ?_
    rintro e w5 ⟨rfl, hm⟩
    have kb := Lib.hid (hb.out.trans (hm.below (Nat.le_refl _) hBW.out))
    clear hm hr HO
    go_wp2_with fail
    exact ⟨rfl, rfl, HS.out ▸ kb.out⟩
  · rw [hr] at hB
    have HR := Lib.hid hr
    have hsum : Hid (t.size + r.length = n ∧ t.is = true ∧ (madeOf (l.map strip) = if r = [] then some t else none)) := by
      obtain ⟨h1, h2, _⟩ := bld_some _ _ _ _ hr
      refine ⟨?_, h1, ?_⟩
      · have := congrArg List.length h2
        rw [List.length_map, List.length_append, pre_len] at this
        rw [hn'.out]; omega
      · cases r with
        | nil => rw [if_pos rfl]; exact made_whole hne hr
        | cons y q => rw [if_neg (by simp)]; exact made_more hne hr
    clear hr
    refine hB.out.mono ?_
    rintro e w5 ⟨p, A', n', c', l', rfl, ht, hg, hl', hrr, hm⟩
    have k0 := Lib.hid (hm.has g0.out (by omega))
    have kb := Lib.hid (hb.out.trans (hm.below (Nat.le_refl _) hBW.out))
    have kt := Lib.hid ht
    clear hm hg ht hrr hl' hB
    have q1 : w5.cell? ⟨gl, 0, none⟩ = some (.slice A n c) := k0.out.cell 0
    obtain ⟨m, hm⟩ : ∃ m, t.size = m := ⟨_, rfl⟩
    have cS : Hid (∀ k, Calls Tryd.prog 23 #[.pointer p] (w5.drewN k) fun e w' => e = .returned (.int .i64 (m : Int)) ∧ w5.drewN k = w') := fun k => by
      obtain ⟨h1, h2, _⟩ := hsum.out
      cases t with
      | e => cases h2
      | n a kk v g b =>
        obtain ⟨ad, pl, pr, rfl, hx, _, _⟩ := kt.out
        refine (node_says.size (w5.drewN k) _ ad _ (node_says.next hx (below_drewN (Below.refl _ _) k))).mono fun e w' h => ⟨h.1.trans ?_, h.2⟩
        show Ending.returned (K (BitVec.ofNat 64 (1 + a.size + b.size))) = _
        rw [kN _ (by rw [Tr.size] at h1; omega), ← hm, Tr.size]
    have hsum2 : Hid (m + r.length = n ∧ O = if r = [] then some t else none) := by
      obtain ⟨h1, _, h3⟩ := hsum.out
      exact ⟨by omega, by rw [← HO.out, h3]⟩
    have hm' := Lib.hid hm
    clear hm hsum HO HR
    cases r with
    | nil =>
      obtain ⟨h1, rfl⟩ := hsum2.out
      have hmn : m = n := by simpa using h1
      subst hmn
      have d1 : ((m : Int) == (m : Int)) = true := beq_self_eq_true _
      have d2 : ((m : Int) != (m : Int)) = false := by rw [bne, d1]; rfl
      clear hsum2 h1
      go_wp2_with fail
      go_quiet ((go_at_call 23; exact quiet_same (cS.out _)))
      go_wp2_with fail
      go_ret
      exact ⟨p, rfl, (kt.out.next node_says (below_drewN (Below.refl _ _) _)).more node_says (below_drewN (B := w5.heap.size) (Below.refl _ _) _).size, HS.out ▸ below_drewN kb.out _⟩
    | cons y q =>
      obtain ⟨h1, rfl⟩ := hsum2.out
      have hmn : m ≠ n := by simp at h1; omega
      have d1 : ((m : Int) == (n : Int)) = false := beq_eq_false_iff_ne.2 (by omega)
      have d2 : ((m : Int) != (n : Int)) = true := by rw [bne, d1]; rfl
      clear hsum2 h1
      go_wp2_with fail
      go_quiet ((go_at_call 23; exact quiet_same (cS.out _)))
      go_wp2_with fail
      exact ⟨rfl, rfl, HS.out ▸ below_drewN kb.out _⟩
theorem make_is {s : List St} {o : Option Tr} (ho : MakeIs s o) : o = madeOf s := by
  cases o with
  | some t => exact ((made_is _ _).2 ho).symm
  | none =>
    cases hm : madeOf s with
    | none => rfl
    | some t => exact absurd ((made_is _ _).1 hm).2 (ho t ((made_is _ _).1 hm).1)
theorem MadeTree.up {w W w' : World} {o : Option Tr} {e : Ending} (hb : Below w.heap.size w W) (h : MadeTree NdS W o e w') : MadeTree NdS w o e w' := by
  cases o with
  | none => exact ⟨h.1, Below.after hb h.2⟩
  | some t =>
    obtain ⟨p, h1, h2, h3⟩ := h
    exact ⟨p, h1, h2, Below.after hb h3⟩
set_option maxHeartbeats 1000000 in
theorem make_any (w : World) (A : Option Addr) (n c : Nat) (l : List Bd) (o : Option Tr) (hl : LieB w w.heap.size A n c l) (ho : MakeIs (l.map strip) o) : Calls Tryd.prog 17 #[.slice A n c] w (MadeTree NdS w o) := by
  have hmf : ∀ (fn : Fn) (first cap : Array Value) (w : World), (Instr.makeFunc fn first cap).run Tryd.prog w = .ok (.func fn first cap) w := fun _ _ _ _ => rfl
  have h9 := hl.few
  have d1 : decide ((65536 : Int) < (n : Int)) = false := decide_eq_false (by omega)
  obtain ⟨sz, hsz⟩ : ∃ sz, w.heap.size = sz := ⟨_, rfl⟩
  obtain ⟨W, hW⟩ : ∃ W, w.alloc (.cells #[.slice A n c] 22) = W := ⟨_, rfl⟩
  have hb : Hid (Below w.heap.size w W) := hW ▸ (Below.refl _ w).alloc (Nat.le_refl _) _
  have g1 : Hid (Has W sz 22 #[.slice A n c]) := hW ▸ new_at hsz _ _
  have cC : Hid (Calls Tryd.prog 34 #[.func (.func 35) #[] #[.pointer (some ⟨sz, 0, none⟩)]] W (MadeTree NdS W o)) := by
    refine caughtM W sz o fun X hX => ?_
    have gX := g1.out.next hX
    rcases Nat.eq_zero_or_pos n with rfl | hn
    · have h0 : l = [] := List.eq_nil_of_length_eq_zero hl.len
      subst h0
      rw [make_is ho]
      exact made1_none X sz A c gX
    · rw [make_is ho]
      exact made1_any X sz A n c l ((hl.next (Below.after hb.out hX)).more (Below.after hb.out hX).size) hn gX
  have HS := Lib.hid hsz
  have HW := Lib.hid hW
  clear hl ho hsz hW
  go_enter Tryd.func17, Tryd.ntmps17
  go_wp2_with fail
  rw [HS.out, HW.out]
  refine cC.out.mono ?_
  cases o with
  | none =>
    rintro e w1 ⟨rfl, hb1⟩
    have b1 := Lib.hid (Below.after hb.out hb1)
    clear hb1
    go_wp2_with fail
    go_ret2
    exact ⟨rfl, b1.out⟩
  | some t =>
    rintro e w1 ⟨p, rfl, ht, hb1⟩
    have b1 := Lib.hid (Below.after hb.out hb1)
    have kt := Lib.hid ht
    clear hb1 ht
    go_wp2_with fail
    go_ret2
    exact ⟨p, rfl, kt.out, b1.out⟩
end Go.Proofs.YtlhnjgmjkoafpaaDoor
