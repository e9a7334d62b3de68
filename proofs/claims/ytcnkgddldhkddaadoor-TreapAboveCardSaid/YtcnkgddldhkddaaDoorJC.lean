/- Package treap, as landed: Items: down the left sides with a row of nodes that wait. Made by wip/gen/layer20items.py. -/
import Derived.Test.YtcnkgddldhkddaaDoorJB
import Derived.Test.YtcnkgddldhkddaaDoorJA
import Derived.Test.YtcnkgddldhkddaaDoorL9Same
import Derived.Test.YtcnkgddldhkddaaDoorGOwn
import Derived.Test.YtcnkgddldhkddaaDoorGCut
import Derived.Test.YtcnkgddldhkddaaDoorL9Steps
import Derived.Shelf.Abstract
import Derived.Test.YtcnkgddldhkddaaDoorGPtrSet
import Derived.Test.YtcnkgddldhkddaaDoorGApart
import Derived.Test.YtcnkgddldhkddaaDoorGHeldIn
import Derived.Deep.Cut
import Derived.Laws.OwnMore
import Derived.Test.YtcnkgddldhkddaaDoorGRow
import Derived.Deep.RegionLaw
/- Package treap, as landed: itemOf, standing and its closure, Above. -/
namespace Go.Proofs.YtcnkgddldhkddaaDoor
open Go.RowKit Go.Shelf Go.Proofs.Treem
set_option maxRecDepth 100000
variable {Nd : NdP}

theorem put3 {w : World} {g : Nat} {t : TypeId} {a b c : Value} (h : Has w g t #[a, b, c]) (x y z : Value) : Has (((w.setCell ⟨g, 0, none⟩ x).setCell ⟨g, 1, none⟩ y).setCell ⟨g, 2, none⟩ z) g t #[x, y, z] := by
  have k := ((h.set 0 x).set 1 y).set 2 z
  rw [show (((#[a, b, c].setIfInBounds 0 x).setIfInBounds 1 y).setIfInBounds 2 z) = #[x, y, z] by simp] at k
  exact k
set_option maxHeartbeats 4000000 in
/-- a node as an item -/
theorem itemOf_any (hN : NodeSays Nd) (w : World) (l r : Tr) (k v g : BitVec 64) (p : Option Addr) (ht : TreeAt Nd w w.heap.size (.n l k v g r) p) :
    Calls Tryd.prog 35 #[.pointer p] w fun e w' => e = .returned (itV ⟨k, v, g⟩) ∧ Below w.heap.size w w' := by
  obtain ⟨a, pl, pr, rfl, h2, -, -⟩ := ht
  obtain ⟨sz, hsz⟩ : ∃ sz, w.heap.size = sz := ⟨_, rfl⟩
  obtain ⟨W, hW⟩ : ∃ W, w.alloc (.cells #[.int .i64 0, .int .i64 0, .int .u64 0] 38) = W := ⟨_, rfl⟩
  have b0 : Below w.heap.size w W := hW ▸ (Below.refl _ w).alloc (Nat.le_refl _) _
  have g0 : Has W sz 38 #[.int .i64 0, .int .i64 0, .int .u64 0] := hsz ▸ hW ▸ Has.new w _ _
  have hx := hN.next h2 b0
  have q1 : Hid (Calls Tryd.prog 28 #[.pointer (some a)] W fun e w' => e = .returned (.int .i64 k.toInt) ∧ W = w') := hN.key W _ a _ hx
  have q2 : Hid (Calls Tryd.prog 51 #[.pointer (some a)] W fun e w' => e = .returned (.int .i64 v.toInt) ∧ W = w') := hN.val W _ a _ hx
  have q3 : Hid (Calls Tryd.prog 37 #[.pointer (some a)] W fun e w' => e = .returned (.int .u64 (g.toNat : Int)) ∧ W = w') := hN.tag W _ a _ hx
  show Calls Tryd.prog 35 #[.pointer (some a)] w fun e w' => e = .returned (.agg #[.int .i64 k.toInt, .int .i64 v.toInt, .int .u64 (g.toNat : Int)]) ∧ Below w.heap.size w w'
  obtain ⟨kz, hkz⟩ : ∃ x, k.toInt = x := ⟨_, rfl⟩
  obtain ⟨vz, hvz⟩ : ∃ x, v.toInt = x := ⟨_, rfl⟩
  obtain ⟨gz, hgz⟩ : ∃ x : Int, (g.toNat : Int) = x := ⟨_, rfl⟩
  rw [hkz] at q1 ⊢
  rw [hvz] at q2 ⊢
  rw [hgz] at q3 ⊢
  have x0 := g0.free 0
  have x1 := g0.free 1
  have x2 := g0.free 2
  have r0 := g0.cell 0
  have r1 := g0.cell 1
  have r2 := g0.cell 2
  simp only [List.getElem?_toArray, List.getElem?_cons_zero, List.getElem?_cons_succ] at r0 r1 r2
  have G0 := Lib.hid g0
  have B0 := Lib.hid b0
  have HS := Lib.hid hsz
  have HW := Lib.hid hW
  clear hx h2 hN hsz hW g0 b0 hkz hvz hgz
  go_enter Tryd.func35, Tryd.ntmps35
  go_wp2_with fail
  rw [HS.out, HW.out]
  refine q1.out.mono ?_
  rintro e w1 ⟨rfl, rfl⟩
  go_wp2_with fail
  refine q2.out.mono ?_
  rintro e w1 ⟨rfl, rfl⟩
  go_wp2_with fail
  refine q3.out.mono ?_
  rintro e w1 ⟨rfl, rfl⟩
  go_wp2_with fail
  refine bodyPost_ret (Ret.row rfl _ _ sz 38 _ (0, 0) _ rfl (put3 G0.out _ _ _) Tryd.underlying38 rfl (by kernel_rfl)) rfl ?_
  exact ⟨rfl, (((B0.out.setCell (p := ⟨sz, 0, none⟩) (by rw [HS.out]; exact Nat.le_refl _) _).setCell (p := ⟨sz, 1, none⟩) (by rw [HS.out]; exact Nat.le_refl _) _).setCell (p := ⟨sz, 2, none⟩) (by rw [HS.out]; exact Nat.le_refl _) _)⟩
/-- the closure of standing, as a value: the block of its item -/
abbrev stV (g : Nat) : Value := .func (.func 54) #[] #[.pointer (some ⟨g, 0, none⟩)]
theorem standing_any (x : It) (w : World) : Calls Tryd.prog 41 #[itV x] w fun e w' => e = .returned (stV w.heap.size) ∧ w.alloc (.cells #[K x.k, K x.v, G64 x.g] 38) = w' := by
  go_enter Tryd.func41, Tryd.ntmps41
  go_wp2
  go_ret
  exact ⟨rfl, rfl⟩
theorem has3 {w : World} {g : Nat} {t : TypeId} {a b c : Value} (h : Has w g t #[a, b, c]) : w.cell? ⟨g, 0, none⟩ = some a ∧ w.cell? ⟨g, 2, none⟩ = some c := by
  have r0 := h.cell 0
  have r2 := h.cell 2
  simp only [List.getElem?_toArray, List.getElem?_cons_zero, List.getElem?_cons_succ] at r0 r2
  exact ⟨r0, r2⟩
set_option maxHeartbeats 4000000 in
/-- what the closure of an item answers of another one -/
theorem standing1_any (x y : It) (g : Nat) (w : World) (h : Has w g 38 #[K x.k, K x.v, G64 x.g]) :
    Calls Tryd.prog 54 #[itV y, .pointer (some ⟨g, 0, none⟩)] w fun e w' => e = .returned (.bool (aboveI x y)) ∧ Below w.heap.size w w' := by
  rw [above_is]
  obtain ⟨xk, xv, xg⟩ := x
  obtain ⟨yk, yv, yg⟩ := y
  simp only at h ⊢
  obtain ⟨sz, hsz⟩ : ∃ sz, w.heap.size = sz := ⟨_, rfl⟩
  obtain ⟨W, hW⟩ : ∃ W, w.alloc (.cells #[K yk, K yv, G64 yg] 38) = W := ⟨_, rfl⟩
  have b0 : Hid (Below w.heap.size w W) := hW ▸ (Below.refl _ w).alloc (Nat.le_refl _) _
  obtain ⟨c0', c2'⟩ := has3 (show Has W sz 38 #[K yk, K yv, G64 yg] from hsz ▸ hW ▸ Has.new w _ _)
  obtain ⟨d0', d2'⟩ := has3 (hW ▸ h.alloc _ : Has W g 38 #[K xk, K xv, G64 xg])
  show Calls Tryd.prog 54 #[.agg #[.int .i64 yk.toInt, .int .i64 yv.toInt, .int .u64 (yg.toNat : Int)], .pointer (some ⟨g, 0, none⟩)] w _
  have c0 : W.cell? ⟨sz, 0, none⟩ = some (.int .i64 yk.toInt) := c0'
  have c2 : W.cell? ⟨sz, 2, none⟩ = some (.int .u64 (yg.toNat : Int)) := c2'
  have d0 : W.cell? ⟨g, 0, none⟩ = some (.int .i64 xk.toInt) := d0'
  have d2 : W.cell? ⟨g, 2, none⟩ = some (.int .u64 (xg.toNat : Int)) := d2'
  have hW : w.alloc (.cells #[.int .i64 yk.toInt, .int .i64 yv.toInt, .int .u64 (yg.toNat : Int)] 38) = W := hW
  obtain ⟨P, hP⟩ : ∃ P, xg.toNat = P := ⟨_, rfl⟩
  obtain ⟨Q, hQ⟩ : ∃ P, yg.toNat = P := ⟨_, rfl⟩
  obtain ⟨a, ha⟩ : ∃ P, xk.toInt = P := ⟨_, rfl⟩
  obtain ⟨b, hb⟩ : ∃ P, yk.toInt = P := ⟨_, rfl⟩
  obtain ⟨v, hv⟩ : ∃ P, yv.toInt = P := ⟨_, rfl⟩
  rw [hP] at d2 ⊢
  rw [hQ, hb, hv] at hW
  rw [hQ] at c2 ⊢
  rw [ha] at d0 ⊢
  rw [hb] at c0 ⊢
  rw [hv]
  have HS := Lib.hid hsz
  have HW := Lib.hid hW
  clear hP hQ ha hb hv hsz hW h c0' c2' d0' d2'
  rcases Nat.lt_trichotomy Q P with h | h | h
  · have e1 : decide ((Q : Int) < (P : Int)) = true := decide_eq_true (by omega)
    have e2 : ((P : Int) == (Q : Int)) = false := by rw [beq_eq_false_iff_ne]; omega
    have hv : decide (Q < P ∨ (P = Q ∧ b < a)) = true := decide_eq_true (by omega)
    rw [hv]
    clear hv c0 d0
    go_enter Tryd.func54, Tryd.ntmps54
    go_upto_region 1 with (fail)
    rw [HS.out, HW.out]
    go_wp2
    go_ret
    exact ⟨rfl, b0.out⟩
  · subst h
    have e2 : ((Q : Int) == (Q : Int)) = true := beq_self_eq_true _
    by_cases h2 : b < a
    · have e1 : decide (b < a) = true := decide_eq_true h2
      have hv : decide (Q < Q ∨ (Q = Q ∧ b < a)) = true := decide_eq_true (by omega)
      rw [hv]
      clear hv
      go_enter Tryd.func54, Tryd.ntmps54
      go_upto_region 1 with (fail)
      rw [HS.out, HW.out]
      go_wp2
      go_ret
      exact ⟨rfl, b0.out⟩
    · have e1 : decide (b < a) = false := decide_eq_false h2
      have hv : decide (Q < Q ∨ (Q = Q ∧ b < a)) = false := decide_eq_false (by omega)
      rw [hv]
      clear hv
      go_enter Tryd.func54, Tryd.ntmps54
      go_upto_region 1 with (fail)
      rw [HS.out, HW.out]
      go_wp2
      go_ret
      exact ⟨rfl, b0.out⟩
  · have e1 : decide ((Q : Int) < (P : Int)) = false := decide_eq_false (by omega)
    have e3 : decide (Q < P) = false := decide_eq_false (by omega)
    have e2 : ((P : Int) == (Q : Int)) = false := by rw [beq_eq_false_iff_ne]; omega
    have hv : decide (Q < P ∨ (P = Q ∧ b < a)) = false := decide_eq_false (by omega)
    rw [hv]
    clear hv c0 d0
    go_enter Tryd.func54, Tryd.ntmps54
    go_upto_region 1 with (fail)
    rw [HS.out, HW.out]
    go_wp2
    go_ret
    exact ⟨rfl, b0.out⟩
set_option maxHeartbeats 4000000 in
theorem treapAbove_of (hN : NodeSays Nd) (w : World) (t u : Tr) (p q : Option Addr) (ht : TreeAt Nd w w.heap.size t p) (hu : TreeAt Nd w w.heap.size u q) :
    Calls Tryd.prog 20 #[.pointer p, .pointer q] w fun e w' => e = .returned (.bool (aboveT t u)) ∧ Below w.heap.size w w' := by
  cases t with
  | e =>
    obtain rfl : p = none := ht
    have pn := ptr_neq
    clear hu hN
    show Calls Tryd.prog 20 #[.pointer none, .pointer q] w fun e w' => e = .returned (.bool false) ∧ Below w.heap.size w w'
    go_enter Tryd.func20, Tryd.ntmps20
    go_wp2
    go_ret
    exact ⟨rfl, Below.refl _ _⟩
  | n tl tk tv tg tr =>
    cases u with
    | e =>
      obtain rfl : q = none := hu
      obtain ⟨a, pl, pr, rfl, -, -, -⟩ := ht
      have pn := ptr_neq
      clear hN
      show Calls Tryd.prog 20 #[.pointer (some a), .pointer none] w fun e w' => e = .returned (.bool false) ∧ Below w.heap.size w w'
      go_enter Tryd.func20, Tryd.ntmps20
      go_wp2
      go_ret
      exact ⟨rfl, Below.refl _ _⟩
    | n ul uk uv ug ur =>
      have c1 := Lib.hid (itemOf_any hN w tl tr tk tv tg p ht)
      have c2 : Hid (∀ W, Below w.heap.size w W → Calls Tryd.prog 35 #[.pointer q] W fun e w' => e = .returned (itV ⟨uk, uv, ug⟩) ∧ Below W.heap.size W w') := fun W h => itemOf_any hN W ul ur uk uv ug q (hu.after hN h)
      obtain ⟨a, pl, pr, rfl, -, -, -⟩ := ht
      obtain ⟨b, ql, qr, rfl, -, -, -⟩ := hu
      show Calls Tryd.prog 20 #[.pointer (some a), .pointer (some b)] w fun e w' => e = .returned (.bool (aboveI ⟨tk, tv, tg⟩ ⟨uk, uv, ug⟩)) ∧ Below w.heap.size w w'
      obtain ⟨x, hx⟩ : ∃ x : It, ⟨tk, tv, tg⟩ = x := ⟨_, rfl⟩
      obtain ⟨y, hy⟩ : ∃ y : It, ⟨uk, uv, ug⟩ = y := ⟨_, rfl⟩
      rw [hx] at c1 ⊢
      rw [hy] at c2 ⊢
      have c3 := Lib.hid (fun W => standing_any x W)
      obtain ⟨z, hz⟩ : ∃ z, aboveI x y = z := ⟨_, rfl⟩
      have c4 : Hid (∀ (g : Nat) (W : World), Has W g 38 #[K x.k, K x.v, G64 x.g] → Calls Tryd.prog 54 #[itV y, .pointer (some ⟨g, 0, none⟩)] W fun e w' => e = .returned (.bool z) ∧ Below W.heap.size W w') := fun g W h => hz ▸ standing1_any x y g W h
      rw [hz]
      clear hN hx hy hz
      go_enter Tryd.func20, Tryd.ntmps20
      go_wp2_with fail
      refine c1.out.mono ?_
      rintro e w1 ⟨rfl, hb⟩
      have b1 := Lib.hid hb
      clear hb c1
      go_wp2_with fail
      refine (c3.out w1).mono ?_
      rintro e w2 ⟨rfl, hw2⟩
      have b2 : Hid (Below w.heap.size w w2) := hw2 ▸ b1.out.alloc b1.out.size _
      have g2 : Hid (Has w2 w1.heap.size 38 #[K x.k, K x.v, G64 x.g]) := hw2 ▸ Has.new w1 _ _
      obtain ⟨gg, hgg⟩ : ∃ g, w1.heap.size = g := ⟨_, rfl⟩
      rw [hgg] at g2 ⊢
      clear hw2 hgg b1 c3
      go_wp2_with fail
      refine (c2.out w2 b2.out).mono ?_
      rintro e w3 ⟨rfl, hb⟩
      have b3 := Lib.hid (Below.after b2.out hb)
      have g3 := Lib.hid (g2.out.next hb)
      clear hb b2 g2 c2
      go_wp2_with (go_at_call 54; refine (c4.out gg w3 g3.out).mono ?_; rintro e w4 ⟨rfl, hb⟩; have b4 := Lib.hid (Below.after b3.out hb); clear hb)
      go_ret
      exact ⟨rfl, b4.out⟩
end Go.Proofs.YtcnkgddldhkddaaDoor
/- Package treap, as landed: a row of open items: which tree it closes to, what one more item makes of it; and such a row in memory. -/
namespace Go.Proofs.YtcnkgddldhkddaaDoor
open Go.RowKit Go.Shelf Go.Proofs.Treem
set_option maxRecDepth 100000
variable {Nd : NdP}

/-- an open item: what is left of it, as a tree, where that lies, and the item -/
structure Op20 where
  l : Tr
  p : Option Addr
  x : It
def itemsO : List Op20 → List It
  | [] => []
  | u :: us => u.l.items ++ u.x :: itemsO us
theorem itemsO_app : ∀ us vs : List Op20, itemsO (us ++ vs) = itemsO us ++ itemsO vs
  | [], vs => rfl
  | u :: us, vs => by rw [List.cons_append, itemsO, itemsO, itemsO_app us vs, List.append_assoc, List.cons_append]
theorem itemsO_len : ∀ us : List Op20, us.length ≤ (itemsO us).length
  | [] => Nat.le_refl _
  | u :: us => by
    have := itemsO_len us
    rw [itemsO, List.length_cons, List.length_append, List.length_cons]
    omega
/-- the tree to which a row closes -/
def closedT : List Op20 → Tr
  | [] => .e
  | u :: us => .n u.l u.x.k u.x.v u.x.g (closedT us)
theorem items_closed : ∀ us : List Op20, (closedT us).items = itemsO us
  | [] => rfl
  | u :: us => by rw [closedT, Tr.items, items_closed us]; rfl
/-- a row as Of keeps it -/
def GoodO : List Op20 → Prop
  | [] => True
  | u :: us => u.l = ofT u.l.items ∧ Top u.l.items u.x (itemsO us) ∧ GoodO us
theorem closed_of : ∀ us : List Op20, GoodO us → closedT us = ofT (itemsO us)
  | [], _ => ofT_nil.symm
  | u :: us, ⟨h1, h2, h3⟩ => by
    rw [closedT, closed_of us h3, itemsO, ofT_parts h2, ← h1]
theorem GoodO.drop : ∀ (a : List Op20) {b : List Op20}, GoodO (a ++ b) → GoodO b
  | [], _, h => h
  | _ :: a, _, h => GoodO.drop a h.2.2
/-- all of a row, below an item that stands above each of its own -/
theorem GoodO.under {b : List Op20} {x : It} (h : GoodO b) (hx : ∀ u ∈ b, u.x.rk < x.rk) : ∀ y ∈ itemsO b, y.rk < x.rk := by
  cases b with
  | nil => intro y hy; cases hy
  | cons u us =>
    intro y hy
    have hu := hx u (List.mem_cons_self ..)
    obtain ⟨-, h2, -⟩ := h
    rw [itemsO, List.mem_append, List.mem_cons] at hy
    rcases hy with hy | rfl | hy
    · have := h2.left y hy; omega
    · exact hu
    · have := h2.right y hy; omega
theorem mem_itemsO : ∀ {us : List Op20} {u : Op20}, u ∈ us → u.x ∈ itemsO us
  | v :: us, u, h => by
    rw [itemsO, List.mem_append, List.mem_cons]
    rcases List.mem_cons.1 h with rfl | h
    · exact .inr (.inl rfl)
    · exact .inr (.inr (mem_itemsO h))
/-- one more item: those that it stands above are closed, and stand on its left -/
theorem GoodO.more {b : List Op20} {x : It} {p : Option Addr} (hb : ∀ u ∈ b, u.x.rk < x.rk) : ∀ a : List Op20, GoodO (a ++ b) → (∀ u ∈ a, x.rk ≤ u.x.rk) → GoodO (a ++ [⟨closedT b, p, x⟩])
  | [], h, _ => by
    have hc := closed_of b h
    refine ⟨by show closedT b = _; rw [items_closed, ← hc], ⟨fun y hy => ?_, fun y hy => by cases hy⟩, trivial⟩
    rw [show (⟨closedT b, p, x⟩ : Op20).l = closedT b from rfl, items_closed] at hy
    exact h.under hb y hy
  | u :: a, ⟨h1, h2, h3⟩, ha => by
    refine ⟨h1, ⟨h2.left, fun y hy => ?_⟩, GoodO.more hb a h3 fun v hv => ha v (List.mem_cons_of_mem _ hv)⟩
    have hy : y ∈ itemsO (a ++ [⟨closedT b, p, x⟩]) := hy
    have h2 : Top u.l.items u.x (itemsO (a ++ b)) := h2
    rw [itemsO_app, List.mem_append] at hy
    rw [itemsO_app] at h2
    rcases hy with hy | hy
    · exact h2.right y (List.mem_append_left _ hy)
    · rw [itemsO, List.mem_append, List.mem_cons] at hy
      have hu := ha u (List.mem_cons_self ..)
      rcases hy with hy | rfl | hy
      · rw [show (⟨closedT b, p, x⟩ : Op20).l = closedT b from rfl, items_closed] at hy
        exact h2.right y (List.mem_append_right _ hy)
      · exact hu
      · cases hy
/-- down a row no item stands above the one ahead of it -/
theorem GoodO.first {b : List Op20} {z : Op20} : ∀ a : List Op20, GoodO (a ++ z :: b) → ∀ u ∈ a, z.x.rk ≤ u.x.rk
  | [], _, u, hu => by cases hu
  | v :: a, ⟨_, h2, h3⟩, u, hu => by
    rcases List.mem_cons.1 hu with rfl | hu
    · exact h2.right _ (mem_itemsO (List.mem_append_right _ (List.mem_cons_self ..)))
    · exact GoodO.first a h3 u hu
theorem itemsO_more (a b : List Op20) (x : It) (p : Option Addr) : itemsO (a ++ [⟨closedT b, p, x⟩]) = itemsO (a ++ b) ++ [x] := by
  rw [itemsO_app, itemsO_app, itemsO, itemsO, items_closed, List.append_assoc]
/-- how many of a row stay open where an item comes -/
def reachO (x : It) (us : List Op20) : Nat → Nat
  | 0 => 0
  | k + 1 => match us[k]? with
    | some u => if aboveI x u.x = true then reachO x us k else k + 1
    | none => 0
theorem reachO_le (x : It) (us : List Op20) : ∀ k, reachO x us k ≤ k
  | 0 => Nat.le_refl _
  | k + 1 => by
    rw [reachO]
    split
    · split
      · exact Nat.le_succ_of_le (reachO_le x us k)
      · exact Nat.le_refl _
    · exact Nat.zero_le _
theorem reachO_spec (x : It) (us : List Op20) : ∀ k, k ≤ us.length → (∀ i (h : i < us.length), reachO x us k ≤ i → i < k → (us[i]).x.rk < x.rk) ∧ (∀ i (h : i < us.length), i + 1 = reachO x us k → x.rk ≤ (us[i]).x.rk)
  | 0, _ => ⟨fun i _ _ h => absurd h (Nat.not_lt_zero _), fun i _ h => by cases h⟩
  | k + 1, hk => by
    obtain ⟨h1, h2⟩ := reachO_spec x us k (by omega)
    have hu : us[k]? = some us[k] := List.getElem?_eq_getElem (by omega)
    rw [reachO, hu]
    simp only
    by_cases ha : aboveI x (us[k]).x = true
    · rw [if_pos ha]
      refine ⟨fun i hi h3 h4 => ?_, h2⟩
      by_cases e : i = k
      · subst e; exact of_decide_eq_true ha
      · exact h1 i hi h3 (by omega)
    · rw [if_neg ha]
      refine ⟨fun i hi h3 h4 => by omega, fun i hi h3 => ?_⟩
      obtain rfl : i = k := by omega
      have := of_decide_eq_false ((Bool.not_eq_true _).mp ha)
      omega
/-- what one more item makes of a row -/
theorem GoodO.step {us : List Op20} (h : GoodO us) (x : It) (p : Option Addr) : GoodO (us.take (reachO x us us.length) ++ [⟨closedT (us.drop (reachO x us us.length)), p, x⟩]) ∧ itemsO (us.take (reachO x us us.length) ++ [⟨closedT (us.drop (reachO x us us.length)), p, x⟩]) = itemsO us ++ [x] := by
  obtain ⟨h1, h2⟩ := reachO_spec x us us.length (Nat.le_refl _)
  have hle := reachO_le x us us.length
  obtain ⟨f, hf⟩ : ∃ f, reachO x us us.length = f := ⟨_, rfl⟩
  rw [hf] at h1 h2 hle ⊢
  have hsplit : us.take f ++ us.drop f = us := List.take_append_drop _ _
  refine ⟨GoodO.more (fun u hu => ?_) _ (hsplit.symm ▸ h) (fun u hu => ?_), by rw [itemsO_more, hsplit]⟩
  · obtain ⟨j, hj, rfl⟩ := List.getElem_of_mem hu
    rw [List.length_drop] at hj
    rw [List.getElem_drop]
    exact h1 (f + j) (by omega) (by omega) (by omega)
  · cases f with
    | zero => rw [List.take_zero] at hu; cases hu
    | succ k =>
      have hk : k < us.length := by omega
      have hz := h2 k hk rfl
      rw [List.take_succ_eq_append_getElem hk, List.mem_append, List.mem_singleton] at hu
      rcases hu with hu | rfl
      · have h4 : GoodO (us.take k ++ us[k] :: us.drop (k + 1)) := by rw [← List.drop_eq_getElem_cons hk, List.take_append_drop]; exact h
        have := GoodO.first _ h4 u hu
        omega
      · exact hz

/-- an open item, as cells -/
abbrev opC (u : Op20) : List Value := [.pointer u.p, K u.x.k, K u.x.v, G64 u.x.g]
def flat4 (l : List Op20) : List Value := l.flatMap opC
theorem flat4_cons (b : Op20) (l : List Op20) : flat4 (b :: l) = opC b ++ flat4 l := rfl
theorem flat4_append (a b : List Op20) : flat4 (a ++ b) = flat4 a ++ flat4 b := by simp [flat4]
theorem flat4_length : ∀ l : List Op20, (flat4 l).length = l.length * 4
  | [] => rfl
  | b :: l => by rw [flat4_cons, List.length_append, flat4_length l, List.length_cons]; simp only [List.length_cons, List.length_nil]; omega
theorem flat4_take : ∀ (l : List Op20) (k : Nat), flat4 (l.take k) = (flat4 l).take (k * 4)
  | [], k => by simp [flat4]
  | b :: l, 0 => by simp [flat4]
  | b :: l, k + 1 => by
    rw [List.take_succ_cons, flat4_cons, flat4_cons, flat4_take l k, show (k + 1) * 4 = (opC b).length + k * 4 by simp only [List.length_cons, List.length_nil]; omega, List.take_length_add_append]
theorem flat4_drop : ∀ (l : List Op20) (k : Nat), flat4 (l.drop k) = (flat4 l).drop (k * 4)
  | [], k => by simp [flat4]
  | b :: l, 0 => by simp
  | b :: l, k + 1 => by
    rw [List.drop_succ_cons, flat4_cons, flat4_drop l k, show (k + 1) * 4 = (opC b).length + k * 4 by simp only [List.length_cons, List.length_nil]; omega, List.drop_length_add_append]
theorem flat4_one (l : List Op20) : ∀ u ∈ flat4 l, u.oneCell' = true := fun u hu => by
  simp only [flat4, List.mem_flatMap, List.mem_cons, List.not_mem_nil, or_false] at hu
  obtain ⟨p, _, rfl | rfl | rfl | rfl⟩ := hu <;> rfl
theorem flat4_at : ∀ (l : List Op20) (k j : Nat) (h : k < l.length), j < 4 → (flat4 l)[k * 4 + j]? = (opC l[k])[j]?
  | [], k, j, h, _ => by simp at h
  | b :: l, 0, j, _, hj => by rw [flat4_cons, Nat.zero_mul, Nat.zero_add, List.getElem?_append_left (by simpa using hj)]; rfl
  | b :: l, k + 1, j, h, hj => by
    rw [flat4_cons, show (k + 1) * 4 + j = (k * 4 + j) + (opC b).length by simp only [List.length_cons, List.length_nil]; omega, List.getElem?_append_right (by omega), Nat.add_sub_cancel, flat4_at l k j (by simpa using h) hj]; rfl
/-- a slice of open items that lies there, with their trees -/
structure LieO (Nd : NdP) (W : World) (A : Option Addr) (n c : Nat) (l : List Op20) : Prop where
  len : l.length = n
  few : n ≤ 1000
  cap : n ≤ c
  max : c ≤ maxLen
  row : Row W W.heap.size A (flat4 l)
  trees : ∀ u ∈ l, TreeAt Nd W W.heap.size u.l u.p
theorem LieO.after (hN : NodeSays Nd) {W W' : World} {A : Option Addr} {n c : Nat} {l : List Op20} (h : LieO Nd W A n c l) (hb : Below W.heap.size W W') : LieO Nd W' A n c l :=
  ⟨h.len, h.few, h.cap, h.max, h.row.next hb, fun u hu => (h.trees u hu).after hN hb⟩
/-- what the walk reads of open item number k -/
theorem open_at {W : World} {A : Option Addr} {n c : Nat} {l : List Op20} (h : LieO Nd W A n c l) (k : Nat) (hk : k < l.length) :
    ∃ ad, A = some ad ∧ W.cell? (ad.add (k * 4)) = some (.pointer l[k].p) ∧ W.cell? ⟨(ad.add (k * 4)).block, (ad.add (k * 4)).off + 1, none⟩ = some (K l[k].x.k) ∧ W.cell? ⟨(ad.add (k * 4)).block, (ad.add (k * 4)).off + 2, none⟩ = some (K l[k].x.v) ∧ W.cell? ⟨(ad.add (k * 4)).block, (ad.add (k * 4)).off + 3, none⟩ = some (G64 l[k].x.g) := by
  have hc : ∀ j, j < 4 → ∀ u, (opC l[k])[j]? = some u → ∃ ad, A = some ad ∧ W.cell? (ad.add (k * 4 + j)) = some u := fun j hj u hu => by
    obtain ⟨ad, h1, _, h2⟩ := h.row _ _ ((flat4_at l k j hk hj).trans hu)
    exact ⟨ad, h1, h2⟩
  obtain ⟨ad, rfl, h0⟩ := hc 0 (by omega) _ rfl
  refine ⟨ad, rfl, h0, ?_, ?_, ?_⟩
  all_goals
    rw [← add_is, add_add]
  · obtain ⟨a, e, h1⟩ := hc 1 (by omega) _ rfl; cases e; exact h1
  · obtain ⟨a, e, h1⟩ := hc 2 (by omega) _ rfl; cases e; exact h1
  · obtain ⟨a, e, h1⟩ := hc 3 (by omega) _ rfl; cases e; exact h1
theorem info_open : (Tryd.prog.info? 75).map (fun i => (i.zero, i.size, i.bytes)) = some (some (.agg #[.pointer none, .int .i64 0, .int .i64 0, .int .u64 0]), 4, 32) := by kernel_rfl
theorem open_parts : ∃ i, Tryd.prog.info? 75 = some i ∧ i.zero = some (.agg #[.pointer none, .int .i64 0, .int .i64 0, .int .u64 0]) ∧ i.size = 4 ∧ i.bytes = 32 := by
  have hi0 := info_open
  cases hh : Tryd.prog.info? 75 with
  | none => rw [hh] at hi0; cases hi0
  | some i0 =>
    rw [hh] at hi0
    have e0 := Option.some.inj hi0
    exact ⟨i0, rfl, congrArg Prod.fst e0, congrArg (fun q => q.2.1) e0, congrArg (fun q => q.2.2) e0⟩
theorem size_open (W : World) : (sizeOf 75).run Tryd.prog W = .ok 4 W := by kernel_rfl
end Go.Proofs.YtcnkgddldhkddaaDoor
/- Package treap, as landed: closed and reach. -/
namespace Go.Proofs.YtcnkgddldhkddaaDoor
open Go.RowKit Go.Shelf Go.Proofs.Treem
set_option maxRecDepth 100000
variable {Nd : NdP}

set_option maxHeartbeats 8000000 in
/-- the tree of a row's items -/
theorem closed_any (hN : NodeSays Nd) (w : World) (A : Option Addr) (n c : Nat) (us : List Op20) (h : LieO Nd w A n c us) :
    Calls Tryd.prog 43 #[.slice A n c] w fun e w' => ∃ p, e = .returned (.pointer p) ∧ TreeAt Nd w' w'.heap.size (closedT us) p ∧ Below w.heap.size w w' := by
  have h' := Lib.hid h
  have hl := Lib.hid h.len
  have hf := Lib.hid h.few
  have hN' := Lib.hid hN
  clear h hN
  go_enter Tryd.func43, Tryd.ntmps43
  go_wp2
  go_loopw [3, 8] (fun x i wr => ∃ (j : Nat) (q : Option Addr), j ≤ n ∧ x = .pointer q ∧ i = nI j ∧ TreeAt Nd wr wr.heap.size (closedT (us.drop (n - j))) q ∧ Below w.heap.size w wr) (fun _ i _ => n - (intOf i).toNat)
  case atStart => exact ⟨0, none, Nat.zero_le _, rfl, rfl, by rw [Nat.sub_zero, List.drop_eq_nil_of_le (Nat.le_of_eq hl.out)]; rfl, Below.refl _ _⟩
  case round =>
    obtain ⟨j, q, hj, rfl, rfl, hT, hb⟩ := hrel
    have BW := Lib.hid hb
    have HT := Lib.hid hT
    by_cases hlt : j < n
    · obtain ⟨n1, hn1⟩ : ∃ n1, n1 + 1 = n := ⟨n - 1, by omega⟩
      obtain ⟨k, hk⟩ : ∃ k, n1 - j = k := ⟨_, rfl⟩
      have hkl : k < us.length := by rw [hl.out]; omega
      have hlie := h'.out.after hN'.out hb
      obtain ⟨ad, rfl, g0, g1, g2, g3⟩ := open_at hlie k hkl
      have htu := hlie.trees _ (List.getElem_mem hkl)
      have hdr : us.drop (n - (j + 1)) = us[k] :: us.drop (n - j) := by rw [show n - (j + 1) = k by omega, show n - j = k + 1 by omega]; exact List.drop_eq_getElem_cons hkl
      obtain ⟨u, hu⟩ : ∃ u, us[k] = u := ⟨_, rfl⟩
      rw [hu] at g0 g1 g2 g3 htu hdr
      have HD : Hid (closedT (us.drop (n - (j + 1))) = .n u.l u.x.k u.x.v u.x.g (closedT (us.drop (n - j)))) := (show closedT (us.drop (n - (j + 1))) = _ by rw [hdr, closedT])
      have hf' := hf.out
      have e1 : wrap64 ((n : Int) - 1) = (n1 : Int) := by unfold wrap64; omega
      have e2 : wrap64 ((n1 : Int) - (j : Int)) = (k : Int) := by unfold wrap64; omega
      have hkn : k < n := by omega
      obtain ⟨T, hTT⟩ : ∃ T, closedT (us.drop (n - j)) = T := ⟨_, rfl⟩
      rw [hTT] at hT HD
      have cN : Hid (∀ W, Below wr.heap.size wr W → Calls Tryd.prog 19 #[.pointer u.p, .int .i64 u.x.k.toInt, .int .i64 u.x.v.toInt, .int .u64 (u.x.g.toNat : Int), .pointer q] W (Stood Nd W u.p q u.l T u.x.k u.x.v u.x.g)) := fun W hW => new9 hN'.out W u.p q u.l T u.x.k u.x.v u.x.g (htu.after hN'.out hW) (hT.after hN'.out hW)
      have bA : Hid (Below wr.heap.size wr (wr.alloc (.cells #[.pointer u.p, .int .i64 u.x.k.toInt, .int .i64 u.x.v.toInt, .int .u64 (u.x.g.toNat : Int)] 75))) := (Below.refl _ wr).alloc (Nat.le_refl _) _
      have HJ : Hid (j + 1 ≤ n) := hlt
      have e3 : Hid (wrap64 ((j : Int) + 1) = (j : Int) + 1) := by
        have : wrap64 ((j : Int) + 1) = (j : Int) + 1 := by unfold wrap64; omega
        exact this
      clear hT hb hlie htu hdr hu hk hn1 hf' hkl hj hTT HT
      go_wp2_with fail
      refine (cN.out _ bA.out).mono ?_
      rintro e w5 ⟨a, rfl, -, -, ht5, hb5⟩
      have T5 := Lib.hid ht5
      have B5 := Lib.hid (Below.after BW.out (Below.after bA.out hb5))
      clear ht5 hb5 cN bA g0 g1 g2 g3
      go_wp2_with fail
      go_roundw
      case rel => exact ⟨j + 1, some a, HJ.out, rfl, by rw [e3.out]; rfl, by rw [HD.out]; exact T5.out, B5.out⟩
      case measure =>
        rw [e3.out]
        show n - (j + 1) < n - j
        omega
    · obtain rfl : j = n := by omega
      rw [Nat.sub_self, List.drop_zero] at HT
      clear hT hb hj
      go_wp2_with fail
      go_ret
      exact ⟨q, rfl, HT.out, BW.out⟩
set_option maxHeartbeats 8000000 in
/-- how many stay open -/
theorem reach_any (hN : NodeSays Nd) (w : World) (A : Option Addr) (n c : Nat) (us : List Op20) (h : LieO Nd w A n c us) (x : It) (g : Nat) (hx : Has w g 38 #[K x.k, K x.v, G64 x.g]) :
    Calls Tryd.prog 42 #[.slice A n c, stV g] w fun e w' => e = .returned (nI (reachO x us n)) ∧ Below w.heap.size w w' := by
  have h' := Lib.hid h
  have hl := Lib.hid h.len
  have hf := Lib.hid h.few
  have hN' := Lib.hid hN
  have hx' := Lib.hid hx
  clear h hN hx
  go_enter Tryd.func42, Tryd.ntmps42
  go_wp2
  go_step3
  go_wp2
  go_step3
  go_wp2
  go_loopw [5, 10] (fun f i wr => ∃ j : Nat, j ≤ n ∧ f = nI 0 ∧ i = nI j ∧ reachO x us n = reachO x us (n - j) ∧ Below w.heap.size w wr) (fun _ i _ => n - (intOf i).toNat)
  case atStart => exact ⟨0, Nat.zero_le _, rfl, rfl, rfl, Below.refl _ _⟩
  case round =>
    obtain ⟨j, hj, rfl, rfl, hr, hb⟩ := hrel
    have BW := Lib.hid hb
    have HR := Lib.hid hr
    by_cases hlt : j < n
    · obtain ⟨k1, hk1⟩ : ∃ k, n - j = k := ⟨_, rfl⟩
      obtain ⟨k, hk⟩ : ∃ k, k1 - 1 = k := ⟨_, rfl⟩
      have hkl : k < us.length := by rw [hl.out]; omega
      have hlie := h'.out.after hN'.out hb
      obtain ⟨ad, rfl, g0, g1, g2, g3⟩ := open_at hlie k hkl
      have hst : reachO x us n = if aboveI x (us[k]).x = true then reachO x us (n - (j + 1)) else k1 := by
        rw [hr, hk1, show k1 = k + 1 by omega, reachO, List.getElem?_eq_getElem hkl, show n - (j + 1) = k by omega]
      obtain ⟨y, hy⟩ : ∃ y, (us[k]).x = y := ⟨_, rfl⟩
      rw [hy] at g1 g2 g3 hst
      have hf' := hf.out
      have e1 : wrap64 ((n : Int) - (j : Int)) = (k1 : Int) := by unfold wrap64; omega
      have e2 : wrap64 ((k1 : Int) - 1) = (k : Int) := by unfold wrap64; omega
      have hkn : k < n := by omega
      have HJ : Hid (j + 1 ≤ n) := hlt
      have e3 : Hid (wrap64 ((j : Int) + 1) = (j : Int) + 1) := by
        have : wrap64 ((j : Int) + 1) = (j : Int) + 1 := by unfold wrap64; omega
        exact this
      have cS := Lib.hid (standing1_any x y g wr (hx'.out.next hb))
      obtain ⟨b, hab⟩ : ∃ b, aboveI x y = b := ⟨_, rfl⟩
      rw [hab] at cS hst
      have HST := Lib.hid hst
      have g1 : wr.cell? ⟨(ad.add (k * 4)).block, (ad.add (k * 4)).off + 1, none⟩ = some (K y.k) := g1
      clear hst hb hlie hy hk hk1 hf' hkl hj hab hr HR g0
      cases b with
      | true =>
        go_wp2_with (go_at_call 54; refine cS.out.mono ?_; rintro e w5 ⟨rfl, hb5⟩; have B5 := Lib.hid (Below.after BW.out hb5); clear hb5)
        go_roundw
        case rel => exact ⟨j + 1, HJ.out, rfl, by rw [e3.out]; rfl, by rw [HST.out]; rfl, B5.out⟩
        case measure =>
          rw [e3.out]
          show n - (j + 1) < n - j
          omega
      | false =>
        go_wp2_with (go_at_call 54; refine cS.out.mono ?_; rintro e w5 ⟨rfl, hb5⟩; have B5 := Lib.hid (Below.after BW.out hb5); clear hb5)
        rw [Exit.noGoto_ret]; go_ret
        exact ⟨by rw [HST.out]; rfl, B5.out⟩
    · obtain rfl : j = n := by omega
      rw [Nat.sub_self] at HR
      clear hr hb hj
      go_wp2_with fail
      rw [Exit.noGoto_ret]; go_ret
      exact ⟨by rw [HR.out]; rfl, BW.out⟩
end Go.Proofs.YtcnkgddldhkddaaDoor
/- Layer 14, as landed: what goes over a tree's nodes in the order of its beads, each at its first place, with a set of those that it has been at. -/
namespace Go.Proofs.YtcnkgddldhkddaaDoor
open Go.RowKit Go.Shelf Go.Proofs.Treem
attribute [local go_sem] Oper.semAt_some
set_option maxRecDepth 100000
variable {Nd : NdP}

/-- what is handed over: a place, a tree, and where its root lies -/
abbrev It14 := Nat × Tr × Addr
def enc14 (x : It14) : Array Value := #[nI x.1, .pointer (some x.2.2)]
def mine14 (t : TypeId) : Bool := t == 25
abbrev none14 (_ : TypeId) : Bool := false
def load14 (us : List (Tr × Option Addr)) : Nat := (us.map fun u => 2 * u.1.size + 1).sum
def ptrs14 (us : List (Tr × Option Addr)) : List Value := us.map fun u => .pointer u.2
def trees14 (us : List (Tr × Option Addr)) : List Tr := us.map fun u => u.1
def size14 (us : List (Tr × Option Addr)) : Nat := (us.map fun u => u.1.size).sum
theorem load14_len : ∀ us : List (Tr × Option Addr), us.length ≤ load14 us
  | [] => Nat.le_refl _
  | u :: us => by have := load14_len us; simp only [load14, List.map_cons, List.sum_cons, List.length_cons] at this ⊢; omega
theorem load14_cons (u : Tr × Option Addr) (us : List (Tr × Option Addr)) : load14 (u :: us) = 2 * u.1.size + 1 + load14 us := rfl
theorem size14_cons (t : Tr) (q : Option Addr) (us : List (Tr × Option Addr)) : size14 ((t, q) :: us) = t.size + size14 us := rfl
theorem trees14_cons (t : Tr) (q : Option Addr) (us : List (Tr × Option Addr)) : trees14 ((t, q) :: us) = t :: trees14 us := rfl
/-- a pointer leads to one tree -/
theorem TreeAt.uniq (hN : NodeSays Nd) {W : World} {B B' : Nat} : ∀ {t u : Tr} {p : Option Addr}, TreeAt Nd W B t p → TreeAt Nd W B' u p → t = u
  | .e, .e, _, _, _ => rfl
  | .e, .n .., _, h, ⟨_, _, _, e, _⟩ => by rw [show _ = none from h] at e; cases e
  | .n .., .e, _, ⟨_, _, _, e, _⟩, h => by rw [show _ = none from h] at e; cases e
  | .n l k v g r, .n l' k' v' g' r', p, ⟨a, pl, pr, e, h2, h3, h4⟩, ⟨a', pl', pr', e', h2', h3', h4'⟩ => by
    subst e
    cases e'
    have := hN.uniq h2 h2'
    injection this with e1 e2 e3 e4 e5 e6 e7
    subst e1 e2 e3 e4 e5
    rw [h3.uniq hN h3', h4.uniq hN h4']
/-- where the closure stands, as it lies: those at us are still to be gone by, the last one first -/
structure At14 (Nd : NdP) (w0 : World) (r B' : Nat) (J : List It14 → World → Prop) (S : List (Option Addr)) (us : List (Tr × Option Addr)) (pre : List It14) (v : Value) (w : World) : Prop where
  base : Below w0.heap.size w0 w
  been : w.heap[r]? = some (setO S)
  none : Option.none ∈ S
  good : ∀ q ∈ S, GoodP w0 q
  ow : w.ownsRow B' 25 1 v us.length (ptrs14 us.reverse)
  ls : ∀ u ∈ us, TreeAt Nd w0 w0.heap.size u.1 u.2
  j : J pre w
  ld : load14 us ≤ 10001
  sz : B' ≤ w.heap.size
  low : w0.heap.size ≤ B'
  rb : B' ≤ r
/-- .. and what it knows: as far as all that it handed over is right -/
structure Go14 (Nd : NdP) (f : Tr → Nat) (t0 : Tr) (w0 : World) (S : List (Option Addr)) (us : List (Tr × Option Addr)) (pre : List It14) (pl : Nat) : Prop where
  size : pl + size14 us = t0.size
  go : (∀ y ∈ pre, f y.2.1 = 0) → errF f t0 = errL f (trees14 us) ∧ placeF f t0 = pl + placeL f (trees14 us) ∧ ∀ q ∈ S, ∀ t, TreeAt Nd w0 w0.heap.size t q → Past f (trees14 us) t
/-- what is told of a node that is handed over -/
def Told14 (Nd : NdP) (f : Tr → Nat) (t0 : Tr) (w0 : World) (pre : List It14) (x : It14) (W : World) : Prop :=
  TreeAt Nd w0 w0.heap.size x.2.1 (some x.2.2) ∧ Below w0.heap.size w0 W ∧ x.1 + x.2.1.size ≤ 5000 ∧ ((∀ y ∈ pre, f y.2.1 = 0) → f x.2.1 ≠ 0 → errF f t0 = f x.2.1 ∧ placeF f t0 = x.1)
section
variable {f : Tr → Nat} {t0 : Tr} {w0 : World} {r B' pl : Nat} {J : List It14 → World → Prop} {S : List (Option Addr)} {us : List (Tr × Option Addr)} {pre : List It14} {v : Value} {w w' : World}
theorem At14.below (h : At14 Nd w0 r B' J S us pre v w) (hJ : Abide mine14 B' J) (hb : Below w.heap.size w w') : At14 Nd w0 r B' J S us pre v w' :=
  ⟨h.base.trans (hb.mono h.base.size), (hb.block r (Array.getElem?_eq_some_iff.1 h.been).1).trans h.been, h.none, h.good, owned_next h.ow hb, h.ls, hJ _ _ _ h.j (.of_below hb), h.ld, Nat.le_trans h.sz hb.size, h.low, h.rb⟩
theorem At14.goods (h : At14 Nd w0 r B' J S us pre v w) : ∀ q ∈ S, GoodP w q := fun q hq => (h.good q hq).below h.base
/-- the last one is taken off -/
theorem At14.pop {u : Tr × Option Addr} {A : Option Addr} {m n c : Nat} (h : At14 Nd w0 r B' J S (u :: us) pre (.slice A n c) w) (hm : us.length = m) (hn : m + 1 = n) : At14 Nd w0 r B' J S us pre (.slice A m c) w := by
  subst hm hn
  have ho := h.ow
  rw [List.reverse_cons, ptrs14, List.map_append] at ho
  have ht := owned_take ho us.length (by simp)
  rw [show us.length * 1 = (us.reverse.map fun u => Value.pointer u.2).length by simp, List.take_left] at ht
  exact ⟨h.base, h.been, h.none, h.good, ht, fun x hx => h.ls x (List.mem_cons_of_mem _ hx), h.j, by have := h.ld; rw [load14_cons] at this; omega, h.sz, h.low, h.rb⟩
/-- the last one, as it lies -/
theorem At14.top {u : Tr × Option Addr} {A : Option Addr} {n m c : Nat} (h : At14 Nd w0 r B' J S (u :: us) pre (.slice A n c) w) (hm : us.length = m) : ∃ ad, A = some ad ∧ w.cell? (ad.add m) = some (.pointer u.2) := by
  obtain ⟨A', c', e1, -, -, -⟩ := own_slice h.ow
  cases e1
  have ho := h.ow
  rw [List.reverse_cons, ptrs14, List.map_append] at ho
  obtain ⟨ad, e, _, hc⟩ := (Row.of_own ho) m (.pointer u.2) (by rw [List.getElem?_append_right (by simp [hm])]; simp [hm])
  exact ⟨ad, e, hc⟩
/-- a node is put into the set -/
theorem At14.put {p : Option Addr} (h : At14 Nd w0 r B' J S us pre v w) (hJ : Abide mine14 B' J) (hp : GoodP w0 p) : At14 Nd w0 r B' J (S ++ [p]) us pre v (w.putObj r (setO (S ++ [p]))) := by
  have hk : Kf mine14 B' w (w.putObj r (setO (S ++ [p]))) := Kf.putObj w r _ _ h.rb h.been rfl
  refine ⟨h.base.trans (hk.below.mono h.low), World.putObj_heap_same (Array.getElem?_eq_some_iff.1 h.been).1, List.mem_append_left _ h.none, fun q hq => ?_, h.ow.kept (grownBy_putObj' w r _) ?_, h.ls, hJ _ _ _ h.j (.of_kf hk), h.ld, Nat.le_trans h.sz hk.size, h.low, h.rb⟩
  · rcases List.mem_append.1 hq with hq | hq
    · exact h.good q hq
    · rw [List.mem_singleton.1 hq]; exact hp
  · by_cases hv : v.ownBlock = some r
    · exfalso
      rcases h.ow.2 with ⟨rfl, _⟩ | ⟨g, cap, cur, rfl, _, hg, _⟩
      · simp [Value.ownBlock] at hv
      · obtain rfl : g = r := by simpa [Value.ownBlock] using hv
        rw [h.been] at hg
        cases hg
    · exact .inr hv
/-- a node has been told -/
theorem At14.yielded {y : It14} (h : At14 Nd w0 r B' J S us pre v w) (hj : J (pre ++ [y]) w') (hk : Kf none14 w0.heap.size w w') (hf : KeepsFrom B' w w') : At14 Nd w0 r B' J S us (pre ++ [y]) v w' :=
  ⟨h.base.trans hk.below, hf.same r _ h.rb h.been rfl, h.none, h.good, hk.owned h.ow rfl, h.ls, hj, h.ld, Nat.le_trans h.sz hk.size, h.low, h.rb⟩
/-- both sides of a node are put on the row -/
theorem At14.push {tl tr : Tr} {pl pr : Option Addr} {tmp : Obj} {v1 : Value} {w1 : World} (h : At14 Nd w0 r B' J S us pre v w) (hJ : Abide mine14 B' J) (hl : TreeAt Nd w0 w0.heap.size tl pl) (hr : TreeAt Nd w0 w0.heap.size tr pr) (hd : load14 us + (2 * tl.size + 1) + (2 * tr.size + 1) ≤ 10001)
    (ho : w1.ownsRow B' 25 1 v1 (us.length + 2) (ptrs14 us.reverse ++ [.pointer pr, .pointer pl])) (hg : (w.alloc tmp).grownBy w1 v.ownBlock) : At14 Nd w0 r B' J S ((tl, pl) :: (tr, pr) :: us) pre v1 w1 := by
  have h1 := h.below hJ ((Below.refl w.heap.size w).alloc (Nat.le_refl _) tmp)
  have hk : Kf mine14 B' (w.alloc tmp) w1 := Kf.grown hg h1.ow rfl (Nat.le_refl _) h1.sz
  refine ⟨h1.base.trans (hk.below.mono h.low), ?_, h.none, h.good, ?_, ?_, hJ _ _ _ h1.j (.of_kf hk), by rw [load14_cons, load14_cons]; show 2 * tl.size + 1 + (2 * tr.size + 1 + load14 us) ≤ _; omega, Nat.le_trans h1.sz hk.size, h.low, h.rb⟩
  · refine (hg.block r (Array.getElem?_eq_some_iff.1 h1.been).1 (fun e => ?_)).trans h1.been
    rcases h.ow.2 with ⟨rfl, _⟩ | ⟨g, cap, cur, rfl, _, hg', _⟩
    · simp [Value.ownBlock] at e
    · obtain rfl : r = g := by simpa [Value.ownBlock] using e
      rw [h.been] at hg'
      cases hg'
  · simp only [List.reverse_cons, ptrs14, List.map_append, List.length_cons, List.append_assoc, List.map_cons, List.map_nil] at ho ⊢
    exact ho
  · intro u hu
    rcases List.mem_cons.1 hu with rfl | hu
    · exact hl
    · rcases List.mem_cons.1 hu with rfl | hu
      · exact hr
      · exact h.ls u hu
/-- the start -/
theorem Go14.start (f : Tr → Nat) (t0 : Tr) (w0 : World) (p : Option Addr) : Go14 Nd f t0 w0 [none] [(t0, p)] [] 0 := by
  refine ⟨by simp [size14], fun _ => ⟨(errL_one t0).symm, by rw [show trees14 [(t0, p)] = [t0] from rfl, placeL_one, Nat.zero_add], fun q hq t ht => ?_⟩⟩
  rw [List.mem_singleton.1 hq] at ht
  cases t with
  | e => exact ⟨[], [t0], rfl, fun _ => rfl, fun u hu => by cases hu⟩
  | n l k v g r => obtain ⟨_, _, _, e, _⟩ := ht; cases e
/-- a node where one has been -/
theorem Go14.again {t : Tr} {q : Option Addr} (h : Go14 Nd f t0 w0 S ((t, q) :: us) pre pl) (ht : TreeAt Nd w0 w0.heap.size t q) (hq : q ∈ S) : Go14 Nd f t0 w0 S us pre (pl + t.size) := by
  have hs := h.size
  rw [size14_cons] at hs
  refine ⟨by omega, fun hp => ?_⟩
  obtain ⟨h1, h2, h3⟩ := h.go hp
  rw [trees14_cons] at h1 h2 h3
  have hok := (h3 q hq t ht).again
  exact ⟨by rw [h1, errL_ok _ hok], by rw [h2, placeL_ok _ hok]; omega, fun q' hq' t' ht' => (h3 q' hq' t' ht').ok hok⟩
/-- a node that is right -/
theorem Go14.step (hN : NodeSays Nd) {l r : Tr} {k x g : BitVec 64} {a : Addr} {p1 p2 : Option Addr} (h : Go14 Nd f t0 w0 S ((.n l k x g r, some a) :: us) pre pl) (ht : TreeAt Nd w0 w0.heap.size (.n l k x g r) (some a)) :
    Go14 Nd f t0 w0 (S ++ [some a]) ((l, p1) :: (r, p2) :: us) (pre ++ [(pl, .n l k x g r, a)]) (pl + 1) := by
  have hs := h.size
  rw [size14_cons, Tr.size] at hs
  refine ⟨by rw [size14_cons, size14_cons]; omega, fun hp => ?_⟩
  have hf : f (.n l k x g r) = 0 := hp (pl, .n l k x g r, a) (List.mem_append_right _ (List.mem_singleton.2 rfl))
  obtain ⟨h1, h2, h3⟩ := h.go fun y hy => hp y (List.mem_append_left _ hy)
  rw [trees14_cons] at h1 h2 h3
  rw [trees14_cons, trees14_cons]
  refine ⟨by rw [h1, errL_yes _ hf], by rw [h2, placeL_yes _ hf]; omega, fun q' hq' t' ht' => ?_⟩
  rcases List.mem_append.1 hq' with hq' | hq'
  · exact (h3 q' hq' t' ht').down hf
  · rw [List.mem_singleton.1 hq'] at ht'
    rw [ht'.uniq hN ht]
    exact Past.first hf
theorem Go14.told {l r : Tr} {k x g : BitVec 64} {q : Option Addr} (h : Go14 Nd f t0 w0 S ((.n l k x g r, q) :: us) pre pl) (hp : ∀ y ∈ pre, f y.2.1 = 0) (hf : f (.n l k x g r) ≠ 0) : errF f t0 = f (.n l k x g r) ∧ placeF f t0 = pl := by
  obtain ⟨h1, h2, -⟩ := h.go hp
  rw [trees14_cons] at h1 h2
  exact ⟨by rw [h1, errL_no _ hf], by rw [h2, placeL_no _ hf]; rfl⟩
theorem Go14.done (h : Go14 Nd f t0 w0 S [] pre pl) (hp : ∀ y ∈ pre, f y.2.1 = 0) : errF f t0 = 0 := (h.go hp).1
end
theorem good_tree14 (hN : NodeSays Nd) {w : World} {t : Tr} {p : Option Addr} (h : TreeAt Nd w w.heap.size t p) : GoodP w p := fun a e => by
  subst e
  cases t with
  | e => cases h
  | n l k v g r =>
    obtain ⟨a', pl, pr, ha, hnd, -, -⟩ := h
    cases ha
    exact hN.lies hnd
theorem info_ptr14 : (Tryd.prog.info? 25).map (fun i => (i.zero, i.size, i.bytes)) = some (some (.pointer none), 1, 8) := by kernel_rfl
theorem size_ptr14 (W : World) : (sizeOf 25).run Tryd.prog W = .ok 1 W := by kernel_rfl
theorem zero_bool14 (W : World) : (zeroValue 4).run Tryd.prog W = .ok (.bool false) W := by kernel_rfl
theorem look14 (W : World) (r : Nat) (S : List (Option Addr)) (hr : W.heap[r]? = some (setO S)) (hg : ∀ q ∈ S, GoodP W q) (p : Option Addr) (h : GoodP W p) (B : Bool) (hB : decide (p ∈ S) = B) :
    (Instr.lookup 82 (.map (some r)) (.pointer p) false).run Tryd.prog W = .ok (.bool B) W := by
  obtain ⟨j, hj, hs⟩ := node_info
  exact look_ptr W Tryd.underlying82 Tryd.underlying25 hj hs (zero_bool14 W) r S hr hg p h B hB
theorem put14 (W : World) (r : Nat) (S : List (Option Addr)) (hr : W.heap[r]? = some (setO S)) (hg : ∀ q ∈ S, GoodP W q) (p : Option Addr) (h : GoodP W p) (hx : p ∉ S) :
    (Instr.mapUpdate 82 (.map (some r)) (.pointer p) (.bool true)).run Tryd.prog W = .ok () (W.putObj r (setO (S ++ [p]))) := by
  obtain ⟨j, hj, hs⟩ := node_info
  exact put_ptr W Tryd.underlying82 Tryd.underlying25 hj hs r S hr hg p h hx
/-- how big a tree is, by Size -/
theorem size_any14 (hN : NodeSays Nd) {W : World} {B : Nat} {t : Tr} {p : Option Addr} (h : TreeAt Nd W B t p) (h5 : t.size ≤ 5000) : Calls Tryd.prog 33 #[.pointer p] W fun e w' => e = .returned (nI t.size) ∧ Below W.heap.size W w' := by
  have := h.look.size hN
  rw [show K (BitVec.ofNat 64 t.size) = nI t.size from by show Value.int .i64 _ = _; rw [size_bits (Nat.le_trans h5 (by decide))]] at this
  exact this
end Go.Proofs.YtcnkgddldhkddaaDoor
namespace Go.Proofs.YtcnkgddldhkddaaDoor
open Go.RowKit Go.Shelf Go.Proofs.Treem
set_option maxRecDepth 100000
variable {Nd : NdP}

/-- what is left to be told: those that wait, the last one first, each with what is right of it -/
def restI : List (Tr × Option Addr) → List It
  | [] => []
  | (.e, _) :: us => restI us
  | (.n _ k v g r, _) :: us => ⟨k, v, g⟩ :: (r.items ++ restI us)
theorem restI_len : ∀ us : List (Tr × Option Addr), (∀ u ∈ us, u.1 ≠ .e) → us.length ≤ (restI us).length
  | [], _ => Nat.le_refl _
  | (.e, q) :: us, h => absurd rfl (h (.e, q) (List.mem_cons_self ..))
  | (.n l k v g r, q) :: us, h => by
    have := restI_len us fun u hu => h u (List.mem_cons_of_mem _ hu)
    rw [restI, List.length_cons, List.length_cons, List.length_append]
    omega
/-- how many there are in a slice -/
def lenV : Value → Nat
  | .slice _ n _ => n
  | _ => 0
/-- where Items stands, as it lies: those at us wait, done is told -/
structure AtI (Nd : NdP) (w0 : World) (us : List (Tr × Option Addr)) (done : List It) (vw vl : Value) (w : World) : Prop where
  base : Below w0.heap.size w0 w
  ow : w.ownsRow w0.heap.size 25 1 vw us.length (ptrs14 us.reverse)
  ol : w.ownsRow w0.heap.size 38 3 vl done.length (flat3 done)
  ls : ∀ u ∈ us, TreeAt Nd w0 w0.heap.size u.1 u.2 ∧ u.1 ≠ .e
section
variable {w0 w w1 : World} {us : List (Tr × Option Addr)} {done : List It} {vw vl : Value}
theorem AtI.below (h : AtI Nd w0 us done vw vl w) (hb : Below w.heap.size w w1) : AtI Nd w0 us done vw vl w1 :=
  ⟨h.base.trans (hb.mono h.base.size), owned_next h.ow hb, owned_next h.ol hb, h.ls⟩
/-- a node is put on the row of those that wait -/
theorem AtI.push {T : Tr} {q : Option Addr} {tmp : Obj} {v1 : Value} (h : AtI Nd w0 us done vw vl w) (ht : TreeAt Nd w0 w0.heap.size T q) (hne : T ≠ .e)
    (ho : w1.ownsRow w0.heap.size 25 1 v1 (us.length + 1) (ptrs14 us.reverse ++ [.pointer q])) (hg : (w.alloc tmp).grownBy w1 vw.ownBlock) : AtI Nd w0 ((T, q) :: us) done v1 vl w1 := by
  have h1 := h.below ((Below.refl w.heap.size w).alloc (Nat.le_refl _) tmp)
  refine ⟨h1.base.grown hg h1.base.size (fun r e => (h1.ow.lt r e).1), ?_, h1.ol.kept hg (rows_apart h1.ol h1.ow (by decide)), ?_⟩
  · simp only [List.reverse_cons, ptrs14, List.map_append, List.length_cons, List.map_cons, List.map_nil] at ho ⊢
    exact ho
  · intro u hu
    rcases List.mem_cons.1 hu with rfl | hu
    · exact ⟨ht, hne⟩
    · exact h.ls u hu
/-- the last one is taken off -/
theorem AtI.pop {u : Tr × Option Addr} {A : Option Addr} {m n c : Nat} (h : AtI Nd w0 (u :: us) done (.slice A n c) vl w) (hm : us.length = m) : AtI Nd w0 us done (.slice A m c) vl w := by
  subst hm
  have ho := h.ow
  obtain ⟨A', c', e1, -, -, -⟩ := own_slice h.ow
  cases e1
  rw [List.reverse_cons, ptrs14, List.map_append] at ho
  have ht := owned_take ho us.length (by simp)
  rw [show us.length * 1 = (us.reverse.map fun u => Value.pointer u.2).length by simp, List.take_left] at ht
  exact ⟨h.base, ht, h.ol, fun x hx => h.ls x (List.mem_cons_of_mem _ hx)⟩
/-- the last one, as it lies -/
theorem AtI.top {u : Tr × Option Addr} {A : Option Addr} {n m c : Nat} (h : AtI Nd w0 (u :: us) done (.slice A n c) vl w) (hm : us.length = m) : ∃ ad, A = some ad ∧ w.cell? (ad.add m) = some (.pointer u.2) := by
  obtain ⟨A', c', e1, -, -, -⟩ := own_slice h.ow
  cases e1
  have ho := h.ow
  rw [List.reverse_cons, ptrs14, List.map_append] at ho
  obtain ⟨ad, e, _, hc⟩ := (Row.of_own ho) m (.pointer u.2) (by rw [List.getElem?_append_right (by simp [hm])]; simp [hm])
  exact ⟨ad, e, hc⟩
/-- an item is told -/
theorem AtI.tell {x : It} {tmp : Obj} {v1 : Value} (h : AtI Nd w0 us done vw vl w)
    (ho : w1.ownsRow w0.heap.size 38 3 v1 (done.length + 1) (flat3 done ++ [K x.k, K x.v, G64 x.g])) (hg : (w.alloc tmp).grownBy w1 vl.ownBlock) : AtI Nd w0 us (done ++ [x]) vw v1 w1 := by
  have h1 := h.below ((Below.refl w.heap.size w).alloc (Nat.le_refl _) tmp)
  refine ⟨h1.base.grown hg h1.base.size (fun r e => (h1.ol.lt r e).1), h1.ow.kept hg (rows_apart h1.ow h1.ol (by decide)), ?_, h.ls⟩
  rw [flat3_append, List.length_append, List.length_singleton]
  exact ho
end
set_option maxHeartbeats 8000000 in
theorem treapItems_any (hN : NodeSays Nd) (w : World) (t : Tr) (p : Option Addr) (ht : TreeAt Nd w w.heap.size t p) (h1000 : t.size ≤ 1000) :
    Calls Tryd.prog 15 #[.pointer p] w fun e w' => ∃ A c, e = .returned (.slice A t.size c) ∧ LieI w' w'.heap.size A t.size c t.items ∧ Below w.heap.size w w' := by
  obtain ⟨j0, hjn, hj0, hj1, hj2⟩ := item_parts
  obtain ⟨i0, hin, hz0, hz1, hz2⟩ := info_parts info_ptr14
  have hlen := Lib.hid (items_len t)
  have h1000' := Lib.hid h1000
  have hN' := Lib.hid hN
  have h0 : Hid (AtI Nd w [] [] (.slice none 0 0) (.slice none 0 0) w) := ⟨Below.refl _ _, World.ownsRow_nil _ _ _ _, World.ownsRow_nil _ _ _ _, fun u hu => by cases hu⟩
  have ht' := Lib.hid ht
  have pn := ptr_neq
  clear hN h1000 ht
  go_enter Tryd.func15, Tryd.ntmps15
  go_wp2
  go_loopw [0, 3, 4] (fun x vl vw wr => ∃ (T : Tr) (us : List (Tr × Option Addr)) (done : List It) (q : Option Addr), x = .pointer q ∧ TreeAt Nd w w.heap.size T q ∧ AtI Nd w us done vw vl wr ∧ done ++ (T.items ++ restI us) = t.items) (fun x vl vw wr => 1000 - lenV vl)
  case atStart => exact ⟨t, [], [], p, rfl, ht'.out, h0.out, by simp [restI]⟩
  case round =>
    clear h0 ht'
    obtain ⟨T, us, done, q, rfl, hT, hA, hall⟩ := hrel
    obtain ⟨A, c, rfl, hcn, -, -⟩ := own_slice hA.ow
    obtain ⟨Al, cl, rfl, hcl, -, nzl⟩ := own_slice hA.ol
    have hsum := congrArg List.length hall
    rw [List.length_append, List.length_append, hlen.out] at hsum
    have hfew := restI_len us fun u hu => (hA.ls u hu).2
    obtain ⟨dn, hdn⟩ : ∃ n, done.length = n := ⟨_, rfl⟩
    obtain ⟨un, hun⟩ : ∃ n, us.length = n := ⟨_, rfl⟩
    have ho := hA.ol
    rw [hdn] at hA hsum hcl ho ⊢
    rw [hun] at hA hfew hcn ⊢
    have H := Lib.hid hA
    have HALL := Lib.hid hall
    have HDN := Lib.hid hdn
    have HUN := Lib.hid hun
    cases T with
    | e =>
      obtain rfl : q = none := id hT
      cases us with
      | nil =>
        have hd : done = t.items := by rw [← hall]; simp [Tr.items, restI]
        have hdt : dn = t.size := by rw [← hdn, hd, items_len]
        subst hdt
        obtain ⟨Ar, cr, e0, hlie⟩ := LieI.of_own hdn (by have := h1000'.out; omega) ho
        cases e0
        rw [hd] at hlie
        obtain rfl : un = 0 := hun.symm
        have hb := Lib.hid hA.base
        have hlie' := Lib.hid hlie
        clear hlie hA hT hall hsum hfew hcn hcl nzl hdn hun ho hd H HALL hlen h1000' HDN HUN
        go_wp2_with fail
        go_ret
        exact ⟨_, _, rfl, hlie'.out, hb.out⟩
      | cons u us =>
        have d1 : decide ((0 : Int) < (un : Int)) = true := by
          rw [List.length_cons] at hun
          exact decide_eq_true (by omega)
        have d2 : 0 < un := by rw [List.length_cons] at hun; omega
        have hrem : Hid (dn < t.size) := by
          rw [List.length_cons] at hun
          have : dn < t.size := by omega
          exact this
        have hT' : Hid (TreeAt Nd w w.heap.size .e none) := Lib.hid hT
        clear hA hT hall hsum hfew hcn hcl nzl hdn hun ho
        go_wp2_with fail
        go_loopw [0, 4] (fun x vw wr => ∃ (T : Tr) (us : List (Tr × Option Addr)) (q : Option Addr), x = .pointer q ∧ TreeAt Nd w w.heap.size T q ∧ AtI Nd w us done vw (.slice Al dn cl) wr ∧ done ++ (T.items ++ restI us) = t.items) (fun x vw wr => 1000 - lenV vw)
        case atStart => exact ⟨_, _, _, rfl, hT'.out, H.out, HALL.out⟩
        case round =>
          clear H HALL hT' HUN
          obtain ⟨T, us, q, rfl, hT, hA, hall⟩ := hrel
          obtain ⟨A, c, rfl, hcn, -, -⟩ := own_slice hA.ow
          have hsum := congrArg List.length hall
          rw [List.length_append, List.length_append, hlen.out, HDN.out] at hsum
          have hfew := restI_len us fun u hu => (hA.ls u hu).2
          have hkk := h1000'.out
          have hrm := hrem.out
          cases T with
          | n tl k v g tr =>
            obtain ⟨a, pl, pr, rfl, hnd, hl, hr⟩ := id hT
            obtain ⟨m, hm⟩ : ∃ m, us.length = m := ⟨_, rfl⟩
            have hm9 : m + 1 ≤ 1000 := by
              rw [Tr.items, List.length_append, List.length_cons] at hsum
              omega
            have hbw : w.heap.size ≤ wr.heap.size := hA.base.size
            have how := hA.ow
            have cL : Hid (∀ W, Below w.heap.size w W → Calls Tryd.prog 29 #[.pointer (some a)] W fun e w' => e = .returned (.pointer pl) ∧ W = w') := fun W hW => hN'.out.left W w.heap.size a _ (hN'.out.next hnd hW)
            rw [hm] at hA how hcn ⊢
            have HA := Lib.hid hA
            have HM := Lib.hid hm
            have HT := Lib.hid hT
            have HL := Lib.hid hl
            have HALL := Lib.hid hall
            clear hA hm hT hl hr hnd hall hsum hfew hcn hkk hrm
            go_wp2_with (
              (at_builtin
               go_must (refine wpList_append_own _ rfl _ _ 60 rfl w.heap.size 25 i0 (.pointer none) 1 8 Tryd.underlying60 hin hz0 hz1 hz2 rfl (by decide) (.slice A m c) m (ptrs14 us.reverse) rfl (how.alloc _) ⟨wr.heap.size, 0, none⟩ 1 1 [.pointer (some a)] rfl rfl (fun j u hu => ((Has.new wr 25 #[.pointer (some a)]).row.at_ hu).2) (by simp [Value.oneCell']) (by unfold maxLen; omega) (by omega) (by simp; omega) ?_)
               intro v2 w4 hown' hgrow _
               obtain ⟨g', cap', rfl⟩ := ownsRow_succ hown'
               have H9 := Lib.hid (HA.out.push (T := .n tl k v g tr) HT.out (by simp) (by rw [HM.out]; exact hown') hgrow)
               clear hown' hgrow how))
            refine (cL.out w4 H9.out.base).mono ?_
            rintro e w5 ⟨rfl, rfl⟩
            go_wp2_with fail
            go_roundw
            case rel => exact ⟨tl, _, pl, rfl, HL.out, H9.out, by rw [← HALL.out, Tr.items, restI, List.append_assoc, List.cons_append]⟩
            case measure =>
              show 1000 - (m + 1) < 1000 - m
              omega
          | e =>
            obtain rfl : q = none := hT
            cases us with
            | nil =>
              exfalso
              simp only [Tr.items, restI, List.length_nil] at hsum
              omega
            | cons u us =>
              obtain ⟨tu, qu⟩ := u
              obtain ⟨hu1, hu2⟩ := hA.ls _ (List.mem_cons_self ..)
              simp only at hu1 hu2
              cases tu with
              | e => exact absurd rfl hu2
              | n ul uk uv ug ur =>
                obtain ⟨a, pl, pr, rfl, hnd, hl, hr⟩ := id hu1
                obtain ⟨m, hm⟩ : ∃ m, us.length = m := ⟨_, rfl⟩
                obtain ⟨nn, hnn⟩ : ∃ n, m + 1 = n := ⟨_, rfl⟩
                have hm9 : nn ≤ 1000 := by
                  rw [List.length_cons] at hfew
                  omega
                obtain ⟨ad, rfl, g0⟩ := hA.top hm
                have hd9 : dn + 1 ≤ 1000 := by omega
                rw [List.length_cons, hm, hnn] at hA hcn ⊢
                have H4 := Lib.hid (hA.pop hm)
                have e1 : wrap64 ((nn : Int) - 1) = (m : Int) := by unfold wrap64; omega
                have hix : m < nn := by omega
                have ct : ∀ W, (Instr.slice 60 (.slice (some ad) nn c) none (some (.int .i64 (m : Int))) none).run Tryd.prog W = .ok (.slice (some ad) m c) W := cut_to Tryd.underlying60 size_ptr14 (some ad) nn c m _ rfl (by omega)
                have cI : Hid (∀ W, Below w.heap.size w W → Calls Tryd.prog 35 #[.pointer (some a)] W fun e w' => e = .returned (itV ⟨uk, uv, ug⟩) ∧ Below W.heap.size W w') := fun W hW => itemOf_any hN'.out W ul ur uk uv ug (some a) (hu1.after hN'.out hW)
                have cR : Hid (∀ W, Below w.heap.size w W → Calls Tryd.prog 30 #[.pointer (some a)] W fun e w' => e = .returned (.pointer pr) ∧ W = w') := fun W hW => hN'.out.right W w.heap.size a _ (hN'.out.next hnd hW)
                have HR := Lib.hid hr
                have HALL := Lib.hid hall
                clear hA hu1 hu2 hnd hl hr hall hsum hfew hcn hkk hrm hm hnn hm9
                go_wp2_with fail
                go_region
                all_goals
                  go_wp2_with fail
                  refine (cI.out _ H4.out.base.drew).mono ?_
                  rintro e w5 ⟨rfl, hb5⟩
                  have H5 := Lib.hid ((H4.out.below (Below.refl _ wr).drew).below hb5)
                  have how := H5.out.ol
                  have hbw : w.heap.size ≤ w5.heap.size := H5.out.base.size
                  rw [HDN.out] at how
                  clear hb5 g0 ct H4
                  go_wp2_with (
                    (at_builtin
                     refine wpList_append_own _ rfl _ _ 33 rfl w.heap.size 38 j0 (.agg #[.int .i64 0, .int .i64 0, .int .u64 0]) 3 24 Tryd.underlying33 hjn hj0 hj1 hj2 rfl (by decide) (.slice Al dn cl) dn (flat3 done) rfl (how.alloc _) ⟨w5.heap.size, 0, none⟩ 1 1 [K uk, K uv, G64 ug] rfl rfl (fun j u hu => ((Has.new w5 38 #[K uk, K uv, G64 ug]).row.at_ hu).2) (flat3_one [⟨uk, uv, ug⟩]) (by unfold maxLen; omega) (by omega) (by simp; omega) ?_
                     intro v2 w6 hown' hgrow _
                     obtain ⟨g', cap', rfl⟩ := ownsRow_succ hown'
                     have H6 := Lib.hid (H5.out.tell (x := ⟨uk, uv, ug⟩) (by rw [HDN.out]; exact hown') hgrow)
                     clear hown' hgrow how))
                  refine (cR.out w6 H6.out.base).mono ?_
                  rintro e w7 ⟨rfl, rfl⟩
                  go_wp2_with fail
                  go_roundw
                  case rel => exact ⟨ur, us, done ++ [⟨uk, uv, ug⟩], pr, rfl, HR.out, H6.out, by rw [← HALL.out, Tr.items, restI, List.append_assoc]; rfl⟩
                  case measure =>
                    show 1000 - (dn + 1) < 1000 - dn
                    omega
    | n tl k v g tr =>
      obtain ⟨a, pl, pr, rfl, -, -, -⟩ := id hT
      have hrem : Hid (dn < t.size) := by
        rw [Tr.items, List.length_append, List.length_cons] at hsum
        have : dn < t.size := by omega
        exact this
      have hT' : Hid (TreeAt Nd w w.heap.size (.n tl k v g tr) (some a)) := Lib.hid hT
      clear hA hT hall hsum hfew hcn hcl nzl hdn hun ho
      go_wp2_with fail
      go_loopw [0, 4] (fun x vw wr => ∃ (T : Tr) (us : List (Tr × Option Addr)) (q : Option Addr), x = .pointer q ∧ TreeAt Nd w w.heap.size T q ∧ AtI Nd w us done vw (.slice Al dn cl) wr ∧ done ++ (T.items ++ restI us) = t.items) (fun x vw wr => 1000 - lenV vw)
      case atStart => exact ⟨_, _, _, rfl, hT'.out, H.out, HALL.out⟩
      case round =>
        clear H HALL hT' HUN
        obtain ⟨T, us, q, rfl, hT, hA, hall⟩ := hrel
        obtain ⟨A, c, rfl, hcn, -, -⟩ := own_slice hA.ow
        have hsum := congrArg List.length hall
        rw [List.length_append, List.length_append, hlen.out, HDN.out] at hsum
        have hfew := restI_len us fun u hu => (hA.ls u hu).2
        have hkk := h1000'.out
        have hrm := hrem.out
        cases T with
        | n tl k v g tr =>
          obtain ⟨a, pl, pr, rfl, hnd, hl, hr⟩ := id hT
          obtain ⟨m, hm⟩ : ∃ m, us.length = m := ⟨_, rfl⟩
          have hm9 : m + 1 ≤ 1000 := by
            rw [Tr.items, List.length_append, List.length_cons] at hsum
            omega
          have hbw : w.heap.size ≤ wr.heap.size := hA.base.size
          have how := hA.ow
          have cL : Hid (∀ W, Below w.heap.size w W → Calls Tryd.prog 29 #[.pointer (some a)] W fun e w' => e = .returned (.pointer pl) ∧ W = w') := fun W hW => hN'.out.left W w.heap.size a _ (hN'.out.next hnd hW)
          rw [hm] at hA how hcn ⊢
          have HA := Lib.hid hA
          have HM := Lib.hid hm
          have HT := Lib.hid hT
          have HL := Lib.hid hl
          have HALL := Lib.hid hall
          clear hA hm hT hl hr hnd hall hsum hfew hcn hkk hrm
          go_wp2_with (
            (at_builtin
             go_must (refine wpList_append_own _ rfl _ _ 60 rfl w.heap.size 25 i0 (.pointer none) 1 8 Tryd.underlying60 hin hz0 hz1 hz2 rfl (by decide) (.slice A m c) m (ptrs14 us.reverse) rfl (how.alloc _) ⟨wr.heap.size, 0, none⟩ 1 1 [.pointer (some a)] rfl rfl (fun j u hu => ((Has.new wr 25 #[.pointer (some a)]).row.at_ hu).2) (by simp [Value.oneCell']) (by unfold maxLen; omega) (by omega) (by simp; omega) ?_)
             intro v2 w4 hown' hgrow _
             obtain ⟨g', cap', rfl⟩ := ownsRow_succ hown'
             have H9 := Lib.hid (HA.out.push (T := .n tl k v g tr) HT.out (by simp) (by rw [HM.out]; exact hown') hgrow)
             clear hown' hgrow how))
          refine (cL.out w4 H9.out.base).mono ?_
          rintro e w5 ⟨rfl, rfl⟩
          go_wp2_with fail
          go_roundw
          case rel => exact ⟨tl, _, pl, rfl, HL.out, H9.out, by rw [← HALL.out, Tr.items, restI, List.append_assoc, List.cons_append]⟩
          case measure =>
            show 1000 - (m + 1) < 1000 - m
            omega
        | e =>
          obtain rfl : q = none := hT
          cases us with
          | nil =>
            exfalso
            simp only [Tr.items, restI, List.length_nil] at hsum
            omega
          | cons u us =>
            obtain ⟨tu, qu⟩ := u
            obtain ⟨hu1, hu2⟩ := hA.ls _ (List.mem_cons_self ..)
            simp only at hu1 hu2
            cases tu with
            | e => exact absurd rfl hu2
            | n ul uk uv ug ur =>
              obtain ⟨a, pl, pr, rfl, hnd, hl, hr⟩ := id hu1
              obtain ⟨m, hm⟩ : ∃ m, us.length = m := ⟨_, rfl⟩
              obtain ⟨nn, hnn⟩ : ∃ n, m + 1 = n := ⟨_, rfl⟩
              have hm9 : nn ≤ 1000 := by
                rw [List.length_cons] at hfew
                omega
              obtain ⟨ad, rfl, g0⟩ := hA.top hm
              have hd9 : dn + 1 ≤ 1000 := by omega
              rw [List.length_cons, hm, hnn] at hA hcn ⊢
              have H4 := Lib.hid (hA.pop hm)
              have e1 : wrap64 ((nn : Int) - 1) = (m : Int) := by unfold wrap64; omega
              have hix : m < nn := by omega
              have ct : ∀ W, (Instr.slice 60 (.slice (some ad) nn c) none (some (.int .i64 (m : Int))) none).run Tryd.prog W = .ok (.slice (some ad) m c) W := cut_to Tryd.underlying60 size_ptr14 (some ad) nn c m _ rfl (by omega)
              have cI : Hid (∀ W, Below w.heap.size w W → Calls Tryd.prog 35 #[.pointer (some a)] W fun e w' => e = .returned (itV ⟨uk, uv, ug⟩) ∧ Below W.heap.size W w') := fun W hW => itemOf_any hN'.out W ul ur uk uv ug (some a) (hu1.after hN'.out hW)
              have cR : Hid (∀ W, Below w.heap.size w W → Calls Tryd.prog 30 #[.pointer (some a)] W fun e w' => e = .returned (.pointer pr) ∧ W = w') := fun W hW => hN'.out.right W w.heap.size a _ (hN'.out.next hnd hW)
              have HR := Lib.hid hr
              have HALL := Lib.hid hall
              clear hA hu1 hu2 hnd hl hr hall hsum hfew hcn hkk hrm hm hnn hm9
              go_wp2_with fail
              go_region
              all_goals
                go_wp2_with fail
                refine (cI.out _ H4.out.base.drew).mono ?_
                rintro e w5 ⟨rfl, hb5⟩
                have H5 := Lib.hid ((H4.out.below (Below.refl _ wr).drew).below hb5)
                have how := H5.out.ol
                have hbw : w.heap.size ≤ w5.heap.size := H5.out.base.size
                rw [HDN.out] at how
                clear hb5 g0 ct H4
                go_wp2_with (
                  (at_builtin
                   refine wpList_append_own _ rfl _ _ 33 rfl w.heap.size 38 j0 (.agg #[.int .i64 0, .int .i64 0, .int .u64 0]) 3 24 Tryd.underlying33 hjn hj0 hj1 hj2 rfl (by decide) (.slice Al dn cl) dn (flat3 done) rfl (how.alloc _) ⟨w5.heap.size, 0, none⟩ 1 1 [K uk, K uv, G64 ug] rfl rfl (fun j u hu => ((Has.new w5 38 #[K uk, K uv, G64 ug]).row.at_ hu).2) (flat3_one [⟨uk, uv, ug⟩]) (by unfold maxLen; omega) (by omega) (by simp; omega) ?_
                   intro v2 w6 hown' hgrow _
                   obtain ⟨g', cap', rfl⟩ := ownsRow_succ hown'
                   have H6 := Lib.hid (H5.out.tell (x := ⟨uk, uv, ug⟩) (by rw [HDN.out]; exact hown') hgrow)
                   clear hown' hgrow how))
                refine (cR.out w6 H6.out.base).mono ?_
                rintro e w7 ⟨rfl, rfl⟩
                go_wp2_with fail
                go_roundw
                case rel => exact ⟨ur, us, done ++ [⟨uk, uv, ug⟩], pr, rfl, HR.out, H6.out, by rw [← HALL.out, Tr.items, restI, List.append_assoc]; rfl⟩
                case measure =>
                  show 1000 - (dn + 1) < 1000 - dn
                  omega
end Go.Proofs.YtcnkgddldhkddaaDoor
