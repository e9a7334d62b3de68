/- Proved here: for every two items and every row of beads the law TreapAbove of layer 20 returns true (which one of two nodes stands above the other one is what the document says; of two unlike ones just one does); it changes nothing that lay. Condition: package mix's table of steps holds what its initialiser lays (tied to the program's text by the card). -/
import Derived.Test.YtcnkgddldhkddaaDoorJE
import Derived.Test.YtcnkgddldhkddaaDoorJD
import Derived.Test.YtcnkgddldhkddaaDoorL9Says
import Derived.Test.YtcnkgddldhkddaaDoorRows
import Derived.Below
import Derived.ChangeOld
import Derived.Test.YtcnkgddldhkddaaDoorTie
import Derived.Test.YtcnkgddldhkddaaDoorCards
/- Layer 20: the statement TreapAbove, walked. Made by wip/gen/layer20above.py. -/
namespace Go.Proofs.YtcnkgddldhkddaaDoor
open Go.RowKit Go.Proofs.Treem
set_option maxRecDepth 100000
variable {Nd : NdP} {T : World → Prop}

theorem three {w : World} {g : Nat} {t : TypeId} {v0 v1 v2 : Value} (h : Has w g t #[v0, v1, v2]) : w.cell? ⟨g, 0, none⟩ = some v0 ∧ w.cell? ⟨g, 1, none⟩ = some v1 ∧ w.cell? ⟨g, 2, none⟩ = some v2 := ⟨h.cell 0, h.cell 1, h.cell 2⟩
set_option maxHeartbeats 2000000 in
theorem treapAbove_long (hN : NodeSays Nd) (hS : TreapSays Nd T) (x y : It) (A : Option Addr) (n c : Nat) (w : World) (hT : T w) (h : LongAt w A n c true) : Calls Tryd.prog 4 #[itV x, itV y, .slice A n c] w fun e w' => e = .returned (.bool true) ∧ Below w.heap.size w w' := by
  have cA : Hid (∀ W, Below w.heap.size w W → Calls Tryd.prog 8 #[] W fun e w' => e = .returned (.bool true) ∧ Below W.heap.size W w') := fun W hb => alive20_any hN hS W (hS.now w W hT hb)
  have c0 := Lib.hid h
  clear h hN hS hT
  go_enter Tryd.func4, Tryd.ntmps4
  go_upto_region 1 with (fail)
  obtain ⟨w1, hw1⟩ : ∃ W, w.alloc (.cells #[K x.k, K x.v, G64 x.g] 38) = W := ⟨_, rfl⟩
  have hx1 := hw1 ▸ Has.new w 38 #[K x.k, K x.v, G64 x.g]
  have bx1 : Below w.heap.size w w1 := hw1 ▸ (Below.refl _ _).alloc (Nat.le_refl _) _
  obtain ⟨p1, hp1⟩ : ∃ p, w.heap.size = p := ⟨_, rfl⟩
  obtain ⟨w2, hw2⟩ : ∃ W, w1.alloc (.cells #[K y.k, K y.v, G64 y.g] 38) = W := ⟨_, rfl⟩
  have hx2 := hw2 ▸ Has.new w1 38 #[K y.k, K y.v, G64 y.g]
  have bx2 : Below w1.heap.size w1 w2 := hw2 ▸ (Below.refl _ _).alloc (Nat.le_refl _) _
  have hs1 : w1.heap.size = p1 + 1 := by rw [← hw1, World.size_alloc, hp1]
  have hx1 := hx1.next bx2
  have B_2 := Lib.hid (Below.after bx1 bx2)
  rw [show w.alloc (.cells #[.int .i64 x.k.toInt, .int .i64 x.v.toInt, .int .u64 (x.g.toNat : Int)] 38) = w1 from hw1, show w1.alloc (.cells #[.int .i64 y.k.toInt, .int .i64 y.v.toInt, .int .u64 (y.g.toNat : Int)] 38) = w2 from hw2]
  clear hw1 hw2 hx1 hx2 bx1 bx2 hs1
  go_wp2_with fail
  refine (c0.out w2 B_2.out).mono ?_
  rintro e w' ⟨rfl, rfl⟩
  go_wp2_with fail
  refine (cA.out w2 B_2.out).mono ?_
  rintro e w3 ⟨rfl, hb⟩
  have B_3 := Lib.hid (Below.after B_2.out hb)
  clear hb
  go_wp2
  go_ret
  exact ⟨rfl, B_3.out⟩
set_option maxHeartbeats 8000000 in
theorem treapAbove_gt (hN : NodeSays Nd) (hS : TreapSays Nd T) (x y : It) (A : Option Addr) (n c : Nat) (l : List Bd) (t : Tr) (w : World) (hT : T w) (h : LongAt w A n c false) (ht : TreeIn w A n c l t) (g1 : y.rk < x.rk) : Calls Tryd.prog 4 #[itV x, itV y, .slice A n c] w fun e w' => e = .returned (.bool true) ∧ Below w.heap.size w w' := by
  have cA : Hid (∀ W, Below w.heap.size w W → Calls Tryd.prog 8 #[] W fun e w' => e = .returned (.bool true) ∧ Below W.heap.size W w') := fun W hb => alive20_any hN hS W (hS.now w W hT hb)
  have c0 := Lib.hid h
  have cM := Lib.hid (ht.make hN)
  have hab : aboveI x y = true := decide_eq_true (by omega)
  have hba : aboveI y x = false := decide_eq_false (by omega)
  obtain ⟨ta, hta⟩ : ∃ u, Tr.n t x.k x.v x.g .e = u := ⟨_, rfl⟩
  obtain ⟨tb, htb⟩ : ∃ u, Tr.n .e y.k y.v y.g t = u := ⟨_, rfl⟩
  have cN1 : Hid (∀ W p, TreeAt Nd W W.heap.size t p → Calls Tryd.prog 19 #[.pointer p, K x.k, K x.v, G64 x.g, .pointer none] W fun e w' => ∃ a, e = .returned (.pointer (some a)) ∧ TreeAt Nd w' w'.heap.size ta (some a) ∧ Below W.heap.size W w') := fun W p h => (new9 hN W p none t .e x.k x.v x.g h rfl).mono fun e w' ⟨a, k1, _, _, k4, k5⟩ => ⟨a, k1, hta ▸ k4, k5⟩
  have cN2 : Hid (∀ W p, TreeAt Nd W W.heap.size t p → Calls Tryd.prog 19 #[.pointer none, K y.k, K y.v, G64 y.g, .pointer p] W fun e w' => ∃ a, e = .returned (.pointer (some a)) ∧ TreeAt Nd w' w'.heap.size tb (some a) ∧ Below W.heap.size W w') := fun W p h => (new9 hN W none p .e t y.k y.v y.g rfl h).mono fun e w' ⟨a, k1, _, _, k4, k5⟩ => ⟨a, k1, htb ▸ k4, k5⟩
  have cAB : Hid (∀ W p q, TreeAt Nd W W.heap.size ta p → TreeAt Nd W W.heap.size tb q → Calls Tryd.prog 20 #[.pointer p, .pointer q] W fun e w' => e = .returned (.bool true) ∧ Below W.heap.size W w') := fun W p q h1 h2 => by
    have := hS.above W ta tb p q h1 h2
    rw [show aboveT ta tb = true from by rw [← hta, ← htb]; exact hab] at this
    exact this
  have cBA : Hid (∀ W p q, TreeAt Nd W W.heap.size tb p → TreeAt Nd W W.heap.size ta q → Calls Tryd.prog 20 #[.pointer p, .pointer q] W fun e w' => e = .returned (.bool false) ∧ Below W.heap.size W w') := fun W p q h1 h2 => by
    have := hS.above W tb ta p q h1 h2
    rw [show aboveT tb ta = false from by rw [← hta, ← htb]; exact hba] at this
    exact this
  have cA0 : Hid (∀ W p q, TreeAt Nd W W.heap.size ta p → TreeAt Nd W W.heap.size .e q → Calls Tryd.prog 20 #[.pointer p, .pointer q] W fun e w' => e = .returned (.bool false) ∧ Below W.heap.size W w') := fun W p q h1 h2 => by
    have := hS.above W ta .e p q h1 h2
    rw [show aboveT ta .e = false from by rw [← hta]; rfl] at this
    exact this
  have c0B : Hid (∀ W p q, TreeAt Nd W W.heap.size .e p → TreeAt Nd W W.heap.size tb q → Calls Tryd.prog 20 #[.pointer p, .pointer q] W fun e w' => e = .returned (.bool false) ∧ Below W.heap.size W w') := fun W p q h1 h2 => by
    have := hS.above W .e tb p q h1 h2
    rw [show aboveT .e tb = false from rfl] at this
    exact this
  have rXY : Hid (∀ W, Calls Tryd.prog 21 #[itV x, itV y] W fun e w' => e = .returned (.bool true) ∧ Below W.heap.size W w') := fun W => hab ▸ refAbove20 x y W
  have rYX : Hid (∀ W, Calls Tryd.prog 21 #[itV y, itV x] W fun e w' => e = .returned (.bool false) ∧ Below W.heap.size W w') := fun W => hba ▸ refAbove20 y x W
  have heq := rk_eq x y
  have t1 := toNat_beq x.g y.g
  have t2 := toInt_beq x.k y.k
  have hN' := Lib.hid hN
  have g1' := Lib.hid g1
  have heq' := Lib.hid heq
  clear hta htb hab hba hN hS hT h ht g1 heq
  go_enter Tryd.func4, Tryd.ntmps4
  go_upto_region 1 with (fail)
  obtain ⟨w1, hw1⟩ : ∃ W, w.alloc (.cells #[K x.k, K x.v, G64 x.g] 38) = W := ⟨_, rfl⟩
  have hx1 := hw1 ▸ Has.new w 38 #[K x.k, K x.v, G64 x.g]
  have bx1 : Below w.heap.size w w1 := hw1 ▸ (Below.refl _ _).alloc (Nat.le_refl _) _
  obtain ⟨p1, hp1⟩ : ∃ p, w.heap.size = p := ⟨_, rfl⟩
  obtain ⟨w2, hw2⟩ : ∃ W, w1.alloc (.cells #[K y.k, K y.v, G64 y.g] 38) = W := ⟨_, rfl⟩
  have hx2 := hw2 ▸ Has.new w1 38 #[K y.k, K y.v, G64 y.g]
  have bx2 : Below w1.heap.size w1 w2 := hw2 ▸ (Below.refl _ _).alloc (Nat.le_refl _) _
  have hs1 : w1.heap.size = p1 + 1 := by rw [← hw1, World.size_alloc, hp1]
  have hx1 := hx1.next bx2
  have B_2 := Lib.hid (Below.after bx1 bx2)
  rw [show w.alloc (.cells #[.int .i64 x.k.toInt, .int .i64 x.v.toInt, .int .u64 (x.g.toNat : Int)] 38) = w1 from hw1, show w1.alloc (.cells #[.int .i64 y.k.toInt, .int .i64 y.v.toInt, .int .u64 (y.g.toNat : Int)] 38) = w2 from hw2]
  clear hw1 hw2 bx1 bx2
  rw [hs1] at hx2
  rw [hp1]
  obtain ⟨p2, hp2⟩ : ∃ p, p1 + 1 = p := ⟨_, rfl⟩
  rw [hp2] at hx2 ⊢
  rw [hp1] at hx1
  have hx1' := Lib.hid hx1
  have hx2' := Lib.hid hx2
  clear hx1 hx2 hs1 hp1 hp2
  go_wp2_with fail
  refine (c0.out w2 B_2.out).mono ?_
  rintro e w' ⟨rfl, rfl⟩
  go_wp2_with fail
  refine (cM.out w2 B_2.out).mono ?_
  rintro e w3 ⟨p, rfl, hP, hb⟩
  have B_3 := Lib.hid (Below.after B_2.out hb)
  have P_3 := Lib.hid hP
  obtain ⟨f0, f1, f2⟩ := three (hx1'.out.next hb)
  obtain ⟨g0, g1, g2⟩ := three (hx2'.out.next hb)
  clear hb hP hx1' hx2' B_2
  have hne : ¬ (x.g = y.g ∧ x.k = y.k) := fun h => by have := heq'.out.2 h; have := g1'.out; omega
  obtain ⟨b1, hb1⟩ : ∃ b, decide (x.g = y.g) = b := ⟨_, rfl⟩
  obtain ⟨b2, hb2⟩ : ∃ b, decide (x.k = y.k) = b := ⟨_, rfl⟩
  rw [hb1] at t1
  rw [hb2] at t2
  have hbb : b1 = false ∨ (b1 = true ∧ b2 = false) := by
    cases b1 with
    | false => exact .inl rfl
    | true =>
      cases b2 with
      | false => exact .inr ⟨rfl, rfl⟩
      | true => exact absurd ⟨of_decide_eq_true hb1, of_decide_eq_true hb2⟩ hne
  clear g1' heq' hne hb1 hb2
  rcases hbb with rfl | ⟨rfl, rfl⟩
  · skip
    go_upto_region 4 with (fail)
    refine wp_region_held_drew (S := fun W => W.cell? ⟨p1, 0, none⟩ = some (K x.k) ∧ W.cell? ⟨p1, 1, none⟩ = some (K x.v) ∧ W.cell? ⟨p1, 2, none⟩ = some (G64 x.g) ∧ W.cell? ⟨p2, 0, none⟩ = some (K y.k) ∧ W.cell? ⟨p2, 1, none⟩ = some (K y.v) ∧ W.cell? ⟨p2, 2, none⟩ = some (G64 y.g) ∧ Below w3.heap.size w3 W) (by kernel_rfl) ⟨f0, f1, f2, g0, g1, g2, (Below.refl _ w3).drew⟩ (fun hS => ?_)
    refine wpAnyH_take (i := 0) (oi := ?dqr3q0) (v := ?dvr3q0) ?hir3q0 (by kernel_rfl) (by kernel_rfl) (by kernel_rfl) ?hQr3q0 (Or.inl ⟨?hwr3q0, ?hyr3q0⟩) hS ?hrr3q0
    case hir3q0 => simp only [List.getElem?_toArray, List.getElem?_cons_zero]; rfl
    case hQr3q0 => exact fun _ _ _ h => h
    case hwr3q0 => rfl
    case hyr3q0 => (intro w hSw; (try dsimp only at hSw); go_simp; (try with_reducible rfl))
    simp only [Act.put, List.setIfInBounds_toArray, List.set_cons_zero, List.set_cons_succ]
    refine wpAnyH_take (i := 1) (oi := ?dqr3q1) (v := ?dvr3q1) ?hir3q1 (by kernel_rfl) (by kernel_rfl) (by kernel_rfl) ?hQr3q1 (Or.inl ⟨?hwr3q1, ?hyr3q1⟩) hS ?hrr3q1
    case hir3q1 => simp only [List.getElem?_toArray, List.getElem?_cons_succ, List.getElem?_cons_zero]; rfl
    case hQr3q1 => exact fun _ _ _ h => h
    case hwr3q1 => rfl
    case hyr3q1 => (intro w hSw; (try dsimp only at hSw); go_simp; (try with_reducible rfl))
    simp only [Act.put, List.setIfInBounds_toArray, List.set_cons_zero, List.set_cons_succ]
    refine wpAnyH_take (i := 2) (oi := ?dqr3q2) (v := ?dvr3q2) ?hir3q2 (by kernel_rfl) (by kernel_rfl) (by kernel_rfl) ?hQr3q2 (Or.inl ⟨?hwr3q2, ?hyr3q2⟩) hS ?hrr3q2
    case hir3q2 => simp only [List.getElem?_toArray, List.getElem?_cons_succ, List.getElem?_cons_zero]; rfl
    case hQr3q2 => exact fun _ _ _ h => h
    case hwr3q2 => rfl
    case hyr3q2 => (intro w hSw; (try dsimp only at hSw); go_simp; (try with_reducible rfl))
    simp only [Act.put, List.setIfInBounds_toArray, List.set_cons_zero, List.set_cons_succ]
    refine wpAnyH_take (i := 3) (oi := ?dqr3q3) (v := ?dvr3q3) ?hir3q3 (by kernel_rfl) (by kernel_rfl) (by kernel_rfl) ?hQr3q3 (Or.inl ⟨?hwr3q3, ?hyr3q3⟩) hS ?hrr3q3
    case hir3q3 => simp only [List.getElem?_toArray, List.getElem?_cons_succ, List.getElem?_cons_zero]; rfl
    case hQr3q3 => exact fun _ _ _ h => h
    case hwr3q3 => rfl
    case hyr3q3 => (intro w hSw; (try dsimp only at hSw); go_simp; (try with_reducible rfl))
    simp only [Act.put, List.setIfInBounds_toArray, List.set_cons_zero, List.set_cons_succ]
    refine wpAnyH_take (i := 4) (oi := ?dqr3q4) (v := ?dvr3q4) ?hir3q4 (by kernel_rfl) (by kernel_rfl) (by kernel_rfl) ?hQr3q4 (Or.inl ⟨?hwr3q4, ?hyr3q4⟩) hS ?hrr3q4
    case hir3q4 => simp only [List.getElem?_toArray, List.getElem?_cons_succ, List.getElem?_cons_zero]; rfl
    case hQr3q4 => exact fun _ _ _ h => h
    case hwr3q4 => rfl
    case hyr3q4 => (intro w hSw; (try dsimp only at hSw); go_simp; (try with_reducible rfl))
    simp only [Act.put, List.setIfInBounds_toArray, List.set_cons_zero, List.set_cons_succ]
    refine wpAnyH_take (i := 5) (oi := ?dqr3q5) (v := ?dvr3q5) ?hir3q5 (by kernel_rfl) (by kernel_rfl) (by kernel_rfl) ?hQr3q5 (Or.inl ⟨?hwr3q5, ?hyr3q5⟩) hS ?hrr3q5
    case hir3q5 => simp only [List.getElem?_toArray, List.getElem?_cons_succ, List.getElem?_cons_zero]; rfl
    case hQr3q5 => exact fun _ _ _ h => h
    case hwr3q5 => rfl
    case hyr3q5 => (intro w hSw; (try dsimp only at hSw); go_simp; (try with_reducible rfl))
    simp only [Act.put, List.setIfInBounds_toArray, List.set_cons_zero, List.set_cons_succ]
    refine wpAnyH_take (i := 6) (oi := ?dqr3q6) (v := ?dvr3q6) ?hir3q6 (by kernel_rfl) (by kernel_rfl) (by kernel_rfl) ?hQr3q6 (Or.inl ⟨?hwr3q6, ?hyr3q6⟩) hS ?hrr3q6
    case hir3q6 => simp only [List.getElem?_toArray, List.getElem?_cons_succ, List.getElem?_cons_zero]; rfl
    case hQr3q6 => exact fun _ _ _ h => h
    case hwr3q6 => rfl
    case hyr3q6 => (intro w hSw; (try dsimp only at hSw); go_simp; (try with_reducible rfl))
    simp only [Act.put, List.setIfInBounds_toArray, List.set_cons_zero, List.set_cons_succ]
    refine wpAnyH_take (i := 8) (oi := ?dqr3q8) (v := ?dvr3q8) ?hir3q8 (by kernel_rfl) (by kernel_rfl) (by kernel_rfl) ?hQr3q8 (Or.inl ⟨?hwr3q8, ?hyr3q8⟩) hS ?hrr3q8
    case hir3q8 => simp only [List.getElem?_toArray, List.getElem?_cons_succ, List.getElem?_cons_zero]; rfl
    case hQr3q8 => exact fun _ _ _ h => h
    case hwr3q8 => rfl
    case hyr3q8 => (intro w hSw; (try dsimp only at hSw); go_simp; (try with_reducible rfl))
    simp only [Act.put, List.setIfInBounds_toArray, List.set_cons_zero, List.set_cons_succ]
    refine wpAnyH_take (i := 9) (oi := ?dqr3q9) (v := ?dvr3q9) ?hir3q9 (by kernel_rfl) (by kernel_rfl) (by kernel_rfl) ?hQr3q9 (Or.inl ⟨?hwr3q9, ?hyr3q9⟩) hS ?hrr3q9
    case hir3q9 => simp only [List.getElem?_toArray, List.getElem?_cons_succ, List.getElem?_cons_zero]; rfl
    case hQr3q9 => exact fun _ _ _ h => h
    case hwr3q9 => rfl
    case hyr3q9 => (intro w hSw; (try dsimp only at hSw); go_simp; (try with_reducible rfl))
    simp only [Act.put, List.setIfInBounds_toArray, List.set_cons_zero, List.set_cons_succ]
    refine wpAnyH_take (i := 10) (oi := ?dqr3q10) (v := ?dvr3q10) ?hir3q10 (by kernel_rfl) (by kernel_rfl) (by kernel_rfl) ?hQr3q10 (Or.inl ⟨?hwr3q10, ?hyr3q10⟩) hS ?hrr3q10
    case hir3q10 => simp only [List.getElem?_toArray, List.getElem?_cons_succ, List.getElem?_cons_zero]; rfl
    case hQr3q10 => exact fun _ _ _ h => h
    case hwr3q10 => rfl
    case hyr3q10 => (intro w hSw; (try dsimp only at hSw); go_simp; (try with_reducible rfl))
    simp only [Act.put, List.setIfInBounds_toArray, List.set_cons_zero, List.set_cons_succ]
    refine wpAnyH_take (i := 11) (oi := ?dqr3q11) (v := ?dvr3q11) ?hir3q11 (by kernel_rfl) (by kernel_rfl) (by kernel_rfl) ?hQr3q11 (Or.inl ⟨?hwr3q11, ?hyr3q11⟩) hS ?hrr3q11
    case hir3q11 => simp only [List.getElem?_toArray, List.getElem?_cons_succ, List.getElem?_cons_zero]; rfl
    case hQr3q11 => exact fun _ _ _ h => h
    case hwr3q11 => rfl
    case hyr3q11 => (intro w hSw; (try dsimp only at hSw); go_simp; (try with_reducible rfl))
    simp only [Act.put, List.setIfInBounds_toArray, List.set_cons_zero, List.set_cons_succ]
    refine wpAnyH_take (i := 12) (oi := ?dqr3q12) (v := ?dvr3q12) ?hir3q12 (by kernel_rfl) (by kernel_rfl) (by kernel_rfl) ?hQr3q12 (Or.inl ⟨?hwr3q12, ?hyr3q12⟩) hS ?hrr3q12
    case hir3q12 => simp only [List.getElem?_toArray, List.getElem?_cons_succ, List.getElem?_cons_zero]; rfl
    case hQr3q12 => exact fun _ _ _ h => h
    case hwr3q12 => rfl
    case hyr3q12 => (intro w hSw; (try dsimp only at hSw); go_simp; (try with_reducible rfl))
    simp only [Act.put, List.setIfInBounds_toArray, List.set_cons_zero, List.set_cons_succ]
    refine wpAnyH_take (i := 13) (oi := ?dqr3q13) (v := ?dvr3q13) ?hir3q13 (by kernel_rfl) (by kernel_rfl) (by kernel_rfl) ?hQr3q13 (Or.inl ⟨?hwr3q13, ?hyr3q13⟩) hS ?hrr3q13
    case hir3q13 => simp only [List.getElem?_toArray, List.getElem?_cons_succ, List.getElem?_cons_zero]; rfl
    case hQr3q13 => exact fun _ _ _ h => h
    case hwr3q13 => rfl
    case hyr3q13 => (intro w hSw; (try dsimp only at hSw); go_simp; (try with_reducible rfl))
    simp only [Act.put, List.setIfInBounds_toArray, List.set_cons_zero, List.set_cons_succ]
    refine wpAnyH_take (i := 14) (oi := ?dqr3q14) (v := ?dvr3q14) ?hir3q14 (by kernel_rfl) (by kernel_rfl) (by kernel_rfl) ?hQr3q14 (Or.inl ⟨?hwr3q14, ?hyr3q14⟩) hS ?hrr3q14
    case hir3q14 => simp only [List.getElem?_toArray, List.getElem?_cons_succ, List.getElem?_cons_zero]; rfl
    case hQr3q14 => exact fun _ _ _ h => h
    case hwr3q14 => rfl
    case hyr3q14 => (intro w hSw; (try dsimp only at hSw); go_simp; (try with_reducible rfl))
    simp only [Act.put, List.setIfInBounds_toArray, List.set_cons_zero, List.set_cons_succ]
    refine wpAnyH_ready (rs := [7]) (by kernel_rfl) (by simp) ?_
    refine AllReadyH.cons (o := ?dqr3q7) ?hir3q7 (fun K hK => ?_) AllReadyH.nil
    case hir3q7 => simp only [List.getElem?_toArray, List.getElem?_cons_succ, List.getElem?_cons_zero]; rfl
    go_simp
    go_at_call 19
    refine (cN1.out _ _ (P_3.out.after hN'.out hS.2.2.2.2.2.2)).mono ?_
    rintro e u1 ⟨a, rfl, hA, hb⟩
    have A1 := Lib.hid hA
    have P1 := Lib.hid ((P_3.out.after hN'.out hS.2.2.2.2.2.2).after hN'.out hb)
    clear hA
    have hS2 := (And.intro (keep_cell hb hS.1) (And.intro (keep_cell hb hS.2.1) (And.intro (keep_cell hb hS.2.2.1) (And.intro (keep_cell hb hS.2.2.2.1) (And.intro (keep_cell hb hS.2.2.2.2.1) (And.intro (keep_cell hb hS.2.2.2.2.2.1) (Below.after hS.2.2.2.2.2.2 hb)))))))
    clear hS
    refine hK.out _ _ hS2 (fun hS => ?_)
    clear hS2 hK K
    try simp only [Act.put, List.setIfInBounds_toArray, List.set_cons_zero, List.set_cons_succ]
    refine wpAnyH_ready (rs := [15]) (by kernel_rfl) (by simp) ?_
    refine AllReadyH.cons (o := ?dqr3q15) ?hir3q15 (fun K hK => ?_) AllReadyH.nil
    case hir3q15 => simp only [List.getElem?_toArray, List.getElem?_cons_succ, List.getElem?_cons_zero]; rfl
    go_simp
    go_at_call 19
    refine (cN2.out _ _ P1.out).mono ?_
    rintro e u2 ⟨b, rfl, hB, hb⟩
    have B2 := Lib.hid hB
    have A2 := Lib.hid (A1.out.after hN'.out hb)
    clear hB A1 P1
    have hS2 := (And.intro (keep_cell hb hS.1) (And.intro (keep_cell hb hS.2.1) (And.intro (keep_cell hb hS.2.2.1) (And.intro (keep_cell hb hS.2.2.2.1) (And.intro (keep_cell hb hS.2.2.2.2.1) (And.intro (keep_cell hb hS.2.2.2.2.2.1) (Below.after hS.2.2.2.2.2.2 hb)))))))
    clear hS
    refine hK.out _ _ hS2 (fun hS => ?_)
    clear hS2 hK K
    try simp only [Act.put, List.setIfInBounds_toArray, List.set_cons_zero, List.set_cons_succ]
    refine wpAnyH_take (i := 16) (oi := ?dqr3q16) (v := ?dvr3q16) ?hir3q16 (by kernel_rfl) (by kernel_rfl) (by kernel_rfl) ?hQr3q16 (Or.inl ⟨?hwr3q16, ?hyr3q16⟩) hS ?hrr3q16
    case hir3q16 => simp only [List.getElem?_toArray, List.getElem?_cons_succ, List.getElem?_cons_zero]; rfl
    case hQr3q16 => exact fun _ _ _ h => h
    case hwr3q16 => rfl
    case hyr3q16 => (intro w hSw; (try dsimp only at hSw); go_simp; (try with_reducible rfl))
    simp only [Act.put, List.setIfInBounds_toArray, List.set_cons_zero, List.set_cons_succ]
    refine wpAnyH_take (i := 17) (oi := ?dqr3q17) (v := ?dvr3q17) ?hir3q17 (by kernel_rfl) (by kernel_rfl) (by kernel_rfl) ?hQr3q17 (Or.inl ⟨?hwr3q17, ?hyr3q17⟩) hS ?hrr3q17
    case hir3q17 => simp only [List.getElem?_toArray, List.getElem?_cons_succ, List.getElem?_cons_zero]; rfl
    case hQr3q17 => exact fun _ _ _ h => h
    case hwr3q17 => rfl
    case hyr3q17 => (intro w hSw; (try dsimp only at hSw); go_simp; (try with_reducible rfl))
    simp only [Act.put, List.setIfInBounds_toArray, List.set_cons_zero, List.set_cons_succ]
    refine wpAnyH_done (by kernel_rfl) ?_ _
    have hb4 := Lib.hid hS.2.2.2.2.2.2
    have B_4 := Lib.hid (Below.after B_3.out hb4.out)
    obtain ⟨f0, f1, f2, g0, g1, g2, -⟩ := hS
    clear hb4 B_3
    go_wp2_with fail
    obtain ⟨w5, hw5⟩ : ∃ W, u2 = W := ⟨_, rfl⟩
    rw [hw5] at A2 B2 B_4 f0 f1 f2 g0 g1 g2 ⊢
    have A5 := A2
    have B5 := B2
    clear hw5 A2 B2
    refine wp_region_held_drew (S := fun W => W.cell? ⟨p1, 0, none⟩ = some (K x.k) ∧ W.cell? ⟨p1, 1, none⟩ = some (K x.v) ∧ W.cell? ⟨p1, 2, none⟩ = some (G64 x.g) ∧ W.cell? ⟨p2, 0, none⟩ = some (K y.k) ∧ W.cell? ⟨p2, 1, none⟩ = some (K y.v) ∧ W.cell? ⟨p2, 2, none⟩ = some (G64 y.g) ∧ Below w5.heap.size w5 W) (by kernel_rfl) ⟨f0, f1, f2, g0, g1, g2, (Below.refl _ w5).drew⟩ (fun hS => ?_)
    refine wpAnyH_take (i := 0) (oi := ?dqr4q0) (v := ?dvr4q0) ?hir4q0 (by kernel_rfl) (by kernel_rfl) (by kernel_rfl) ?hQr4q0 (Or.inl ⟨?hwr4q0, ?hyr4q0⟩) hS ?hrr4q0
    case hir4q0 => simp only [List.getElem?_toArray, List.getElem?_cons_zero]; rfl
    case hQr4q0 => exact fun _ _ _ h => h
    case hwr4q0 => rfl
    case hyr4q0 => (intro w hSw; (try dsimp only at hSw); go_simp; (try with_reducible rfl))
    simp only [Act.put, List.setIfInBounds_toArray, List.set_cons_zero, List.set_cons_succ]
    refine wpAnyH_take (i := 1) (oi := ?dqr4q1) (v := ?dvr4q1) ?hir4q1 (by kernel_rfl) (by kernel_rfl) (by kernel_rfl) ?hQr4q1 (Or.inl ⟨?hwr4q1, ?hyr4q1⟩) hS ?hrr4q1
    case hir4q1 => simp only [List.getElem?_toArray, List.getElem?_cons_succ, List.getElem?_cons_zero]; rfl
    case hQr4q1 => exact fun _ _ _ h => h
    case hwr4q1 => rfl
    case hyr4q1 => (intro w hSw; (try dsimp only at hSw); go_simp; (try with_reducible rfl))
    simp only [Act.put, List.setIfInBounds_toArray, List.set_cons_zero, List.set_cons_succ]
    refine wpAnyH_take (i := 3) (oi := ?dqr4q3) (v := ?dvr4q3) ?hir4q3 (by kernel_rfl) (by kernel_rfl) (by kernel_rfl) ?hQr4q3 (Or.inl ⟨?hwr4q3, ?hyr4q3⟩) hS ?hrr4q3
    case hir4q3 => simp only [List.getElem?_toArray, List.getElem?_cons_succ, List.getElem?_cons_zero]; rfl
    case hQr4q3 => exact fun _ _ _ h => h
    case hwr4q3 => rfl
    case hyr4q3 => (intro w hSw; (try dsimp only at hSw); go_simp; (try with_reducible rfl))
    simp only [Act.put, List.setIfInBounds_toArray, List.set_cons_zero, List.set_cons_succ]
    refine wpAnyH_take (i := 4) (oi := ?dqr4q4) (v := ?dvr4q4) ?hir4q4 (by kernel_rfl) (by kernel_rfl) (by kernel_rfl) ?hQr4q4 (Or.inl ⟨?hwr4q4, ?hyr4q4⟩) hS ?hrr4q4
    case hir4q4 => simp only [List.getElem?_toArray, List.getElem?_cons_succ, List.getElem?_cons_zero]; rfl
    case hQr4q4 => exact fun _ _ _ h => h
    case hwr4q4 => rfl
    case hyr4q4 => (intro w hSw; (try dsimp only at hSw); go_simp; (try with_reducible rfl))
    simp only [Act.put, List.setIfInBounds_toArray, List.set_cons_zero, List.set_cons_succ]
    refine wpAnyH_ready (rs := [2]) (by kernel_rfl) (by simp) ?_
    refine AllReadyH.cons (o := ?dqr4q2) ?hir4q2 (fun K hK => ?_) AllReadyH.nil
    case hir4q2 => simp only [List.getElem?_toArray, List.getElem?_cons_succ, List.getElem?_cons_zero]; rfl
    go_simp
    go_at_call 20
    refine (cAB.out _ _ _ (A5.out.after hN'.out hS.2.2.2.2.2.2) (B5.out.after hN'.out hS.2.2.2.2.2.2)).mono ?_
    rintro e v2 ⟨rfl, hb⟩
    have hS2 := (And.intro (keep_cell hb hS.1) (And.intro (keep_cell hb hS.2.1) (And.intro (keep_cell hb hS.2.2.1) (And.intro (keep_cell hb hS.2.2.2.1) (And.intro (keep_cell hb hS.2.2.2.2.1) (And.intro (keep_cell hb hS.2.2.2.2.2.1) (Below.after hS.2.2.2.2.2.2 hb)))))))
    clear hS
    refine hK.out _ _ hS2 (fun hS => ?_)
    clear hS2 hK K
    try simp only [Act.put, List.setIfInBounds_toArray, List.set_cons_zero, List.set_cons_succ]
    refine wpAnyH_ready (rs := [5]) (by kernel_rfl) (by simp) ?_
    refine AllReadyH.cons (o := ?dqr4q5) ?hir4q5 (fun K hK => ?_) AllReadyH.nil
    case hir4q5 => simp only [List.getElem?_toArray, List.getElem?_cons_succ, List.getElem?_cons_zero]; rfl
    go_simp
    go_at_call 21
    refine (rXY.out _).mono ?_
    rintro e v5 ⟨rfl, hb⟩
    have hS2 := (And.intro (keep_cell hb hS.1) (And.intro (keep_cell hb hS.2.1) (And.intro (keep_cell hb hS.2.2.1) (And.intro (keep_cell hb hS.2.2.2.1) (And.intro (keep_cell hb hS.2.2.2.2.1) (And.intro (keep_cell hb hS.2.2.2.2.2.1) (Below.after hS.2.2.2.2.2.2 hb)))))))
    clear hS
    refine hK.out _ _ hS2 (fun hS => ?_)
    clear hS2 hK K
    try simp only [Act.put, List.setIfInBounds_toArray, List.set_cons_zero, List.set_cons_succ]
    refine wpAnyH_take (i := 6) (oi := ?dqr4q6) (v := ?dvr4q6) ?hir4q6 (by kernel_rfl) (by kernel_rfl) (by kernel_rfl) ?hQr4q6 (Or.inl ⟨?hwr4q6, ?hyr4q6⟩) hS ?hrr4q6
    case hir4q6 => simp only [List.getElem?_toArray, List.getElem?_cons_succ, List.getElem?_cons_zero]; rfl
    case hQr4q6 => exact fun _ _ _ h => h
    case hwr4q6 => rfl
    case hyr4q6 => (intro w hSw; (try dsimp only at hSw); go_simp; (try with_reducible rfl))
    simp only [Act.put, List.setIfInBounds_toArray, List.set_cons_zero, List.set_cons_succ]
    refine wpAnyH_take (i := 7) (oi := ?dqr4q7) (v := ?dvr4q7) ?hir4q7 (by kernel_rfl) (by kernel_rfl) (by kernel_rfl) ?hQr4q7 (Or.inl ⟨?hwr4q7, ?hyr4q7⟩) hS ?hrr4q7
    case hir4q7 => simp only [List.getElem?_toArray, List.getElem?_cons_succ, List.getElem?_cons_zero]; rfl
    case hQr4q7 => exact fun _ _ _ h => h
    case hwr4q7 => rfl
    case hyr4q7 => (intro w hSw; (try dsimp only at hSw); go_simp; (try with_reducible rfl))
    simp only [Act.put, List.setIfInBounds_toArray, List.set_cons_zero, List.set_cons_succ]
    refine wpAnyH_take (i := 8) (oi := ?dqr4q8) (v := ?dvr4q8) ?hir4q8 (by kernel_rfl) (by kernel_rfl) (by kernel_rfl) ?hQr4q8 (Or.inl ⟨?hwr4q8, ?hyr4q8⟩) hS ?hrr4q8
    case hir4q8 => simp only [List.getElem?_toArray, List.getElem?_cons_succ, List.getElem?_cons_zero]; rfl
    case hQr4q8 => exact fun _ _ _ h => h
    case hwr4q8 => rfl
    case hyr4q8 => (intro w hSw; (try dsimp only at hSw); go_simp; (try with_reducible rfl))
    simp only [Act.put, List.setIfInBounds_toArray, List.set_cons_zero, List.set_cons_succ]
    refine wpAnyH_take (i := 9) (oi := ?dqr4q9) (v := ?dvr4q9) ?hir4q9 (by kernel_rfl) (by kernel_rfl) (by kernel_rfl) ?hQr4q9 (Or.inl ⟨?hwr4q9, ?hyr4q9⟩) hS ?hrr4q9
    case hir4q9 => simp only [List.getElem?_toArray, List.getElem?_cons_succ, List.getElem?_cons_zero]; rfl
    case hQr4q9 => exact fun _ _ _ h => h
    case hwr4q9 => rfl
    case hyr4q9 => (intro w hSw; (try dsimp only at hSw); go_simp; (try with_reducible rfl))
    simp only [Act.put, List.setIfInBounds_toArray, List.set_cons_zero, List.set_cons_succ]
    refine wpAnyH_take (i := 11) (oi := ?dqr4q11) (v := ?dvr4q11) ?hir4q11 (by kernel_rfl) (by kernel_rfl) (by kernel_rfl) ?hQr4q11 (Or.inl ⟨?hwr4q11, ?hyr4q11⟩) hS ?hrr4q11
    case hir4q11 => simp only [List.getElem?_toArray, List.getElem?_cons_succ, List.getElem?_cons_zero]; rfl
    case hQr4q11 => exact fun _ _ _ h => h
    case hwr4q11 => rfl
    case hyr4q11 => (intro w hSw; (try dsimp only at hSw); go_simp; (try with_reducible rfl))
    simp only [Act.put, List.setIfInBounds_toArray, List.set_cons_zero, List.set_cons_succ]
    refine wpAnyH_take (i := 12) (oi := ?dqr4q12) (v := ?dvr4q12) ?hir4q12 (by kernel_rfl) (by kernel_rfl) (by kernel_rfl) ?hQr4q12 (Or.inl ⟨?hwr4q12, ?hyr4q12⟩) hS ?hrr4q12
    case hir4q12 => simp only [List.getElem?_toArray, List.getElem?_cons_succ, List.getElem?_cons_zero]; rfl
    case hQr4q12 => exact fun _ _ _ h => h
    case hwr4q12 => rfl
    case hyr4q12 => (intro w hSw; (try dsimp only at hSw); go_simp; (try with_reducible rfl))
    simp only [Act.put, List.setIfInBounds_toArray, List.set_cons_zero, List.set_cons_succ]
    refine wpAnyH_ready (rs := [10]) (by kernel_rfl) (by simp) ?_
    refine AllReadyH.cons (o := ?dqr4q10) ?hir4q10 (fun K hK => ?_) AllReadyH.nil
    case hir4q10 => simp only [List.getElem?_toArray, List.getElem?_cons_succ, List.getElem?_cons_zero]; rfl
    go_simp
    go_at_call 20
    refine (cBA.out _ _ _ (B5.out.after hN'.out hS.2.2.2.2.2.2) (A5.out.after hN'.out hS.2.2.2.2.2.2)).mono ?_
    rintro e v10 ⟨rfl, hb⟩
    have hS2 := (And.intro (keep_cell hb hS.1) (And.intro (keep_cell hb hS.2.1) (And.intro (keep_cell hb hS.2.2.1) (And.intro (keep_cell hb hS.2.2.2.1) (And.intro (keep_cell hb hS.2.2.2.2.1) (And.intro (keep_cell hb hS.2.2.2.2.2.1) (Below.after hS.2.2.2.2.2.2 hb)))))))
    clear hS
    refine hK.out _ _ hS2 (fun hS => ?_)
    clear hS2 hK K
    try simp only [Act.put, List.setIfInBounds_toArray, List.set_cons_zero, List.set_cons_succ]
    refine wpAnyH_ready (rs := [13]) (by kernel_rfl) (by simp) ?_
    refine AllReadyH.cons (o := ?dqr4q13) ?hir4q13 (fun K hK => ?_) AllReadyH.nil
    case hir4q13 => simp only [List.getElem?_toArray, List.getElem?_cons_succ, List.getElem?_cons_zero]; rfl
    go_simp
    go_at_call 21
    refine (rYX.out _).mono ?_
    rintro e v13 ⟨rfl, hb⟩
    have hS2 := (And.intro (keep_cell hb hS.1) (And.intro (keep_cell hb hS.2.1) (And.intro (keep_cell hb hS.2.2.1) (And.intro (keep_cell hb hS.2.2.2.1) (And.intro (keep_cell hb hS.2.2.2.2.1) (And.intro (keep_cell hb hS.2.2.2.2.2.1) (Below.after hS.2.2.2.2.2.2 hb)))))))
    clear hS
    refine hK.out _ _ hS2 (fun hS => ?_)
    clear hS2 hK K
    try simp only [Act.put, List.setIfInBounds_toArray, List.set_cons_zero, List.set_cons_succ]
    refine wpAnyH_take (i := 14) (oi := ?dqr4q14) (v := ?dvr4q14) ?hir4q14 (by kernel_rfl) (by kernel_rfl) (by kernel_rfl) ?hQr4q14 (Or.inl ⟨?hwr4q14, ?hyr4q14⟩) hS ?hrr4q14
    case hir4q14 => simp only [List.getElem?_toArray, List.getElem?_cons_succ, List.getElem?_cons_zero]; rfl
    case hQr4q14 => exact fun _ _ _ h => h
    case hwr4q14 => rfl
    case hyr4q14 => (intro w hSw; (try dsimp only at hSw); go_simp; (try with_reducible rfl))
    simp only [Act.put, List.setIfInBounds_toArray, List.set_cons_zero, List.set_cons_succ]
    refine wpAnyH_take (i := 15) (oi := ?dqr4q15) (v := ?dvr4q15) ?hir4q15 (by kernel_rfl) (by kernel_rfl) (by kernel_rfl) ?hQr4q15 (Or.inl ⟨?hwr4q15, ?hyr4q15⟩) hS ?hrr4q15
    case hir4q15 => simp only [List.getElem?_toArray, List.getElem?_cons_succ, List.getElem?_cons_zero]; rfl
    case hQr4q15 => exact fun _ _ _ h => h
    case hwr4q15 => rfl
    case hyr4q15 => (intro w hSw; (try dsimp only at hSw); go_simp; (try with_reducible rfl))
    simp only [Act.put, List.setIfInBounds_toArray, List.set_cons_zero, List.set_cons_succ]
    refine wpAnyH_take (i := 16) (oi := ?dqr4q16) (v := ?dvr4q16) ?hir4q16 (by kernel_rfl) (by kernel_rfl) (by kernel_rfl) ?hQr4q16 (Or.inl ⟨?hwr4q16, ?hyr4q16⟩) hS ?hrr4q16
    case hir4q16 => simp only [List.getElem?_toArray, List.getElem?_cons_succ, List.getElem?_cons_zero]; rfl
    case hQr4q16 => exact fun _ _ _ h => h
    case hwr4q16 => rfl
    case hyr4q16 => (intro w hSw; (try dsimp only at hSw); go_simp; (try with_reducible rfl))
    simp only [Act.put, List.setIfInBounds_toArray, List.set_cons_zero, List.set_cons_succ]
    refine wpAnyH_take (i := 17) (oi := ?dqr4q17) (v := ?dvr4q17) ?hir4q17 (by kernel_rfl) (by kernel_rfl) (by kernel_rfl) ?hQr4q17 (Or.inl ⟨?hwr4q17, ?hyr4q17⟩) hS ?hrr4q17
    case hir4q17 => simp only [List.getElem?_toArray, List.getElem?_cons_succ, List.getElem?_cons_zero]; rfl
    case hQr4q17 => exact fun _ _ _ h => h
    case hwr4q17 => rfl
    case hyr4q17 => (intro w hSw; (try dsimp only at hSw); go_simp; (try with_reducible rfl))
    simp only [Act.put, List.setIfInBounds_toArray, List.set_cons_zero, List.set_cons_succ]
    refine wpAnyH_ready (rs := [18]) (by kernel_rfl) (by simp) ?_
    refine AllReadyH.cons (o := ?dqr4q18) ?hir4q18 (fun K hK => ?_) AllReadyH.nil
    case hir4q18 => simp only [List.getElem?_toArray, List.getElem?_cons_succ, List.getElem?_cons_zero]; rfl
    go_simp
    go_at_call 20
    refine (cA0.out _ _ _ (A5.out.after hN'.out hS.2.2.2.2.2.2) rfl).mono ?_
    rintro e v18 ⟨rfl, hb⟩
    have hS2 := (And.intro (keep_cell hb hS.1) (And.intro (keep_cell hb hS.2.1) (And.intro (keep_cell hb hS.2.2.1) (And.intro (keep_cell hb hS.2.2.2.1) (And.intro (keep_cell hb hS.2.2.2.2.1) (And.intro (keep_cell hb hS.2.2.2.2.2.1) (Below.after hS.2.2.2.2.2.2 hb)))))))
    clear hS
    refine hK.out _ _ hS2 (fun hS => ?_)
    clear hS2 hK K
    try simp only [Act.put, List.setIfInBounds_toArray, List.set_cons_zero, List.set_cons_succ]
    refine wpAnyH_take (i := 19) (oi := ?dqr4q19) (v := ?dvr4q19) ?hir4q19 (by kernel_rfl) (by kernel_rfl) (by kernel_rfl) ?hQr4q19 (Or.inl ⟨?hwr4q19, ?hyr4q19⟩) hS ?hrr4q19
    case hir4q19 => simp only [List.getElem?_toArray, List.getElem?_cons_succ, List.getElem?_cons_zero]; rfl
    case hQr4q19 => exact fun _ _ _ h => h
    case hwr4q19 => rfl
    case hyr4q19 => (intro w hSw; (try dsimp only at hSw); go_simp; (try with_reducible rfl))
    simp only [Act.put, List.setIfInBounds_toArray, List.set_cons_zero, List.set_cons_succ]
    refine wpAnyH_take (i := 20) (oi := ?dqr4q20) (v := ?dvr4q20) ?hir4q20 (by kernel_rfl) (by kernel_rfl) (by kernel_rfl) ?hQr4q20 (Or.inl ⟨?hwr4q20, ?hyr4q20⟩) hS ?hrr4q20
    case hir4q20 => simp only [List.getElem?_toArray, List.getElem?_cons_succ, List.getElem?_cons_zero]; rfl
    case hQr4q20 => exact fun _ _ _ h => h
    case hwr4q20 => rfl
    case hyr4q20 => (intro w hSw; (try dsimp only at hSw); go_simp; (try with_reducible rfl))
    simp only [Act.put, List.setIfInBounds_toArray, List.set_cons_zero, List.set_cons_succ]
    refine wpAnyH_take (i := 21) (oi := ?dqr4q21) (v := ?dvr4q21) ?hir4q21 (by kernel_rfl) (by kernel_rfl) (by kernel_rfl) ?hQr4q21 (Or.inl ⟨?hwr4q21, ?hyr4q21⟩) hS ?hrr4q21
    case hir4q21 => simp only [List.getElem?_toArray, List.getElem?_cons_succ, List.getElem?_cons_zero]; rfl
    case hQr4q21 => exact fun _ _ _ h => h
    case hwr4q21 => rfl
    case hyr4q21 => (intro w hSw; (try dsimp only at hSw); go_simp; (try with_reducible rfl))
    simp only [Act.put, List.setIfInBounds_toArray, List.set_cons_zero, List.set_cons_succ]
    refine wpAnyH_ready (rs := [22]) (by kernel_rfl) (by simp) ?_
    refine AllReadyH.cons (o := ?dqr4q22) ?hir4q22 (fun K hK => ?_) AllReadyH.nil
    case hir4q22 => simp only [List.getElem?_toArray, List.getElem?_cons_succ, List.getElem?_cons_zero]; rfl
    go_simp
    go_at_call 20
    refine (c0B.out _ _ _ rfl (B5.out.after hN'.out hS.2.2.2.2.2.2)).mono ?_
    rintro e v22 ⟨rfl, hb⟩
    have hS2 := (And.intro (keep_cell hb hS.1) (And.intro (keep_cell hb hS.2.1) (And.intro (keep_cell hb hS.2.2.1) (And.intro (keep_cell hb hS.2.2.2.1) (And.intro (keep_cell hb hS.2.2.2.2.1) (And.intro (keep_cell hb hS.2.2.2.2.2.1) (Below.after hS.2.2.2.2.2.2 hb)))))))
    clear hS
    refine hK.out _ _ hS2 (fun hS => ?_)
    clear hS2 hK K
    try simp only [Act.put, List.setIfInBounds_toArray, List.set_cons_zero, List.set_cons_succ]
    refine wpAnyH_take (i := 23) (oi := ?dqr4q23) (v := ?dvr4q23) ?hir4q23 (by kernel_rfl) (by kernel_rfl) (by kernel_rfl) ?hQr4q23 (Or.inl ⟨?hwr4q23, ?hyr4q23⟩) hS ?hrr4q23
    case hir4q23 => simp only [List.getElem?_toArray, List.getElem?_cons_succ, List.getElem?_cons_zero]; rfl
    case hQr4q23 => exact fun _ _ _ h => h
    case hwr4q23 => rfl
    case hyr4q23 => (intro w hSw; (try dsimp only at hSw); go_simp; (try with_reducible rfl))
    simp only [Act.put, List.setIfInBounds_toArray, List.set_cons_zero, List.set_cons_succ]
    refine wpAnyH_done (by kernel_rfl) ?_ _
    have hb5 := Lib.hid hS.2.2.2.2.2.2
    have B_5 := Lib.hid (Below.after B_4.out hb5.out)
    have A6 := Lib.hid (A5.out.after hN'.out hb5.out)
    have B6 := Lib.hid (B5.out.after hN'.out hb5.out)
    obtain ⟨f0, f1, f2, g0, g1, g2, -⟩ := hS
    clear hb5 B_4 A5 B5
    go_wp2_with fail
    refine (cAB.out v22 _ _ A6.out B6.out).mono ?_
    rintro e w7 ⟨rfl, hb⟩
    have B_7 := Lib.hid (Below.after B_5.out hb)
    have A7 := Lib.hid (A6.out.after hN'.out hb)
    have B7 := Lib.hid (B6.out.after hN'.out hb)
    clear hb B_5 A6 B6 f0 f1 f2 g0 g1 g2
    go_wp2_with fail
    refine (cAB.out w7 _ _ A7.out B7.out).mono ?_
    rintro e w8 ⟨rfl, hb⟩
    have B_8 := Lib.hid (Below.after B_7.out hb)
    have A8 := Lib.hid (A7.out.after hN'.out hb)
    have B8 := Lib.hid (B7.out.after hN'.out hb)
    clear hb B_7 A7 B7
    go_wp2_with fail
    refine (cBA.out w8 _ _ B8.out A8.out).mono ?_
    rintro e w9 ⟨rfl, hb⟩
    have B_9 := Lib.hid (Below.after B_8.out hb)
    have A9 := Lib.hid (A8.out.after hN'.out hb)
    have B9 := Lib.hid (B8.out.after hN'.out hb)
    clear hb B_8 A8 B8
    go_wp2_with fail
    refine (cA.out w9 B_9.out).mono ?_
    rintro e w10 ⟨rfl, hb⟩
    have B_10 := Lib.hid (Below.after B_9.out hb)
    clear hb
    go_wp2
    go_ret
    exact ⟨rfl, B_10.out⟩
  · skip
    go_upto_region 4 with (fail)
    refine wp_region_held_drew (S := fun W => W.cell? ⟨p1, 0, none⟩ = some (K x.k) ∧ W.cell? ⟨p1, 1, none⟩ = some (K x.v) ∧ W.cell? ⟨p1, 2, none⟩ = some (G64 x.g) ∧ W.cell? ⟨p2, 0, none⟩ = some (K y.k) ∧ W.cell? ⟨p2, 1, none⟩ = some (K y.v) ∧ W.cell? ⟨p2, 2, none⟩ = some (G64 y.g) ∧ Below w3.heap.size w3 W) (by kernel_rfl) ⟨f0, f1, f2, g0, g1, g2, (Below.refl _ w3).drew⟩ (fun hS => ?_)
    refine wpAnyH_take (i := 0) (oi := ?dqr5q0) (v := ?dvr5q0) ?hir5q0 (by kernel_rfl) (by kernel_rfl) (by kernel_rfl) ?hQr5q0 (Or.inl ⟨?hwr5q0, ?hyr5q0⟩) hS ?hrr5q0
    case hir5q0 => simp only [List.getElem?_toArray, List.getElem?_cons_zero]; rfl
    case hQr5q0 => exact fun _ _ _ h => h
    case hwr5q0 => rfl
    case hyr5q0 => (intro w hSw; (try dsimp only at hSw); go_simp; (try with_reducible rfl))
    simp only [Act.put, List.setIfInBounds_toArray, List.set_cons_zero, List.set_cons_succ]
    refine wpAnyH_take (i := 1) (oi := ?dqr5q1) (v := ?dvr5q1) ?hir5q1 (by kernel_rfl) (by kernel_rfl) (by kernel_rfl) ?hQr5q1 (Or.inl ⟨?hwr5q1, ?hyr5q1⟩) hS ?hrr5q1
    case hir5q1 => simp only [List.getElem?_toArray, List.getElem?_cons_succ, List.getElem?_cons_zero]; rfl
    case hQr5q1 => exact fun _ _ _ h => h
    case hwr5q1 => rfl
    case hyr5q1 => (intro w hSw; (try dsimp only at hSw); go_simp; (try with_reducible rfl))
    simp only [Act.put, List.setIfInBounds_toArray, List.set_cons_zero, List.set_cons_succ]
    refine wpAnyH_take (i := 2) (oi := ?dqr5q2) (v := ?dvr5q2) ?hir5q2 (by kernel_rfl) (by kernel_rfl) (by kernel_rfl) ?hQr5q2 (Or.inl ⟨?hwr5q2, ?hyr5q2⟩) hS ?hrr5q2
    case hir5q2 => simp only [List.getElem?_toArray, List.getElem?_cons_succ, List.getElem?_cons_zero]; rfl
    case hQr5q2 => exact fun _ _ _ h => h
    case hwr5q2 => rfl
    case hyr5q2 => (intro w hSw; (try dsimp only at hSw); go_simp; (try with_reducible rfl))
    simp only [Act.put, List.setIfInBounds_toArray, List.set_cons_zero, List.set_cons_succ]
    refine wpAnyH_take (i := 3) (oi := ?dqr5q3) (v := ?dvr5q3) ?hir5q3 (by kernel_rfl) (by kernel_rfl) (by kernel_rfl) ?hQr5q3 (Or.inl ⟨?hwr5q3, ?hyr5q3⟩) hS ?hrr5q3
    case hir5q3 => simp only [List.getElem?_toArray, List.getElem?_cons_succ, List.getElem?_cons_zero]; rfl
    case hQr5q3 => exact fun _ _ _ h => h
    case hwr5q3 => rfl
    case hyr5q3 => (intro w hSw; (try dsimp only at hSw); go_simp; (try with_reducible rfl))
    simp only [Act.put, List.setIfInBounds_toArray, List.set_cons_zero, List.set_cons_succ]
    refine wpAnyH_take (i := 4) (oi := ?dqr5q4) (v := ?dvr5q4) ?hir5q4 (by kernel_rfl) (by kernel_rfl) (by kernel_rfl) ?hQr5q4 (Or.inl ⟨?hwr5q4, ?hyr5q4⟩) hS ?hrr5q4
    case hir5q4 => simp only [List.getElem?_toArray, List.getElem?_cons_succ, List.getElem?_cons_zero]; rfl
    case hQr5q4 => exact fun _ _ _ h => h
    case hwr5q4 => rfl
    case hyr5q4 => (intro w hSw; (try dsimp only at hSw); go_simp; (try with_reducible rfl))
    simp only [Act.put, List.setIfInBounds_toArray, List.set_cons_zero, List.set_cons_succ]
    refine wpAnyH_take (i := 5) (oi := ?dqr5q5) (v := ?dvr5q5) ?hir5q5 (by kernel_rfl) (by kernel_rfl) (by kernel_rfl) ?hQr5q5 (Or.inl ⟨?hwr5q5, ?hyr5q5⟩) hS ?hrr5q5
    case hir5q5 => simp only [List.getElem?_toArray, List.getElem?_cons_succ, List.getElem?_cons_zero]; rfl
    case hQr5q5 => exact fun _ _ _ h => h
    case hwr5q5 => rfl
    case hyr5q5 => (intro w hSw; (try dsimp only at hSw); go_simp; (try with_reducible rfl))
    simp only [Act.put, List.setIfInBounds_toArray, List.set_cons_zero, List.set_cons_succ]
    refine wpAnyH_take (i := 6) (oi := ?dqr5q6) (v := ?dvr5q6) ?hir5q6 (by kernel_rfl) (by kernel_rfl) (by kernel_rfl) ?hQr5q6 (Or.inl ⟨?hwr5q6, ?hyr5q6⟩) hS ?hrr5q6
    case hir5q6 => simp only [List.getElem?_toArray, List.getElem?_cons_succ, List.getElem?_cons_zero]; rfl
    case hQr5q6 => exact fun _ _ _ h => h
    case hwr5q6 => rfl
    case hyr5q6 => (intro w hSw; (try dsimp only at hSw); go_simp; (try with_reducible rfl))
    simp only [Act.put, List.setIfInBounds_toArray, List.set_cons_zero, List.set_cons_succ]
    refine wpAnyH_take (i := 8) (oi := ?dqr5q8) (v := ?dvr5q8) ?hir5q8 (by kernel_rfl) (by kernel_rfl) (by kernel_rfl) ?hQr5q8 (Or.inl ⟨?hwr5q8, ?hyr5q8⟩) hS ?hrr5q8
    case hir5q8 => simp only [List.getElem?_toArray, List.getElem?_cons_succ, List.getElem?_cons_zero]; rfl
    case hQr5q8 => exact fun _ _ _ h => h
    case hwr5q8 => rfl
    case hyr5q8 => (intro w hSw; (try dsimp only at hSw); go_simp; (try with_reducible rfl))
    simp only [Act.put, List.setIfInBounds_toArray, List.set_cons_zero, List.set_cons_succ]
    refine wpAnyH_take (i := 9) (oi := ?dqr5q9) (v := ?dvr5q9) ?hir5q9 (by kernel_rfl) (by kernel_rfl) (by kernel_rfl) ?hQr5q9 (Or.inl ⟨?hwr5q9, ?hyr5q9⟩) hS ?hrr5q9
    case hir5q9 => simp only [List.getElem?_toArray, List.getElem?_cons_succ, List.getElem?_cons_zero]; rfl
    case hQr5q9 => exact fun _ _ _ h => h
    case hwr5q9 => rfl
    case hyr5q9 => (intro w hSw; (try dsimp only at hSw); go_simp; (try with_reducible rfl))
    simp only [Act.put, List.setIfInBounds_toArray, List.set_cons_zero, List.set_cons_succ]
    refine wpAnyH_take (i := 10) (oi := ?dqr5q10) (v := ?dvr5q10) ?hir5q10 (by kernel_rfl) (by kernel_rfl) (by kernel_rfl) ?hQr5q10 (Or.inl ⟨?hwr5q10, ?hyr5q10⟩) hS ?hrr5q10
    case hir5q10 => simp only [List.getElem?_toArray, List.getElem?_cons_succ, List.getElem?_cons_zero]; rfl
    case hQr5q10 => exact fun _ _ _ h => h
    case hwr5q10 => rfl
    case hyr5q10 => (intro w hSw; (try dsimp only at hSw); go_simp; (try with_reducible rfl))
    simp only [Act.put, List.setIfInBounds_toArray, List.set_cons_zero, List.set_cons_succ]
    refine wpAnyH_take (i := 11) (oi := ?dqr5q11) (v := ?dvr5q11) ?hir5q11 (by kernel_rfl) (by kernel_rfl) (by kernel_rfl) ?hQr5q11 (Or.inl ⟨?hwr5q11, ?hyr5q11⟩) hS ?hrr5q11
    case hir5q11 => simp only [List.getElem?_toArray, List.getElem?_cons_succ, List.getElem?_cons_zero]; rfl
    case hQr5q11 => exact fun _ _ _ h => h
    case hwr5q11 => rfl
    case hyr5q11 => (intro w hSw; (try dsimp only at hSw); go_simp; (try with_reducible rfl))
    simp only [Act.put, List.setIfInBounds_toArray, List.set_cons_zero, List.set_cons_succ]
    refine wpAnyH_take (i := 12) (oi := ?dqr5q12) (v := ?dvr5q12) ?hir5q12 (by kernel_rfl) (by kernel_rfl) (by kernel_rfl) ?hQr5q12 (Or.inl ⟨?hwr5q12, ?hyr5q12⟩) hS ?hrr5q12
    case hir5q12 => simp only [List.getElem?_toArray, List.getElem?_cons_succ, List.getElem?_cons_zero]; rfl
    case hQr5q12 => exact fun _ _ _ h => h
    case hwr5q12 => rfl
    case hyr5q12 => (intro w hSw; (try dsimp only at hSw); go_simp; (try with_reducible rfl))
    simp only [Act.put, List.setIfInBounds_toArray, List.set_cons_zero, List.set_cons_succ]
    refine wpAnyH_take (i := 13) (oi := ?dqr5q13) (v := ?dvr5q13) ?hir5q13 (by kernel_rfl) (by kernel_rfl) (by kernel_rfl) ?hQr5q13 (Or.inl ⟨?hwr5q13, ?hyr5q13⟩) hS ?hrr5q13
    case hir5q13 => simp only [List.getElem?_toArray, List.getElem?_cons_succ, List.getElem?_cons_zero]; rfl
    case hQr5q13 => exact fun _ _ _ h => h
    case hwr5q13 => rfl
    case hyr5q13 => (intro w hSw; (try dsimp only at hSw); go_simp; (try with_reducible rfl))
    simp only [Act.put, List.setIfInBounds_toArray, List.set_cons_zero, List.set_cons_succ]
    refine wpAnyH_take (i := 14) (oi := ?dqr5q14) (v := ?dvr5q14) ?hir5q14 (by kernel_rfl) (by kernel_rfl) (by kernel_rfl) ?hQr5q14 (Or.inl ⟨?hwr5q14, ?hyr5q14⟩) hS ?hrr5q14
    case hir5q14 => simp only [List.getElem?_toArray, List.getElem?_cons_succ, List.getElem?_cons_zero]; rfl
    case hQr5q14 => exact fun _ _ _ h => h
    case hwr5q14 => rfl
    case hyr5q14 => (intro w hSw; (try dsimp only at hSw); go_simp; (try with_reducible rfl))
    simp only [Act.put, List.setIfInBounds_toArray, List.set_cons_zero, List.set_cons_succ]
    refine wpAnyH_ready (rs := [7]) (by kernel_rfl) (by simp) ?_
    refine AllReadyH.cons (o := ?dqr5q7) ?hir5q7 (fun K hK => ?_) AllReadyH.nil
    case hir5q7 => simp only [List.getElem?_toArray, List.getElem?_cons_succ, List.getElem?_cons_zero]; rfl
    go_simp
    go_at_call 19
    refine (cN1.out _ _ (P_3.out.after hN'.out hS.2.2.2.2.2.2)).mono ?_
    rintro e u1 ⟨a, rfl, hA, hb⟩
    have A1 := Lib.hid hA
    have P1 := Lib.hid ((P_3.out.after hN'.out hS.2.2.2.2.2.2).after hN'.out hb)
    clear hA
    have hS2 := (And.intro (keep_cell hb hS.1) (And.intro (keep_cell hb hS.2.1) (And.intro (keep_cell hb hS.2.2.1) (And.intro (keep_cell hb hS.2.2.2.1) (And.intro (keep_cell hb hS.2.2.2.2.1) (And.intro (keep_cell hb hS.2.2.2.2.2.1) (Below.after hS.2.2.2.2.2.2 hb)))))))
    clear hS
    refine hK.out _ _ hS2 (fun hS => ?_)
    clear hS2 hK K
    try simp only [Act.put, List.setIfInBounds_toArray, List.set_cons_zero, List.set_cons_succ]
    refine wpAnyH_ready (rs := [15]) (by kernel_rfl) (by simp) ?_
    refine AllReadyH.cons (o := ?dqr5q15) ?hir5q15 (fun K hK => ?_) AllReadyH.nil
    case hir5q15 => simp only [List.getElem?_toArray, List.getElem?_cons_succ, List.getElem?_cons_zero]; rfl
    go_simp
    go_at_call 19
    refine (cN2.out _ _ P1.out).mono ?_
    rintro e u2 ⟨b, rfl, hB, hb⟩
    have B2 := Lib.hid hB
    have A2 := Lib.hid (A1.out.after hN'.out hb)
    clear hB A1 P1
    have hS2 := (And.intro (keep_cell hb hS.1) (And.intro (keep_cell hb hS.2.1) (And.intro (keep_cell hb hS.2.2.1) (And.intro (keep_cell hb hS.2.2.2.1) (And.intro (keep_cell hb hS.2.2.2.2.1) (And.intro (keep_cell hb hS.2.2.2.2.2.1) (Below.after hS.2.2.2.2.2.2 hb)))))))
    clear hS
    refine hK.out _ _ hS2 (fun hS => ?_)
    clear hS2 hK K
    try simp only [Act.put, List.setIfInBounds_toArray, List.set_cons_zero, List.set_cons_succ]
    refine wpAnyH_take (i := 16) (oi := ?dqr5q16) (v := ?dvr5q16) ?hir5q16 (by kernel_rfl) (by kernel_rfl) (by kernel_rfl) ?hQr5q16 (Or.inl ⟨?hwr5q16, ?hyr5q16⟩) hS ?hrr5q16
    case hir5q16 => simp only [List.getElem?_toArray, List.getElem?_cons_succ, List.getElem?_cons_zero]; rfl
    case hQr5q16 => exact fun _ _ _ h => h
    case hwr5q16 => rfl
    case hyr5q16 => (intro w hSw; (try dsimp only at hSw); go_simp; (try with_reducible rfl))
    simp only [Act.put, List.setIfInBounds_toArray, List.set_cons_zero, List.set_cons_succ]
    refine wpAnyH_take (i := 17) (oi := ?dqr5q17) (v := ?dvr5q17) ?hir5q17 (by kernel_rfl) (by kernel_rfl) (by kernel_rfl) ?hQr5q17 (Or.inl ⟨?hwr5q17, ?hyr5q17⟩) hS ?hrr5q17
    case hir5q17 => simp only [List.getElem?_toArray, List.getElem?_cons_succ, List.getElem?_cons_zero]; rfl
    case hQr5q17 => exact fun _ _ _ h => h
    case hwr5q17 => rfl
    case hyr5q17 => (intro w hSw; (try dsimp only at hSw); go_simp; (try with_reducible rfl))
    simp only [Act.put, List.setIfInBounds_toArray, List.set_cons_zero, List.set_cons_succ]
    refine wpAnyH_done (by kernel_rfl) ?_ _
    have hb4 := Lib.hid hS.2.2.2.2.2.2
    have B_4 := Lib.hid (Below.after B_3.out hb4.out)
    obtain ⟨f0, f1, f2, g0, g1, g2, -⟩ := hS
    clear hb4 B_3
    go_wp2_with fail
    obtain ⟨w5, hw5⟩ : ∃ W, u2 = W := ⟨_, rfl⟩
    rw [hw5] at A2 B2 B_4 f0 f1 f2 g0 g1 g2 ⊢
    have A5 := A2
    have B5 := B2
    clear hw5 A2 B2
    refine wp_region_held_drew (S := fun W => W.cell? ⟨p1, 0, none⟩ = some (K x.k) ∧ W.cell? ⟨p1, 1, none⟩ = some (K x.v) ∧ W.cell? ⟨p1, 2, none⟩ = some (G64 x.g) ∧ W.cell? ⟨p2, 0, none⟩ = some (K y.k) ∧ W.cell? ⟨p2, 1, none⟩ = some (K y.v) ∧ W.cell? ⟨p2, 2, none⟩ = some (G64 y.g) ∧ Below w5.heap.size w5 W) (by kernel_rfl) ⟨f0, f1, f2, g0, g1, g2, (Below.refl _ w5).drew⟩ (fun hS => ?_)
    refine wpAnyH_take (i := 0) (oi := ?dqr6q0) (v := ?dvr6q0) ?hir6q0 (by kernel_rfl) (by kernel_rfl) (by kernel_rfl) ?hQr6q0 (Or.inl ⟨?hwr6q0, ?hyr6q0⟩) hS ?hrr6q0
    case hir6q0 => simp only [List.getElem?_toArray, List.getElem?_cons_zero]; rfl
    case hQr6q0 => exact fun _ _ _ h => h
    case hwr6q0 => rfl
    case hyr6q0 => (intro w hSw; (try dsimp only at hSw); go_simp; (try with_reducible rfl))
    simp only [Act.put, List.setIfInBounds_toArray, List.set_cons_zero, List.set_cons_succ]
    refine wpAnyH_take (i := 1) (oi := ?dqr6q1) (v := ?dvr6q1) ?hir6q1 (by kernel_rfl) (by kernel_rfl) (by kernel_rfl) ?hQr6q1 (Or.inl ⟨?hwr6q1, ?hyr6q1⟩) hS ?hrr6q1
    case hir6q1 => simp only [List.getElem?_toArray, List.getElem?_cons_succ, List.getElem?_cons_zero]; rfl
    case hQr6q1 => exact fun _ _ _ h => h
    case hwr6q1 => rfl
    case hyr6q1 => (intro w hSw; (try dsimp only at hSw); go_simp; (try with_reducible rfl))
    simp only [Act.put, List.setIfInBounds_toArray, List.set_cons_zero, List.set_cons_succ]
    refine wpAnyH_take (i := 3) (oi := ?dqr6q3) (v := ?dvr6q3) ?hir6q3 (by kernel_rfl) (by kernel_rfl) (by kernel_rfl) ?hQr6q3 (Or.inl ⟨?hwr6q3, ?hyr6q3⟩) hS ?hrr6q3
    case hir6q3 => simp only [List.getElem?_toArray, List.getElem?_cons_succ, List.getElem?_cons_zero]; rfl
    case hQr6q3 => exact fun _ _ _ h => h
    case hwr6q3 => rfl
    case hyr6q3 => (intro w hSw; (try dsimp only at hSw); go_simp; (try with_reducible rfl))
    simp only [Act.put, List.setIfInBounds_toArray, List.set_cons_zero, List.set_cons_succ]
    refine wpAnyH_take (i := 4) (oi := ?dqr6q4) (v := ?dvr6q4) ?hir6q4 (by kernel_rfl) (by kernel_rfl) (by kernel_rfl) ?hQr6q4 (Or.inl ⟨?hwr6q4, ?hyr6q4⟩) hS ?hrr6q4
    case hir6q4 => simp only [List.getElem?_toArray, List.getElem?_cons_succ, List.getElem?_cons_zero]; rfl
    case hQr6q4 => exact fun _ _ _ h => h
    case hwr6q4 => rfl
    case hyr6q4 => (intro w hSw; (try dsimp only at hSw); go_simp; (try with_reducible rfl))
    simp only [Act.put, List.setIfInBounds_toArray, List.set_cons_zero, List.set_cons_succ]
    refine wpAnyH_ready (rs := [2]) (by kernel_rfl) (by simp) ?_
    refine AllReadyH.cons (o := ?dqr6q2) ?hir6q2 (fun K hK => ?_) AllReadyH.nil
    case hir6q2 => simp only [List.getElem?_toArray, List.getElem?_cons_succ, List.getElem?_cons_zero]; rfl
    go_simp
    go_at_call 20
    refine (cAB.out _ _ _ (A5.out.after hN'.out hS.2.2.2.2.2.2) (B5.out.after hN'.out hS.2.2.2.2.2.2)).mono ?_
    rintro e v2 ⟨rfl, hb⟩
    have hS2 := (And.intro (keep_cell hb hS.1) (And.intro (keep_cell hb hS.2.1) (And.intro (keep_cell hb hS.2.2.1) (And.intro (keep_cell hb hS.2.2.2.1) (And.intro (keep_cell hb hS.2.2.2.2.1) (And.intro (keep_cell hb hS.2.2.2.2.2.1) (Below.after hS.2.2.2.2.2.2 hb)))))))
    clear hS
    refine hK.out _ _ hS2 (fun hS => ?_)
    clear hS2 hK K
    try simp only [Act.put, List.setIfInBounds_toArray, List.set_cons_zero, List.set_cons_succ]
    refine wpAnyH_ready (rs := [5]) (by kernel_rfl) (by simp) ?_
    refine AllReadyH.cons (o := ?dqr6q5) ?hir6q5 (fun K hK => ?_) AllReadyH.nil
    case hir6q5 => simp only [List.getElem?_toArray, List.getElem?_cons_succ, List.getElem?_cons_zero]; rfl
    go_simp
    go_at_call 21
    refine (rXY.out _).mono ?_
    rintro e v5 ⟨rfl, hb⟩
    have hS2 := (And.intro (keep_cell hb hS.1) (And.intro (keep_cell hb hS.2.1) (And.intro (keep_cell hb hS.2.2.1) (And.intro (keep_cell hb hS.2.2.2.1) (And.intro (keep_cell hb hS.2.2.2.2.1) (And.intro (keep_cell hb hS.2.2.2.2.2.1) (Below.after hS.2.2.2.2.2.2 hb)))))))
    clear hS
    refine hK.out _ _ hS2 (fun hS => ?_)
    clear hS2 hK K
    try simp only [Act.put, List.setIfInBounds_toArray, List.set_cons_zero, List.set_cons_succ]
    refine wpAnyH_take (i := 6) (oi := ?dqr6q6) (v := ?dvr6q6) ?hir6q6 (by kernel_rfl) (by kernel_rfl) (by kernel_rfl) ?hQr6q6 (Or.inl ⟨?hwr6q6, ?hyr6q6⟩) hS ?hrr6q6
    case hir6q6 => simp only [List.getElem?_toArray, List.getElem?_cons_succ, List.getElem?_cons_zero]; rfl
    case hQr6q6 => exact fun _ _ _ h => h
    case hwr6q6 => rfl
    case hyr6q6 => (intro w hSw; (try dsimp only at hSw); go_simp; (try with_reducible rfl))
    simp only [Act.put, List.setIfInBounds_toArray, List.set_cons_zero, List.set_cons_succ]
    refine wpAnyH_take (i := 7) (oi := ?dqr6q7) (v := ?dvr6q7) ?hir6q7 (by kernel_rfl) (by kernel_rfl) (by kernel_rfl) ?hQr6q7 (Or.inl ⟨?hwr6q7, ?hyr6q7⟩) hS ?hrr6q7
    case hir6q7 => simp only [List.getElem?_toArray, List.getElem?_cons_succ, List.getElem?_cons_zero]; rfl
    case hQr6q7 => exact fun _ _ _ h => h
    case hwr6q7 => rfl
    case hyr6q7 => (intro w hSw; (try dsimp only at hSw); go_simp; (try with_reducible rfl))
    simp only [Act.put, List.setIfInBounds_toArray, List.set_cons_zero, List.set_cons_succ]
    refine wpAnyH_take (i := 8) (oi := ?dqr6q8) (v := ?dvr6q8) ?hir6q8 (by kernel_rfl) (by kernel_rfl) (by kernel_rfl) ?hQr6q8 (Or.inl ⟨?hwr6q8, ?hyr6q8⟩) hS ?hrr6q8
    case hir6q8 => simp only [List.getElem?_toArray, List.getElem?_cons_succ, List.getElem?_cons_zero]; rfl
    case hQr6q8 => exact fun _ _ _ h => h
    case hwr6q8 => rfl
    case hyr6q8 => (intro w hSw; (try dsimp only at hSw); go_simp; (try with_reducible rfl))
    simp only [Act.put, List.setIfInBounds_toArray, List.set_cons_zero, List.set_cons_succ]
    refine wpAnyH_take (i := 9) (oi := ?dqr6q9) (v := ?dvr6q9) ?hir6q9 (by kernel_rfl) (by kernel_rfl) (by kernel_rfl) ?hQr6q9 (Or.inl ⟨?hwr6q9, ?hyr6q9⟩) hS ?hrr6q9
    case hir6q9 => simp only [List.getElem?_toArray, List.getElem?_cons_succ, List.getElem?_cons_zero]; rfl
    case hQr6q9 => exact fun _ _ _ h => h
    case hwr6q9 => rfl
    case hyr6q9 => (intro w hSw; (try dsimp only at hSw); go_simp; (try with_reducible rfl))
    simp only [Act.put, List.setIfInBounds_toArray, List.set_cons_zero, List.set_cons_succ]
    refine wpAnyH_take (i := 11) (oi := ?dqr6q11) (v := ?dvr6q11) ?hir6q11 (by kernel_rfl) (by kernel_rfl) (by kernel_rfl) ?hQr6q11 (Or.inl ⟨?hwr6q11, ?hyr6q11⟩) hS ?hrr6q11
    case hir6q11 => simp only [List.getElem?_toArray, List.getElem?_cons_succ, List.getElem?_cons_zero]; rfl
    case hQr6q11 => exact fun _ _ _ h => h
    case hwr6q11 => rfl
    case hyr6q11 => (intro w hSw; (try dsimp only at hSw); go_simp; (try with_reducible rfl))
    simp only [Act.put, List.setIfInBounds_toArray, List.set_cons_zero, List.set_cons_succ]
    refine wpAnyH_take (i := 12) (oi := ?dqr6q12) (v := ?dvr6q12) ?hir6q12 (by kernel_rfl) (by kernel_rfl) (by kernel_rfl) ?hQr6q12 (Or.inl ⟨?hwr6q12, ?hyr6q12⟩) hS ?hrr6q12
    case hir6q12 => simp only [List.getElem?_toArray, List.getElem?_cons_succ, List.getElem?_cons_zero]; rfl
    case hQr6q12 => exact fun _ _ _ h => h
    case hwr6q12 => rfl
    case hyr6q12 => (intro w hSw; (try dsimp only at hSw); go_simp; (try with_reducible rfl))
    simp only [Act.put, List.setIfInBounds_toArray, List.set_cons_zero, List.set_cons_succ]
    refine wpAnyH_ready (rs := [10]) (by kernel_rfl) (by simp) ?_
    refine AllReadyH.cons (o := ?dqr6q10) ?hir6q10 (fun K hK => ?_) AllReadyH.nil
    case hir6q10 => simp only [List.getElem?_toArray, List.getElem?_cons_succ, List.getElem?_cons_zero]; rfl
    go_simp
    go_at_call 20
    refine (cBA.out _ _ _ (B5.out.after hN'.out hS.2.2.2.2.2.2) (A5.out.after hN'.out hS.2.2.2.2.2.2)).mono ?_
    rintro e v10 ⟨rfl, hb⟩
    have hS2 := (And.intro (keep_cell hb hS.1) (And.intro (keep_cell hb hS.2.1) (And.intro (keep_cell hb hS.2.2.1) (And.intro (keep_cell hb hS.2.2.2.1) (And.intro (keep_cell hb hS.2.2.2.2.1) (And.intro (keep_cell hb hS.2.2.2.2.2.1) (Below.after hS.2.2.2.2.2.2 hb)))))))
    clear hS
    refine hK.out _ _ hS2 (fun hS => ?_)
    clear hS2 hK K
    try simp only [Act.put, List.setIfInBounds_toArray, List.set_cons_zero, List.set_cons_succ]
    refine wpAnyH_ready (rs := [13]) (by kernel_rfl) (by simp) ?_
    refine AllReadyH.cons (o := ?dqr6q13) ?hir6q13 (fun K hK => ?_) AllReadyH.nil
    case hir6q13 => simp only [List.getElem?_toArray, List.getElem?_cons_succ, List.getElem?_cons_zero]; rfl
    go_simp
    go_at_call 21
    refine (rYX.out _).mono ?_
    rintro e v13 ⟨rfl, hb⟩
    have hS2 := (And.intro (keep_cell hb hS.1) (And.intro (keep_cell hb hS.2.1) (And.intro (keep_cell hb hS.2.2.1) (And.intro (keep_cell hb hS.2.2.2.1) (And.intro (keep_cell hb hS.2.2.2.2.1) (And.intro (keep_cell hb hS.2.2.2.2.2.1) (Below.after hS.2.2.2.2.2.2 hb)))))))
    clear hS
    refine hK.out _ _ hS2 (fun hS => ?_)
    clear hS2 hK K
    try simp only [Act.put, List.setIfInBounds_toArray, List.set_cons_zero, List.set_cons_succ]
    refine wpAnyH_take (i := 14) (oi := ?dqr6q14) (v := ?dvr6q14) ?hir6q14 (by kernel_rfl) (by kernel_rfl) (by kernel_rfl) ?hQr6q14 (Or.inl ⟨?hwr6q14, ?hyr6q14⟩) hS ?hrr6q14
    case hir6q14 => simp only [List.getElem?_toArray, List.getElem?_cons_succ, List.getElem?_cons_zero]; rfl
    case hQr6q14 => exact fun _ _ _ h => h
    case hwr6q14 => rfl
    case hyr6q14 => (intro w hSw; (try dsimp only at hSw); go_simp; (try with_reducible rfl))
    simp only [Act.put, List.setIfInBounds_toArray, List.set_cons_zero, List.set_cons_succ]
    refine wpAnyH_take (i := 15) (oi := ?dqr6q15) (v := ?dvr6q15) ?hir6q15 (by kernel_rfl) (by kernel_rfl) (by kernel_rfl) ?hQr6q15 (Or.inl ⟨?hwr6q15, ?hyr6q15⟩) hS ?hrr6q15
    case hir6q15 => simp only [List.getElem?_toArray, List.getElem?_cons_succ, List.getElem?_cons_zero]; rfl
    case hQr6q15 => exact fun _ _ _ h => h
    case hwr6q15 => rfl
    case hyr6q15 => (intro w hSw; (try dsimp only at hSw); go_simp; (try with_reducible rfl))
    simp only [Act.put, List.setIfInBounds_toArray, List.set_cons_zero, List.set_cons_succ]
    refine wpAnyH_take (i := 16) (oi := ?dqr6q16) (v := ?dvr6q16) ?hir6q16 (by kernel_rfl) (by kernel_rfl) (by kernel_rfl) ?hQr6q16 (Or.inl ⟨?hwr6q16, ?hyr6q16⟩) hS ?hrr6q16
    case hir6q16 => simp only [List.getElem?_toArray, List.getElem?_cons_succ, List.getElem?_cons_zero]; rfl
    case hQr6q16 => exact fun _ _ _ h => h
    case hwr6q16 => rfl
    case hyr6q16 => (intro w hSw; (try dsimp only at hSw); go_simp; (try with_reducible rfl))
    simp only [Act.put, List.setIfInBounds_toArray, List.set_cons_zero, List.set_cons_succ]
    refine wpAnyH_take (i := 17) (oi := ?dqr6q17) (v := ?dvr6q17) ?hir6q17 (by kernel_rfl) (by kernel_rfl) (by kernel_rfl) ?hQr6q17 (Or.inl ⟨?hwr6q17, ?hyr6q17⟩) hS ?hrr6q17
    case hir6q17 => simp only [List.getElem?_toArray, List.getElem?_cons_succ, List.getElem?_cons_zero]; rfl
    case hQr6q17 => exact fun _ _ _ h => h
    case hwr6q17 => rfl
    case hyr6q17 => (intro w hSw; (try dsimp only at hSw); go_simp; (try with_reducible rfl))
    simp only [Act.put, List.setIfInBounds_toArray, List.set_cons_zero, List.set_cons_succ]
    refine wpAnyH_ready (rs := [18]) (by kernel_rfl) (by simp) ?_
    refine AllReadyH.cons (o := ?dqr6q18) ?hir6q18 (fun K hK => ?_) AllReadyH.nil
    case hir6q18 => simp only [List.getElem?_toArray, List.getElem?_cons_succ, List.getElem?_cons_zero]; rfl
    go_simp
    go_at_call 20
    refine (cA0.out _ _ _ (A5.out.after hN'.out hS.2.2.2.2.2.2) rfl).mono ?_
    rintro e v18 ⟨rfl, hb⟩
    have hS2 := (And.intro (keep_cell hb hS.1) (And.intro (keep_cell hb hS.2.1) (And.intro (keep_cell hb hS.2.2.1) (And.intro (keep_cell hb hS.2.2.2.1) (And.intro (keep_cell hb hS.2.2.2.2.1) (And.intro (keep_cell hb hS.2.2.2.2.2.1) (Below.after hS.2.2.2.2.2.2 hb)))))))
    clear hS
    refine hK.out _ _ hS2 (fun hS => ?_)
    clear hS2 hK K
    try simp only [Act.put, List.setIfInBounds_toArray, List.set_cons_zero, List.set_cons_succ]
    refine wpAnyH_take (i := 19) (oi := ?dqr6q19) (v := ?dvr6q19) ?hir6q19 (by kernel_rfl) (by kernel_rfl) (by kernel_rfl) ?hQr6q19 (Or.inl ⟨?hwr6q19, ?hyr6q19⟩) hS ?hrr6q19
    case hir6q19 => simp only [List.getElem?_toArray, List.getElem?_cons_succ, List.getElem?_cons_zero]; rfl
    case hQr6q19 => exact fun _ _ _ h => h
    case hwr6q19 => rfl
    case hyr6q19 => (intro w hSw; (try dsimp only at hSw); go_simp; (try with_reducible rfl))
    simp only [Act.put, List.setIfInBounds_toArray, List.set_cons_zero, List.set_cons_succ]
    refine wpAnyH_take (i := 20) (oi := ?dqr6q20) (v := ?dvr6q20) ?hir6q20 (by kernel_rfl) (by kernel_rfl) (by kernel_rfl) ?hQr6q20 (Or.inl ⟨?hwr6q20, ?hyr6q20⟩) hS ?hrr6q20
    case hir6q20 => simp only [List.getElem?_toArray, List.getElem?_cons_succ, List.getElem?_cons_zero]; rfl
    case hQr6q20 => exact fun _ _ _ h => h
    case hwr6q20 => rfl
    case hyr6q20 => (intro w hSw; (try dsimp only at hSw); go_simp; (try with_reducible rfl))
    simp only [Act.put, List.setIfInBounds_toArray, List.set_cons_zero, List.set_cons_succ]
    refine wpAnyH_take (i := 21) (oi := ?dqr6q21) (v := ?dvr6q21) ?hir6q21 (by kernel_rfl) (by kernel_rfl) (by kernel_rfl) ?hQr6q21 (Or.inl ⟨?hwr6q21, ?hyr6q21⟩) hS ?hrr6q21
    case hir6q21 => simp only [List.getElem?_toArray, List.getElem?_cons_succ, List.getElem?_cons_zero]; rfl
    case hQr6q21 => exact fun _ _ _ h => h
    case hwr6q21 => rfl
    case hyr6q21 => (intro w hSw; (try dsimp only at hSw); go_simp; (try with_reducible rfl))
    simp only [Act.put, List.setIfInBounds_toArray, List.set_cons_zero, List.set_cons_succ]
    refine wpAnyH_ready (rs := [22]) (by kernel_rfl) (by simp) ?_
    refine AllReadyH.cons (o := ?dqr6q22) ?hir6q22 (fun K hK => ?_) AllReadyH.nil
    case hir6q22 => simp only [List.getElem?_toArray, List.getElem?_cons_succ, List.getElem?_cons_zero]; rfl
    go_simp
    go_at_call 20
    refine (c0B.out _ _ _ rfl (B5.out.after hN'.out hS.2.2.2.2.2.2)).mono ?_
    rintro e v22 ⟨rfl, hb⟩
    have hS2 := (And.intro (keep_cell hb hS.1) (And.intro (keep_cell hb hS.2.1) (And.intro (keep_cell hb hS.2.2.1) (And.intro (keep_cell hb hS.2.2.2.1) (And.intro (keep_cell hb hS.2.2.2.2.1) (And.intro (keep_cell hb hS.2.2.2.2.2.1) (Below.after hS.2.2.2.2.2.2 hb)))))))
    clear hS
    refine hK.out _ _ hS2 (fun hS => ?_)
    clear hS2 hK K
    try simp only [Act.put, List.setIfInBounds_toArray, List.set_cons_zero, List.set_cons_succ]
    refine wpAnyH_take (i := 23) (oi := ?dqr6q23) (v := ?dvr6q23) ?hir6q23 (by kernel_rfl) (by kernel_rfl) (by kernel_rfl) ?hQr6q23 (Or.inl ⟨?hwr6q23, ?hyr6q23⟩) hS ?hrr6q23
    case hir6q23 => simp only [List.getElem?_toArray, List.getElem?_cons_succ, List.getElem?_cons_zero]; rfl
    case hQr6q23 => exact fun _ _ _ h => h
    case hwr6q23 => rfl
    case hyr6q23 => (intro w hSw; (try dsimp only at hSw); go_simp; (try with_reducible rfl))
    simp only [Act.put, List.setIfInBounds_toArray, List.set_cons_zero, List.set_cons_succ]
    refine wpAnyH_done (by kernel_rfl) ?_ _
    have hb5 := Lib.hid hS.2.2.2.2.2.2
    have B_5 := Lib.hid (Below.after B_4.out hb5.out)
    have A6 := Lib.hid (A5.out.after hN'.out hb5.out)
    have B6 := Lib.hid (B5.out.after hN'.out hb5.out)
    obtain ⟨f0, f1, f2, g0, g1, g2, -⟩ := hS
    clear hb5 B_4 A5 B5
    go_wp2_with fail
    refine (cAB.out v22 _ _ A6.out B6.out).mono ?_
    rintro e w7 ⟨rfl, hb⟩
    have B_7 := Lib.hid (Below.after B_5.out hb)
    have A7 := Lib.hid (A6.out.after hN'.out hb)
    have B7 := Lib.hid (B6.out.after hN'.out hb)
    clear hb B_5 A6 B6 f0 f1 f2 g0 g1 g2
    go_wp2_with fail
    refine (cAB.out w7 _ _ A7.out B7.out).mono ?_
    rintro e w8 ⟨rfl, hb⟩
    have B_8 := Lib.hid (Below.after B_7.out hb)
    have A8 := Lib.hid (A7.out.after hN'.out hb)
    have B8 := Lib.hid (B7.out.after hN'.out hb)
    clear hb B_7 A7 B7
    go_wp2_with fail
    refine (cBA.out w8 _ _ B8.out A8.out).mono ?_
    rintro e w9 ⟨rfl, hb⟩
    have B_9 := Lib.hid (Below.after B_8.out hb)
    have A9 := Lib.hid (A8.out.after hN'.out hb)
    have B9 := Lib.hid (B8.out.after hN'.out hb)
    clear hb B_8 A8 B8
    go_wp2_with fail
    refine (cA.out w9 B_9.out).mono ?_
    rintro e w10 ⟨rfl, hb⟩
    have B_10 := Lib.hid (Below.after B_9.out hb)
    clear hb
    go_wp2
    go_ret
    exact ⟨rfl, B_10.out⟩
set_option maxHeartbeats 8000000 in
theorem treapAbove_lt (hN : NodeSays Nd) (hS : TreapSays Nd T) (x y : It) (A : Option Addr) (n c : Nat) (l : List Bd) (t : Tr) (w : World) (hT : T w) (h : LongAt w A n c false) (ht : TreeIn w A n c l t) (g1 : x.rk < y.rk) : Calls Tryd.prog 4 #[itV x, itV y, .slice A n c] w fun e w' => e = .returned (.bool true) ∧ Below w.heap.size w w' := by
  have cA : Hid (∀ W, Below w.heap.size w W → Calls Tryd.prog 8 #[] W fun e w' => e = .returned (.bool true) ∧ Below W.heap.size W w') := fun W hb => alive20_any hN hS W (hS.now w W hT hb)
  have c0 := Lib.hid h
  have cM := Lib.hid (ht.make hN)
  have hab : aboveI x y = false := decide_eq_false (by omega)
  have hba : aboveI y x = true := decide_eq_true (by omega)
  obtain ⟨ta, hta⟩ : ∃ u, Tr.n t x.k x.v x.g .e = u := ⟨_, rfl⟩
  obtain ⟨tb, htb⟩ : ∃ u, Tr.n .e y.k y.v y.g t = u := ⟨_, rfl⟩
  have cN1 : Hid (∀ W p, TreeAt Nd W W.heap.size t p → Calls Tryd.prog 19 #[.pointer p, K x.k, K x.v, G64 x.g, .pointer none] W fun e w' => ∃ a, e = .returned (.pointer (some a)) ∧ TreeAt Nd w' w'.heap.size ta (some a) ∧ Below W.heap.size W w') := fun W p h => (new9 hN W p none t .e x.k x.v x.g h rfl).mono fun e w' ⟨a, k1, _, _, k4, k5⟩ => ⟨a, k1, hta ▸ k4, k5⟩
  have cN2 : Hid (∀ W p, TreeAt Nd W W.heap.size t p → Calls Tryd.prog 19 #[.pointer none, K y.k, K y.v, G64 y.g, .pointer p] W fun e w' => ∃ a, e = .returned (.pointer (some a)) ∧ TreeAt Nd w' w'.heap.size tb (some a) ∧ Below W.heap.size W w') := fun W p h => (new9 hN W none p .e t y.k y.v y.g rfl h).mono fun e w' ⟨a, k1, _, _, k4, k5⟩ => ⟨a, k1, htb ▸ k4, k5⟩
  have cAB : Hid (∀ W p q, TreeAt Nd W W.heap.size ta p → TreeAt Nd W W.heap.size tb q → Calls Tryd.prog 20 #[.pointer p, .pointer q] W fun e w' => e = .returned (.bool false) ∧ Below W.heap.size W w') := fun W p q h1 h2 => by
    have := hS.above W ta tb p q h1 h2
    rw [show aboveT ta tb = false from by rw [← hta, ← htb]; exact hab] at this
    exact this
  have cBA : Hid (∀ W p q, TreeAt Nd W W.heap.size tb p → TreeAt Nd W W.heap.size ta q → Calls Tryd.prog 20 #[.pointer p, .pointer q] W fun e w' => e = .returned (.bool true) ∧ Below W.heap.size W w') := fun W p q h1 h2 => by
    have := hS.above W tb ta p q h1 h2
    rw [show aboveT tb ta = true from by rw [← hta, ← htb]; exact hba] at this
    exact this
  have cA0 : Hid (∀ W p q, TreeAt Nd W W.heap.size ta p → TreeAt Nd W W.heap.size .e q → Calls Tryd.prog 20 #[.pointer p, .pointer q] W fun e w' => e = .returned (.bool false) ∧ Below W.heap.size W w') := fun W p q h1 h2 => by
    have := hS.above W ta .e p q h1 h2
    rw [show aboveT ta .e = false from by rw [← hta]; rfl] at this
    exact this
  have c0B : Hid (∀ W p q, TreeAt Nd W W.heap.size .e p → TreeAt Nd W W.heap.size tb q → Calls Tryd.prog 20 #[.pointer p, .pointer q] W fun e w' => e = .returned (.bool false) ∧ Below W.heap.size W w') := fun W p q h1 h2 => by
    have := hS.above W .e tb p q h1 h2
    rw [show aboveT .e tb = false from rfl] at this
    exact this
  have rXY : Hid (∀ W, Calls Tryd.prog 21 #[itV x, itV y] W fun e w' => e = .returned (.bool false) ∧ Below W.heap.size W w') := fun W => hab ▸ refAbove20 x y W
  have rYX : Hid (∀ W, Calls Tryd.prog 21 #[itV y, itV x] W fun e w' => e = .returned (.bool true) ∧ Below W.heap.size W w') := fun W => hba ▸ refAbove20 y x W
  have heq := rk_eq x y
  have t1 := toNat_beq x.g y.g
  have t2 := toInt_beq x.k y.k
  have hN' := Lib.hid hN
  have g1' := Lib.hid g1
  have heq' := Lib.hid heq
  clear hta htb hab hba hN hS hT h ht g1 heq
  go_enter Tryd.func4, Tryd.ntmps4
  go_upto_region 1 with (fail)
  obtain ⟨w1, hw1⟩ : ∃ W, w.alloc (.cells #[K x.k, K x.v, G64 x.g] 38) = W := ⟨_, rfl⟩
  have hx1 := hw1 ▸ Has.new w 38 #[K x.k, K x.v, G64 x.g]
  have bx1 : Below w.heap.size w w1 := hw1 ▸ (Below.refl _ _).alloc (Nat.le_refl _) _
  obtain ⟨p1, hp1⟩ : ∃ p, w.heap.size = p := ⟨_, rfl⟩
  obtain ⟨w2, hw2⟩ : ∃ W, w1.alloc (.cells #[K y.k, K y.v, G64 y.g] 38) = W := ⟨_, rfl⟩
  have hx2 := hw2 ▸ Has.new w1 38 #[K y.k, K y.v, G64 y.g]
  have bx2 : Below w1.heap.size w1 w2 := hw2 ▸ (Below.refl _ _).alloc (Nat.le_refl _) _
  have hs1 : w1.heap.size = p1 + 1 := by rw [← hw1, World.size_alloc, hp1]
  have hx1 := hx1.next bx2
  have B_2 := Lib.hid (Below.after bx1 bx2)
  rw [show w.alloc (.cells #[.int .i64 x.k.toInt, .int .i64 x.v.toInt, .int .u64 (x.g.toNat : Int)] 38) = w1 from hw1, show w1.alloc (.cells #[.int .i64 y.k.toInt, .int .i64 y.v.toInt, .int .u64 (y.g.toNat : Int)] 38) = w2 from hw2]
  clear hw1 hw2 bx1 bx2
  rw [hs1] at hx2
  rw [hp1]
  obtain ⟨p2, hp2⟩ : ∃ p, p1 + 1 = p := ⟨_, rfl⟩
  rw [hp2] at hx2 ⊢
  rw [hp1] at hx1
  have hx1' := Lib.hid hx1
  have hx2' := Lib.hid hx2
  clear hx1 hx2 hs1 hp1 hp2
  go_wp2_with fail
  refine (c0.out w2 B_2.out).mono ?_
  rintro e w' ⟨rfl, rfl⟩
  go_wp2_with fail
  refine (cM.out w2 B_2.out).mono ?_
  rintro e w3 ⟨p, rfl, hP, hb⟩
  have B_3 := Lib.hid (Below.after B_2.out hb)
  have P_3 := Lib.hid hP
  obtain ⟨f0, f1, f2⟩ := three (hx1'.out.next hb)
  obtain ⟨g0, g1, g2⟩ := three (hx2'.out.next hb)
  clear hb hP hx1' hx2' B_2
  have hne : ¬ (x.g = y.g ∧ x.k = y.k) := fun h => by have := heq'.out.2 h; have := g1'.out; omega
  obtain ⟨b1, hb1⟩ : ∃ b, decide (x.g = y.g) = b := ⟨_, rfl⟩
  obtain ⟨b2, hb2⟩ : ∃ b, decide (x.k = y.k) = b := ⟨_, rfl⟩
  rw [hb1] at t1
  rw [hb2] at t2
  have hbb : b1 = false ∨ (b1 = true ∧ b2 = false) := by
    cases b1 with
    | false => exact .inl rfl
    | true =>
      cases b2 with
      | false => exact .inr ⟨rfl, rfl⟩
      | true => exact absurd ⟨of_decide_eq_true hb1, of_decide_eq_true hb2⟩ hne
  clear g1' heq' hne hb1 hb2
  rcases hbb with rfl | ⟨rfl, rfl⟩
  · skip
    go_upto_region 4 with (fail)
    refine wp_region_held_drew (S := fun W => W.cell? ⟨p1, 0, none⟩ = some (K x.k) ∧ W.cell? ⟨p1, 1, none⟩ = some (K x.v) ∧ W.cell? ⟨p1, 2, none⟩ = some (G64 x.g) ∧ W.cell? ⟨p2, 0, none⟩ = some (K y.k) ∧ W.cell? ⟨p2, 1, none⟩ = some (K y.v) ∧ W.cell? ⟨p2, 2, none⟩ = some (G64 y.g) ∧ Below w3.heap.size w3 W) (by kernel_rfl) ⟨f0, f1, f2, g0, g1, g2, (Below.refl _ w3).drew⟩ (fun hS => ?_)
    refine wpAnyH_take (i := 0) (oi := ?dqr9q0) (v := ?dvr9q0) ?hir9q0 (by kernel_rfl) (by kernel_rfl) (by kernel_rfl) ?hQr9q0 (Or.inl ⟨?hwr9q0, ?hyr9q0⟩) hS ?hrr9q0
    case hir9q0 => simp only [List.getElem?_toArray, List.getElem?_cons_zero]; rfl
    case hQr9q0 => exact fun _ _ _ h => h
    case hwr9q0 => rfl
    case hyr9q0 => (intro w hSw; (try dsimp only at hSw); go_simp; (try with_reducible rfl))
    simp only [Act.put, List.setIfInBounds_toArray, List.set_cons_zero, List.set_cons_succ]
    refine wpAnyH_take (i := 1) (oi := ?dqr9q1) (v := ?dvr9q1) ?hir9q1 (by kernel_rfl) (by kernel_rfl) (by kernel_rfl) ?hQr9q1 (Or.inl ⟨?hwr9q1, ?hyr9q1⟩) hS ?hrr9q1
    case hir9q1 => simp only [List.getElem?_toArray, List.getElem?_cons_succ, List.getElem?_cons_zero]; rfl
    case hQr9q1 => exact fun _ _ _ h => h
    case hwr9q1 => rfl
    case hyr9q1 => (intro w hSw; (try dsimp only at hSw); go_simp; (try with_reducible rfl))
    simp only [Act.put, List.setIfInBounds_toArray, List.set_cons_zero, List.set_cons_succ]
    refine wpAnyH_take (i := 2) (oi := ?dqr9q2) (v := ?dvr9q2) ?hir9q2 (by kernel_rfl) (by kernel_rfl) (by kernel_rfl) ?hQr9q2 (Or.inl ⟨?hwr9q2, ?hyr9q2⟩) hS ?hrr9q2
    case hir9q2 => simp only [List.getElem?_toArray, List.getElem?_cons_succ, List.getElem?_cons_zero]; rfl
    case hQr9q2 => exact fun _ _ _ h => h
    case hwr9q2 => rfl
    case hyr9q2 => (intro w hSw; (try dsimp only at hSw); go_simp; (try with_reducible rfl))
    simp only [Act.put, List.setIfInBounds_toArray, List.set_cons_zero, List.set_cons_succ]
    refine wpAnyH_take (i := 3) (oi := ?dqr9q3) (v := ?dvr9q3) ?hir9q3 (by kernel_rfl) (by kernel_rfl) (by kernel_rfl) ?hQr9q3 (Or.inl ⟨?hwr9q3, ?hyr9q3⟩) hS ?hrr9q3
    case hir9q3 => simp only [List.getElem?_toArray, List.getElem?_cons_succ, List.getElem?_cons_zero]; rfl
    case hQr9q3 => exact fun _ _ _ h => h
    case hwr9q3 => rfl
    case hyr9q3 => (intro w hSw; (try dsimp only at hSw); go_simp; (try with_reducible rfl))
    simp only [Act.put, List.setIfInBounds_toArray, List.set_cons_zero, List.set_cons_succ]
    refine wpAnyH_take (i := 4) (oi := ?dqr9q4) (v := ?dvr9q4) ?hir9q4 (by kernel_rfl) (by kernel_rfl) (by kernel_rfl) ?hQr9q4 (Or.inl ⟨?hwr9q4, ?hyr9q4⟩) hS ?hrr9q4
    case hir9q4 => simp only [List.getElem?_toArray, List.getElem?_cons_succ, List.getElem?_cons_zero]; rfl
    case hQr9q4 => exact fun _ _ _ h => h
    case hwr9q4 => rfl
    case hyr9q4 => (intro w hSw; (try dsimp only at hSw); go_simp; (try with_reducible rfl))
    simp only [Act.put, List.setIfInBounds_toArray, List.set_cons_zero, List.set_cons_succ]
    refine wpAnyH_take (i := 5) (oi := ?dqr9q5) (v := ?dvr9q5) ?hir9q5 (by kernel_rfl) (by kernel_rfl) (by kernel_rfl) ?hQr9q5 (Or.inl ⟨?hwr9q5, ?hyr9q5⟩) hS ?hrr9q5
    case hir9q5 => simp only [List.getElem?_toArray, List.getElem?_cons_succ, List.getElem?_cons_zero]; rfl
    case hQr9q5 => exact fun _ _ _ h => h
    case hwr9q5 => rfl
    case hyr9q5 => (intro w hSw; (try dsimp only at hSw); go_simp; (try with_reducible rfl))
    simp only [Act.put, List.setIfInBounds_toArray, List.set_cons_zero, List.set_cons_succ]
    refine wpAnyH_take (i := 6) (oi := ?dqr9q6) (v := ?dvr9q6) ?hir9q6 (by kernel_rfl) (by kernel_rfl) (by kernel_rfl) ?hQr9q6 (Or.inl ⟨?hwr9q6, ?hyr9q6⟩) hS ?hrr9q6
    case hir9q6 => simp only [List.getElem?_toArray, List.getElem?_cons_succ, List.getElem?_cons_zero]; rfl
    case hQr9q6 => exact fun _ _ _ h => h
    case hwr9q6 => rfl
    case hyr9q6 => (intro w hSw; (try dsimp only at hSw); go_simp; (try with_reducible rfl))
    simp only [Act.put, List.setIfInBounds_toArray, List.set_cons_zero, List.set_cons_succ]
    refine wpAnyH_take (i := 8) (oi := ?dqr9q8) (v := ?dvr9q8) ?hir9q8 (by kernel_rfl) (by kernel_rfl) (by kernel_rfl) ?hQr9q8 (Or.inl ⟨?hwr9q8, ?hyr9q8⟩) hS ?hrr9q8
    case hir9q8 => simp only [List.getElem?_toArray, List.getElem?_cons_succ, List.getElem?_cons_zero]; rfl
    case hQr9q8 => exact fun _ _ _ h => h
    case hwr9q8 => rfl
    case hyr9q8 => (intro w hSw; (try dsimp only at hSw); go_simp; (try with_reducible rfl))
    simp only [Act.put, List.setIfInBounds_toArray, List.set_cons_zero, List.set_cons_succ]
    refine wpAnyH_take (i := 9) (oi := ?dqr9q9) (v := ?dvr9q9) ?hir9q9 (by kernel_rfl) (by kernel_rfl) (by kernel_rfl) ?hQr9q9 (Or.inl ⟨?hwr9q9, ?hyr9q9⟩) hS ?hrr9q9
    case hir9q9 => simp only [List.getElem?_toArray, List.getElem?_cons_succ, List.getElem?_cons_zero]; rfl
    case hQr9q9 => exact fun _ _ _ h => h
    case hwr9q9 => rfl
    case hyr9q9 => (intro w hSw; (try dsimp only at hSw); go_simp; (try with_reducible rfl))
    simp only [Act.put, List.setIfInBounds_toArray, List.set_cons_zero, List.set_cons_succ]
    refine wpAnyH_take (i := 10) (oi := ?dqr9q10) (v := ?dvr9q10) ?hir9q10 (by kernel_rfl) (by kernel_rfl) (by kernel_rfl) ?hQr9q10 (Or.inl ⟨?hwr9q10, ?hyr9q10⟩) hS ?hrr9q10
    case hir9q10 => simp only [List.getElem?_toArray, List.getElem?_cons_succ, List.getElem?_cons_zero]; rfl
    case hQr9q10 => exact fun _ _ _ h => h
    case hwr9q10 => rfl
    case hyr9q10 => (intro w hSw; (try dsimp only at hSw); go_simp; (try with_reducible rfl))
    simp only [Act.put, List.setIfInBounds_toArray, List.set_cons_zero, List.set_cons_succ]
    refine wpAnyH_take (i := 11) (oi := ?dqr9q11) (v := ?dvr9q11) ?hir9q11 (by kernel_rfl) (by kernel_rfl) (by kernel_rfl) ?hQr9q11 (Or.inl ⟨?hwr9q11, ?hyr9q11⟩) hS ?hrr9q11
    case hir9q11 => simp only [List.getElem?_toArray, List.getElem?_cons_succ, List.getElem?_cons_zero]; rfl
    case hQr9q11 => exact fun _ _ _ h => h
    case hwr9q11 => rfl
    case hyr9q11 => (intro w hSw; (try dsimp only at hSw); go_simp; (try with_reducible rfl))
    simp only [Act.put, List.setIfInBounds_toArray, List.set_cons_zero, List.set_cons_succ]
    refine wpAnyH_take (i := 12) (oi := ?dqr9q12) (v := ?dvr9q12) ?hir9q12 (by kernel_rfl) (by kernel_rfl) (by kernel_rfl) ?hQr9q12 (Or.inl ⟨?hwr9q12, ?hyr9q12⟩) hS ?hrr9q12
    case hir9q12 => simp only [List.getElem?_toArray, List.getElem?_cons_succ, List.getElem?_cons_zero]; rfl
    case hQr9q12 => exact fun _ _ _ h => h
    case hwr9q12 => rfl
    case hyr9q12 => (intro w hSw; (try dsimp only at hSw); go_simp; (try with_reducible rfl))
    simp only [Act.put, List.setIfInBounds_toArray, List.set_cons_zero, List.set_cons_succ]
    refine wpAnyH_take (i := 13) (oi := ?dqr9q13) (v := ?dvr9q13) ?hir9q13 (by kernel_rfl) (by kernel_rfl) (by kernel_rfl) ?hQr9q13 (Or.inl ⟨?hwr9q13, ?hyr9q13⟩) hS ?hrr9q13
    case hir9q13 => simp only [List.getElem?_toArray, List.getElem?_cons_succ, List.getElem?_cons_zero]; rfl
    case hQr9q13 => exact fun _ _ _ h => h
    case hwr9q13 => rfl
    case hyr9q13 => (intro w hSw; (try dsimp only at hSw); go_simp; (try with_reducible rfl))
    simp only [Act.put, List.setIfInBounds_toArray, List.set_cons_zero, List.set_cons_succ]
    refine wpAnyH_take (i := 14) (oi := ?dqr9q14) (v := ?dvr9q14) ?hir9q14 (by kernel_rfl) (by kernel_rfl) (by kernel_rfl) ?hQr9q14 (Or.inl ⟨?hwr9q14, ?hyr9q14⟩) hS ?hrr9q14
    case hir9q14 => simp only [List.getElem?_toArray, List.getElem?_cons_succ, List.getElem?_cons_zero]; rfl
    case hQr9q14 => exact fun _ _ _ h => h
    case hwr9q14 => rfl
    case hyr9q14 => (intro w hSw; (try dsimp only at hSw); go_simp; (try with_reducible rfl))
    simp only [Act.put, List.setIfInBounds_toArray, List.set_cons_zero, List.set_cons_succ]
    refine wpAnyH_ready (rs := [7]) (by kernel_rfl) (by simp) ?_
    refine AllReadyH.cons (o := ?dqr9q7) ?hir9q7 (fun K hK => ?_) AllReadyH.nil
    case hir9q7 => simp only [List.getElem?_toArray, List.getElem?_cons_succ, List.getElem?_cons_zero]; rfl
    go_simp
    go_at_call 19
    refine (cN1.out _ _ (P_3.out.after hN'.out hS.2.2.2.2.2.2)).mono ?_
    rintro e u1 ⟨a, rfl, hA, hb⟩
    have A1 := Lib.hid hA
    have P1 := Lib.hid ((P_3.out.after hN'.out hS.2.2.2.2.2.2).after hN'.out hb)
    clear hA
    have hS2 := (And.intro (keep_cell hb hS.1) (And.intro (keep_cell hb hS.2.1) (And.intro (keep_cell hb hS.2.2.1) (And.intro (keep_cell hb hS.2.2.2.1) (And.intro (keep_cell hb hS.2.2.2.2.1) (And.intro (keep_cell hb hS.2.2.2.2.2.1) (Below.after hS.2.2.2.2.2.2 hb)))))))
    clear hS
    refine hK.out _ _ hS2 (fun hS => ?_)
    clear hS2 hK K
    try simp only [Act.put, List.setIfInBounds_toArray, List.set_cons_zero, List.set_cons_succ]
    refine wpAnyH_ready (rs := [15]) (by kernel_rfl) (by simp) ?_
    refine AllReadyH.cons (o := ?dqr9q15) ?hir9q15 (fun K hK => ?_) AllReadyH.nil
    case hir9q15 => simp only [List.getElem?_toArray, List.getElem?_cons_succ, List.getElem?_cons_zero]; rfl
    go_simp
    go_at_call 19
    refine (cN2.out _ _ P1.out).mono ?_
    rintro e u2 ⟨b, rfl, hB, hb⟩
    have B2 := Lib.hid hB
    have A2 := Lib.hid (A1.out.after hN'.out hb)
    clear hB A1 P1
    have hS2 := (And.intro (keep_cell hb hS.1) (And.intro (keep_cell hb hS.2.1) (And.intro (keep_cell hb hS.2.2.1) (And.intro (keep_cell hb hS.2.2.2.1) (And.intro (keep_cell hb hS.2.2.2.2.1) (And.intro (keep_cell hb hS.2.2.2.2.2.1) (Below.after hS.2.2.2.2.2.2 hb)))))))
    clear hS
    refine hK.out _ _ hS2 (fun hS => ?_)
    clear hS2 hK K
    try simp only [Act.put, List.setIfInBounds_toArray, List.set_cons_zero, List.set_cons_succ]
    refine wpAnyH_take (i := 16) (oi := ?dqr9q16) (v := ?dvr9q16) ?hir9q16 (by kernel_rfl) (by kernel_rfl) (by kernel_rfl) ?hQr9q16 (Or.inl ⟨?hwr9q16, ?hyr9q16⟩) hS ?hrr9q16
    case hir9q16 => simp only [List.getElem?_toArray, List.getElem?_cons_succ, List.getElem?_cons_zero]; rfl
    case hQr9q16 => exact fun _ _ _ h => h
    case hwr9q16 => rfl
    case hyr9q16 => (intro w hSw; (try dsimp only at hSw); go_simp; (try with_reducible rfl))
    simp only [Act.put, List.setIfInBounds_toArray, List.set_cons_zero, List.set_cons_succ]
    refine wpAnyH_take (i := 17) (oi := ?dqr9q17) (v := ?dvr9q17) ?hir9q17 (by kernel_rfl) (by kernel_rfl) (by kernel_rfl) ?hQr9q17 (Or.inl ⟨?hwr9q17, ?hyr9q17⟩) hS ?hrr9q17
    case hir9q17 => simp only [List.getElem?_toArray, List.getElem?_cons_succ, List.getElem?_cons_zero]; rfl
    case hQr9q17 => exact fun _ _ _ h => h
    case hwr9q17 => rfl
    case hyr9q17 => (intro w hSw; (try dsimp only at hSw); go_simp; (try with_reducible rfl))
    simp only [Act.put, List.setIfInBounds_toArray, List.set_cons_zero, List.set_cons_succ]
    refine wpAnyH_done (by kernel_rfl) ?_ _
    have hb4 := Lib.hid hS.2.2.2.2.2.2
    have B_4 := Lib.hid (Below.after B_3.out hb4.out)
    obtain ⟨f0, f1, f2, g0, g1, g2, -⟩ := hS
    clear hb4 B_3
    go_wp2_with fail
    obtain ⟨w5, hw5⟩ : ∃ W, u2 = W := ⟨_, rfl⟩
    rw [hw5] at A2 B2 B_4 f0 f1 f2 g0 g1 g2 ⊢
    have A5 := A2
    have B5 := B2
    clear hw5 A2 B2
    refine wp_region_held_drew (S := fun W => W.cell? ⟨p1, 0, none⟩ = some (K x.k) ∧ W.cell? ⟨p1, 1, none⟩ = some (K x.v) ∧ W.cell? ⟨p1, 2, none⟩ = some (G64 x.g) ∧ W.cell? ⟨p2, 0, none⟩ = some (K y.k) ∧ W.cell? ⟨p2, 1, none⟩ = some (K y.v) ∧ W.cell? ⟨p2, 2, none⟩ = some (G64 y.g) ∧ Below w5.heap.size w5 W) (by kernel_rfl) ⟨f0, f1, f2, g0, g1, g2, (Below.refl _ w5).drew⟩ (fun hS => ?_)
    refine wpAnyH_take (i := 0) (oi := ?dqr10q0) (v := ?dvr10q0) ?hir10q0 (by kernel_rfl) (by kernel_rfl) (by kernel_rfl) ?hQr10q0 (Or.inl ⟨?hwr10q0, ?hyr10q0⟩) hS ?hrr10q0
    case hir10q0 => simp only [List.getElem?_toArray, List.getElem?_cons_zero]; rfl
    case hQr10q0 => exact fun _ _ _ h => h
    case hwr10q0 => rfl
    case hyr10q0 => (intro w hSw; (try dsimp only at hSw); go_simp; (try with_reducible rfl))
    simp only [Act.put, List.setIfInBounds_toArray, List.set_cons_zero, List.set_cons_succ]
    refine wpAnyH_take (i := 1) (oi := ?dqr10q1) (v := ?dvr10q1) ?hir10q1 (by kernel_rfl) (by kernel_rfl) (by kernel_rfl) ?hQr10q1 (Or.inl ⟨?hwr10q1, ?hyr10q1⟩) hS ?hrr10q1
    case hir10q1 => simp only [List.getElem?_toArray, List.getElem?_cons_succ, List.getElem?_cons_zero]; rfl
    case hQr10q1 => exact fun _ _ _ h => h
    case hwr10q1 => rfl
    case hyr10q1 => (intro w hSw; (try dsimp only at hSw); go_simp; (try with_reducible rfl))
    simp only [Act.put, List.setIfInBounds_toArray, List.set_cons_zero, List.set_cons_succ]
    refine wpAnyH_take (i := 3) (oi := ?dqr10q3) (v := ?dvr10q3) ?hir10q3 (by kernel_rfl) (by kernel_rfl) (by kernel_rfl) ?hQr10q3 (Or.inl ⟨?hwr10q3, ?hyr10q3⟩) hS ?hrr10q3
    case hir10q3 => simp only [List.getElem?_toArray, List.getElem?_cons_succ, List.getElem?_cons_zero]; rfl
    case hQr10q3 => exact fun _ _ _ h => h
    case hwr10q3 => rfl
    case hyr10q3 => (intro w hSw; (try dsimp only at hSw); go_simp; (try with_reducible rfl))
    simp only [Act.put, List.setIfInBounds_toArray, List.set_cons_zero, List.set_cons_succ]
    refine wpAnyH_take (i := 4) (oi := ?dqr10q4) (v := ?dvr10q4) ?hir10q4 (by kernel_rfl) (by kernel_rfl) (by kernel_rfl) ?hQr10q4 (Or.inl ⟨?hwr10q4, ?hyr10q4⟩) hS ?hrr10q4
    case hir10q4 => simp only [List.getElem?_toArray, List.getElem?_cons_succ, List.getElem?_cons_zero]; rfl
    case hQr10q4 => exact fun _ _ _ h => h
    case hwr10q4 => rfl
    case hyr10q4 => (intro w hSw; (try dsimp only at hSw); go_simp; (try with_reducible rfl))
    simp only [Act.put, List.setIfInBounds_toArray, List.set_cons_zero, List.set_cons_succ]
    refine wpAnyH_ready (rs := [2]) (by kernel_rfl) (by simp) ?_
    refine AllReadyH.cons (o := ?dqr10q2) ?hir10q2 (fun K hK => ?_) AllReadyH.nil
    case hir10q2 => simp only [List.getElem?_toArray, List.getElem?_cons_succ, List.getElem?_cons_zero]; rfl
    go_simp
    go_at_call 20
    refine (cAB.out _ _ _ (A5.out.after hN'.out hS.2.2.2.2.2.2) (B5.out.after hN'.out hS.2.2.2.2.2.2)).mono ?_
    rintro e v2 ⟨rfl, hb⟩
    have hS2 := (And.intro (keep_cell hb hS.1) (And.intro (keep_cell hb hS.2.1) (And.intro (keep_cell hb hS.2.2.1) (And.intro (keep_cell hb hS.2.2.2.1) (And.intro (keep_cell hb hS.2.2.2.2.1) (And.intro (keep_cell hb hS.2.2.2.2.2.1) (Below.after hS.2.2.2.2.2.2 hb)))))))
    clear hS
    refine hK.out _ _ hS2 (fun hS => ?_)
    clear hS2 hK K
    try simp only [Act.put, List.setIfInBounds_toArray, List.set_cons_zero, List.set_cons_succ]
    refine wpAnyH_ready (rs := [5]) (by kernel_rfl) (by simp) ?_
    refine AllReadyH.cons (o := ?dqr10q5) ?hir10q5 (fun K hK => ?_) AllReadyH.nil
    case hir10q5 => simp only [List.getElem?_toArray, List.getElem?_cons_succ, List.getElem?_cons_zero]; rfl
    go_simp
    go_at_call 21
    refine (rXY.out _).mono ?_
    rintro e v5 ⟨rfl, hb⟩
    have hS2 := (And.intro (keep_cell hb hS.1) (And.intro (keep_cell hb hS.2.1) (And.intro (keep_cell hb hS.2.2.1) (And.intro (keep_cell hb hS.2.2.2.1) (And.intro (keep_cell hb hS.2.2.2.2.1) (And.intro (keep_cell hb hS.2.2.2.2.2.1) (Below.after hS.2.2.2.2.2.2 hb)))))))
    clear hS
    refine hK.out _ _ hS2 (fun hS => ?_)
    clear hS2 hK K
    try simp only [Act.put, List.setIfInBounds_toArray, List.set_cons_zero, List.set_cons_succ]
    refine wpAnyH_take (i := 6) (oi := ?dqr10q6) (v := ?dvr10q6) ?hir10q6 (by kernel_rfl) (by kernel_rfl) (by kernel_rfl) ?hQr10q6 (Or.inl ⟨?hwr10q6, ?hyr10q6⟩) hS ?hrr10q6
    case hir10q6 => simp only [List.getElem?_toArray, List.getElem?_cons_succ, List.getElem?_cons_zero]; rfl
    case hQr10q6 => exact fun _ _ _ h => h
    case hwr10q6 => rfl
    case hyr10q6 => (intro w hSw; (try dsimp only at hSw); go_simp; (try with_reducible rfl))
    simp only [Act.put, List.setIfInBounds_toArray, List.set_cons_zero, List.set_cons_succ]
    refine wpAnyH_take (i := 7) (oi := ?dqr10q7) (v := ?dvr10q7) ?hir10q7 (by kernel_rfl) (by kernel_rfl) (by kernel_rfl) ?hQr10q7 (Or.inl ⟨?hwr10q7, ?hyr10q7⟩) hS ?hrr10q7
    case hir10q7 => simp only [List.getElem?_toArray, List.getElem?_cons_succ, List.getElem?_cons_zero]; rfl
    case hQr10q7 => exact fun _ _ _ h => h
    case hwr10q7 => rfl
    case hyr10q7 => (intro w hSw; (try dsimp only at hSw); go_simp; (try with_reducible rfl))
    simp only [Act.put, List.setIfInBounds_toArray, List.set_cons_zero, List.set_cons_succ]
    refine wpAnyH_take (i := 8) (oi := ?dqr10q8) (v := ?dvr10q8) ?hir10q8 (by kernel_rfl) (by kernel_rfl) (by kernel_rfl) ?hQr10q8 (Or.inl ⟨?hwr10q8, ?hyr10q8⟩) hS ?hrr10q8
    case hir10q8 => simp only [List.getElem?_toArray, List.getElem?_cons_succ, List.getElem?_cons_zero]; rfl
    case hQr10q8 => exact fun _ _ _ h => h
    case hwr10q8 => rfl
    case hyr10q8 => (intro w hSw; (try dsimp only at hSw); go_simp; (try with_reducible rfl))
    simp only [Act.put, List.setIfInBounds_toArray, List.set_cons_zero, List.set_cons_succ]
    refine wpAnyH_take (i := 9) (oi := ?dqr10q9) (v := ?dvr10q9) ?hir10q9 (by kernel_rfl) (by kernel_rfl) (by kernel_rfl) ?hQr10q9 (Or.inl ⟨?hwr10q9, ?hyr10q9⟩) hS ?hrr10q9
    case hir10q9 => simp only [List.getElem?_toArray, List.getElem?_cons_succ, List.getElem?_cons_zero]; rfl
    case hQr10q9 => exact fun _ _ _ h => h
    case hwr10q9 => rfl
    case hyr10q9 => (intro w hSw; (try dsimp only at hSw); go_simp; (try with_reducible rfl))
    simp only [Act.put, List.setIfInBounds_toArray, List.set_cons_zero, List.set_cons_succ]
    refine wpAnyH_take (i := 11) (oi := ?dqr10q11) (v := ?dvr10q11) ?hir10q11 (by kernel_rfl) (by kernel_rfl) (by kernel_rfl) ?hQr10q11 (Or.inl ⟨?hwr10q11, ?hyr10q11⟩) hS ?hrr10q11
    case hir10q11 => simp only [List.getElem?_toArray, List.getElem?_cons_succ, List.getElem?_cons_zero]; rfl
    case hQr10q11 => exact fun _ _ _ h => h
    case hwr10q11 => rfl
    case hyr10q11 => (intro w hSw; (try dsimp only at hSw); go_simp; (try with_reducible rfl))
    simp only [Act.put, List.setIfInBounds_toArray, List.set_cons_zero, List.set_cons_succ]
    refine wpAnyH_take (i := 12) (oi := ?dqr10q12) (v := ?dvr10q12) ?hir10q12 (by kernel_rfl) (by kernel_rfl) (by kernel_rfl) ?hQr10q12 (Or.inl ⟨?hwr10q12, ?hyr10q12⟩) hS ?hrr10q12
    case hir10q12 => simp only [List.getElem?_toArray, List.getElem?_cons_succ, List.getElem?_cons_zero]; rfl
    case hQr10q12 => exact fun _ _ _ h => h
    case hwr10q12 => rfl
    case hyr10q12 => (intro w hSw; (try dsimp only at hSw); go_simp; (try with_reducible rfl))
    simp only [Act.put, List.setIfInBounds_toArray, List.set_cons_zero, List.set_cons_succ]
    refine wpAnyH_ready (rs := [10]) (by kernel_rfl) (by simp) ?_
    refine AllReadyH.cons (o := ?dqr10q10) ?hir10q10 (fun K hK => ?_) AllReadyH.nil
    case hir10q10 => simp only [List.getElem?_toArray, List.getElem?_cons_succ, List.getElem?_cons_zero]; rfl
    go_simp
    go_at_call 20
    refine (cBA.out _ _ _ (B5.out.after hN'.out hS.2.2.2.2.2.2) (A5.out.after hN'.out hS.2.2.2.2.2.2)).mono ?_
    rintro e v10 ⟨rfl, hb⟩
    have hS2 := (And.intro (keep_cell hb hS.1) (And.intro (keep_cell hb hS.2.1) (And.intro (keep_cell hb hS.2.2.1) (And.intro (keep_cell hb hS.2.2.2.1) (And.intro (keep_cell hb hS.2.2.2.2.1) (And.intro (keep_cell hb hS.2.2.2.2.2.1) (Below.after hS.2.2.2.2.2.2 hb)))))))
    clear hS
    refine hK.out _ _ hS2 (fun hS => ?_)
    clear hS2 hK K
    try simp only [Act.put, List.setIfInBounds_toArray, List.set_cons_zero, List.set_cons_succ]
    refine wpAnyH_ready (rs := [13]) (by kernel_rfl) (by simp) ?_
    refine AllReadyH.cons (o := ?dqr10q13) ?hir10q13 (fun K hK => ?_) AllReadyH.nil
    case hir10q13 => simp only [List.getElem?_toArray, List.getElem?_cons_succ, List.getElem?_cons_zero]; rfl
    go_simp
    go_at_call 21
    refine (rYX.out _).mono ?_
    rintro e v13 ⟨rfl, hb⟩
    have hS2 := (And.intro (keep_cell hb hS.1) (And.intro (keep_cell hb hS.2.1) (And.intro (keep_cell hb hS.2.2.1) (And.intro (keep_cell hb hS.2.2.2.1) (And.intro (keep_cell hb hS.2.2.2.2.1) (And.intro (keep_cell hb hS.2.2.2.2.2.1) (Below.after hS.2.2.2.2.2.2 hb)))))))
    clear hS
    refine hK.out _ _ hS2 (fun hS => ?_)
    clear hS2 hK K
    try simp only [Act.put, List.setIfInBounds_toArray, List.set_cons_zero, List.set_cons_succ]
    refine wpAnyH_take (i := 14) (oi := ?dqr10q14) (v := ?dvr10q14) ?hir10q14 (by kernel_rfl) (by kernel_rfl) (by kernel_rfl) ?hQr10q14 (Or.inl ⟨?hwr10q14, ?hyr10q14⟩) hS ?hrr10q14
    case hir10q14 => simp only [List.getElem?_toArray, List.getElem?_cons_succ, List.getElem?_cons_zero]; rfl
    case hQr10q14 => exact fun _ _ _ h => h
    case hwr10q14 => rfl
    case hyr10q14 => (intro w hSw; (try dsimp only at hSw); go_simp; (try with_reducible rfl))
    simp only [Act.put, List.setIfInBounds_toArray, List.set_cons_zero, List.set_cons_succ]
    refine wpAnyH_take (i := 15) (oi := ?dqr10q15) (v := ?dvr10q15) ?hir10q15 (by kernel_rfl) (by kernel_rfl) (by kernel_rfl) ?hQr10q15 (Or.inl ⟨?hwr10q15, ?hyr10q15⟩) hS ?hrr10q15
    case hir10q15 => simp only [List.getElem?_toArray, List.getElem?_cons_succ, List.getElem?_cons_zero]; rfl
    case hQr10q15 => exact fun _ _ _ h => h
    case hwr10q15 => rfl
    case hyr10q15 => (intro w hSw; (try dsimp only at hSw); go_simp; (try with_reducible rfl))
    simp only [Act.put, List.setIfInBounds_toArray, List.set_cons_zero, List.set_cons_succ]
    refine wpAnyH_take (i := 16) (oi := ?dqr10q16) (v := ?dvr10q16) ?hir10q16 (by kernel_rfl) (by kernel_rfl) (by kernel_rfl) ?hQr10q16 (Or.inl ⟨?hwr10q16, ?hyr10q16⟩) hS ?hrr10q16
    case hir10q16 => simp only [List.getElem?_toArray, List.getElem?_cons_succ, List.getElem?_cons_zero]; rfl
    case hQr10q16 => exact fun _ _ _ h => h
    case hwr10q16 => rfl
    case hyr10q16 => (intro w hSw; (try dsimp only at hSw); go_simp; (try with_reducible rfl))
    simp only [Act.put, List.setIfInBounds_toArray, List.set_cons_zero, List.set_cons_succ]
    refine wpAnyH_take (i := 17) (oi := ?dqr10q17) (v := ?dvr10q17) ?hir10q17 (by kernel_rfl) (by kernel_rfl) (by kernel_rfl) ?hQr10q17 (Or.inl ⟨?hwr10q17, ?hyr10q17⟩) hS ?hrr10q17
    case hir10q17 => simp only [List.getElem?_toArray, List.getElem?_cons_succ, List.getElem?_cons_zero]; rfl
    case hQr10q17 => exact fun _ _ _ h => h
    case hwr10q17 => rfl
    case hyr10q17 => (intro w hSw; (try dsimp only at hSw); go_simp; (try with_reducible rfl))
    simp only [Act.put, List.setIfInBounds_toArray, List.set_cons_zero, List.set_cons_succ]
    refine wpAnyH_ready (rs := [18]) (by kernel_rfl) (by simp) ?_
    refine AllReadyH.cons (o := ?dqr10q18) ?hir10q18 (fun K hK => ?_) AllReadyH.nil
    case hir10q18 => simp only [List.getElem?_toArray, List.getElem?_cons_succ, List.getElem?_cons_zero]; rfl
    go_simp
    go_at_call 20
    refine (cA0.out _ _ _ (A5.out.after hN'.out hS.2.2.2.2.2.2) rfl).mono ?_
    rintro e v18 ⟨rfl, hb⟩
    have hS2 := (And.intro (keep_cell hb hS.1) (And.intro (keep_cell hb hS.2.1) (And.intro (keep_cell hb hS.2.2.1) (And.intro (keep_cell hb hS.2.2.2.1) (And.intro (keep_cell hb hS.2.2.2.2.1) (And.intro (keep_cell hb hS.2.2.2.2.2.1) (Below.after hS.2.2.2.2.2.2 hb)))))))
    clear hS
    refine hK.out _ _ hS2 (fun hS => ?_)
    clear hS2 hK K
    try simp only [Act.put, List.setIfInBounds_toArray, List.set_cons_zero, List.set_cons_succ]
    refine wpAnyH_take (i := 19) (oi := ?dqr10q19) (v := ?dvr10q19) ?hir10q19 (by kernel_rfl) (by kernel_rfl) (by kernel_rfl) ?hQr10q19 (Or.inl ⟨?hwr10q19, ?hyr10q19⟩) hS ?hrr10q19
    case hir10q19 => simp only [List.getElem?_toArray, List.getElem?_cons_succ, List.getElem?_cons_zero]; rfl
    case hQr10q19 => exact fun _ _ _ h => h
    case hwr10q19 => rfl
    case hyr10q19 => (intro w hSw; (try dsimp only at hSw); go_simp; (try with_reducible rfl))
    simp only [Act.put, List.setIfInBounds_toArray, List.set_cons_zero, List.set_cons_succ]
    refine wpAnyH_take (i := 20) (oi := ?dqr10q20) (v := ?dvr10q20) ?hir10q20 (by kernel_rfl) (by kernel_rfl) (by kernel_rfl) ?hQr10q20 (Or.inl ⟨?hwr10q20, ?hyr10q20⟩) hS ?hrr10q20
    case hir10q20 => simp only [List.getElem?_toArray, List.getElem?_cons_succ, List.getElem?_cons_zero]; rfl
    case hQr10q20 => exact fun _ _ _ h => h
    case hwr10q20 => rfl
    case hyr10q20 => (intro w hSw; (try dsimp only at hSw); go_simp; (try with_reducible rfl))
    simp only [Act.put, List.setIfInBounds_toArray, List.set_cons_zero, List.set_cons_succ]
    refine wpAnyH_take (i := 21) (oi := ?dqr10q21) (v := ?dvr10q21) ?hir10q21 (by kernel_rfl) (by kernel_rfl) (by kernel_rfl) ?hQr10q21 (Or.inl ⟨?hwr10q21, ?hyr10q21⟩) hS ?hrr10q21
    case hir10q21 => simp only [List.getElem?_toArray, List.getElem?_cons_succ, List.getElem?_cons_zero]; rfl
    case hQr10q21 => exact fun _ _ _ h => h
    case hwr10q21 => rfl
    case hyr10q21 => (intro w hSw; (try dsimp only at hSw); go_simp; (try with_reducible rfl))
    simp only [Act.put, List.setIfInBounds_toArray, List.set_cons_zero, List.set_cons_succ]
    refine wpAnyH_ready (rs := [22]) (by kernel_rfl) (by simp) ?_
    refine AllReadyH.cons (o := ?dqr10q22) ?hir10q22 (fun K hK => ?_) AllReadyH.nil
    case hir10q22 => simp only [List.getElem?_toArray, List.getElem?_cons_succ, List.getElem?_cons_zero]; rfl
    go_simp
    go_at_call 20
    refine (c0B.out _ _ _ rfl (B5.out.after hN'.out hS.2.2.2.2.2.2)).mono ?_
    rintro e v22 ⟨rfl, hb⟩
    have hS2 := (And.intro (keep_cell hb hS.1) (And.intro (keep_cell hb hS.2.1) (And.intro (keep_cell hb hS.2.2.1) (And.intro (keep_cell hb hS.2.2.2.1) (And.intro (keep_cell hb hS.2.2.2.2.1) (And.intro (keep_cell hb hS.2.2.2.2.2.1) (Below.after hS.2.2.2.2.2.2 hb)))))))
    clear hS
    refine hK.out _ _ hS2 (fun hS => ?_)
    clear hS2 hK K
    try simp only [Act.put, List.setIfInBounds_toArray, List.set_cons_zero, List.set_cons_succ]
    refine wpAnyH_take (i := 23) (oi := ?dqr10q23) (v := ?dvr10q23) ?hir10q23 (by kernel_rfl) (by kernel_rfl) (by kernel_rfl) ?hQr10q23 (Or.inl ⟨?hwr10q23, ?hyr10q23⟩) hS ?hrr10q23
    case hir10q23 => simp only [List.getElem?_toArray, List.getElem?_cons_succ, List.getElem?_cons_zero]; rfl
    case hQr10q23 => exact fun _ _ _ h => h
    case hwr10q23 => rfl
    case hyr10q23 => (intro w hSw; (try dsimp only at hSw); go_simp; (try with_reducible rfl))
    simp only [Act.put, List.setIfInBounds_toArray, List.set_cons_zero, List.set_cons_succ]
    refine wpAnyH_done (by kernel_rfl) ?_ _
    have hb5 := Lib.hid hS.2.2.2.2.2.2
    have B_5 := Lib.hid (Below.after B_4.out hb5.out)
    have A6 := Lib.hid (A5.out.after hN'.out hb5.out)
    have B6 := Lib.hid (B5.out.after hN'.out hb5.out)
    obtain ⟨f0, f1, f2, g0, g1, g2, -⟩ := hS
    clear hb5 B_4 A5 B5
    go_wp2_with fail
    refine (cAB.out v22 _ _ A6.out B6.out).mono ?_
    rintro e w7 ⟨rfl, hb⟩
    have B_7 := Lib.hid (Below.after B_5.out hb)
    have A7 := Lib.hid (A6.out.after hN'.out hb)
    have B7 := Lib.hid (B6.out.after hN'.out hb)
    clear hb B_5 A6 B6 f0 f1 f2 g0 g1 g2
    go_wp2_with fail
    refine (cBA.out w7 _ _ B7.out A7.out).mono ?_
    rintro e w8 ⟨rfl, hb⟩
    have B_8 := Lib.hid (Below.after B_7.out hb)
    have A8 := Lib.hid (A7.out.after hN'.out hb)
    have B8 := Lib.hid (B7.out.after hN'.out hb)
    clear hb B_7 A7 B7
    go_wp2_with fail
    refine (cAB.out w8 _ _ A8.out B8.out).mono ?_
    rintro e w9 ⟨rfl, hb⟩
    have B_9 := Lib.hid (Below.after B_8.out hb)
    have A9 := Lib.hid (A8.out.after hN'.out hb)
    have B9 := Lib.hid (B8.out.after hN'.out hb)
    clear hb B_8 A8 B8
    go_wp2_with fail
    refine (cA.out w9 B_9.out).mono ?_
    rintro e w10 ⟨rfl, hb⟩
    have B_10 := Lib.hid (Below.after B_9.out hb)
    clear hb
    go_wp2
    go_ret
    exact ⟨rfl, B_10.out⟩
  · skip
    go_upto_region 4 with (fail)
    refine wp_region_held_drew (S := fun W => W.cell? ⟨p1, 0, none⟩ = some (K x.k) ∧ W.cell? ⟨p1, 1, none⟩ = some (K x.v) ∧ W.cell? ⟨p1, 2, none⟩ = some (G64 x.g) ∧ W.cell? ⟨p2, 0, none⟩ = some (K y.k) ∧ W.cell? ⟨p2, 1, none⟩ = some (K y.v) ∧ W.cell? ⟨p2, 2, none⟩ = some (G64 y.g) ∧ Below w3.heap.size w3 W) (by kernel_rfl) ⟨f0, f1, f2, g0, g1, g2, (Below.refl _ w3).drew⟩ (fun hS => ?_)
    refine wpAnyH_take (i := 0) (oi := ?dqr11q0) (v := ?dvr11q0) ?hir11q0 (by kernel_rfl) (by kernel_rfl) (by kernel_rfl) ?hQr11q0 (Or.inl ⟨?hwr11q0, ?hyr11q0⟩) hS ?hrr11q0
    case hir11q0 => simp only [List.getElem?_toArray, List.getElem?_cons_zero]; rfl
    case hQr11q0 => exact fun _ _ _ h => h
    case hwr11q0 => rfl
    case hyr11q0 => (intro w hSw; (try dsimp only at hSw); go_simp; (try with_reducible rfl))
    simp only [Act.put, List.setIfInBounds_toArray, List.set_cons_zero, List.set_cons_succ]
    refine wpAnyH_take (i := 1) (oi := ?dqr11q1) (v := ?dvr11q1) ?hir11q1 (by kernel_rfl) (by kernel_rfl) (by kernel_rfl) ?hQr11q1 (Or.inl ⟨?hwr11q1, ?hyr11q1⟩) hS ?hrr11q1
    case hir11q1 => simp only [List.getElem?_toArray, List.getElem?_cons_succ, List.getElem?_cons_zero]; rfl
    case hQr11q1 => exact fun _ _ _ h => h
    case hwr11q1 => rfl
    case hyr11q1 => (intro w hSw; (try dsimp only at hSw); go_simp; (try with_reducible rfl))
    simp only [Act.put, List.setIfInBounds_toArray, List.set_cons_zero, List.set_cons_succ]
    refine wpAnyH_take (i := 2) (oi := ?dqr11q2) (v := ?dvr11q2) ?hir11q2 (by kernel_rfl) (by kernel_rfl) (by kernel_rfl) ?hQr11q2 (Or.inl ⟨?hwr11q2, ?hyr11q2⟩) hS ?hrr11q2
    case hir11q2 => simp only [List.getElem?_toArray, List.getElem?_cons_succ, List.getElem?_cons_zero]; rfl
    case hQr11q2 => exact fun _ _ _ h => h
    case hwr11q2 => rfl
    case hyr11q2 => (intro w hSw; (try dsimp only at hSw); go_simp; (try with_reducible rfl))
    simp only [Act.put, List.setIfInBounds_toArray, List.set_cons_zero, List.set_cons_succ]
    refine wpAnyH_take (i := 3) (oi := ?dqr11q3) (v := ?dvr11q3) ?hir11q3 (by kernel_rfl) (by kernel_rfl) (by kernel_rfl) ?hQr11q3 (Or.inl ⟨?hwr11q3, ?hyr11q3⟩) hS ?hrr11q3
    case hir11q3 => simp only [List.getElem?_toArray, List.getElem?_cons_succ, List.getElem?_cons_zero]; rfl
    case hQr11q3 => exact fun _ _ _ h => h
    case hwr11q3 => rfl
    case hyr11q3 => (intro w hSw; (try dsimp only at hSw); go_simp; (try with_reducible rfl))
    simp only [Act.put, List.setIfInBounds_toArray, List.set_cons_zero, List.set_cons_succ]
    refine wpAnyH_take (i := 4) (oi := ?dqr11q4) (v := ?dvr11q4) ?hir11q4 (by kernel_rfl) (by kernel_rfl) (by kernel_rfl) ?hQr11q4 (Or.inl ⟨?hwr11q4, ?hyr11q4⟩) hS ?hrr11q4
    case hir11q4 => simp only [List.getElem?_toArray, List.getElem?_cons_succ, List.getElem?_cons_zero]; rfl
    case hQr11q4 => exact fun _ _ _ h => h
    case hwr11q4 => rfl
    case hyr11q4 => (intro w hSw; (try dsimp only at hSw); go_simp; (try with_reducible rfl))
    simp only [Act.put, List.setIfInBounds_toArray, List.set_cons_zero, List.set_cons_succ]
    refine wpAnyH_take (i := 5) (oi := ?dqr11q5) (v := ?dvr11q5) ?hir11q5 (by kernel_rfl) (by kernel_rfl) (by kernel_rfl) ?hQr11q5 (Or.inl ⟨?hwr11q5, ?hyr11q5⟩) hS ?hrr11q5
    case hir11q5 => simp only [List.getElem?_toArray, List.getElem?_cons_succ, List.getElem?_cons_zero]; rfl
    case hQr11q5 => exact fun _ _ _ h => h
    case hwr11q5 => rfl
    case hyr11q5 => (intro w hSw; (try dsimp only at hSw); go_simp; (try with_reducible rfl))
    simp only [Act.put, List.setIfInBounds_toArray, List.set_cons_zero, List.set_cons_succ]
    refine wpAnyH_take (i := 6) (oi := ?dqr11q6) (v := ?dvr11q6) ?hir11q6 (by kernel_rfl) (by kernel_rfl) (by kernel_rfl) ?hQr11q6 (Or.inl ⟨?hwr11q6, ?hyr11q6⟩) hS ?hrr11q6
    case hir11q6 => simp only [List.getElem?_toArray, List.getElem?_cons_succ, List.getElem?_cons_zero]; rfl
    case hQr11q6 => exact fun _ _ _ h => h
    case hwr11q6 => rfl
    case hyr11q6 => (intro w hSw; (try dsimp only at hSw); go_simp; (try with_reducible rfl))
    simp only [Act.put, List.setIfInBounds_toArray, List.set_cons_zero, List.set_cons_succ]
    refine wpAnyH_take (i := 8) (oi := ?dqr11q8) (v := ?dvr11q8) ?hir11q8 (by kernel_rfl) (by kernel_rfl) (by kernel_rfl) ?hQr11q8 (Or.inl ⟨?hwr11q8, ?hyr11q8⟩) hS ?hrr11q8
    case hir11q8 => simp only [List.getElem?_toArray, List.getElem?_cons_succ, List.getElem?_cons_zero]; rfl
    case hQr11q8 => exact fun _ _ _ h => h
    case hwr11q8 => rfl
    case hyr11q8 => (intro w hSw; (try dsimp only at hSw); go_simp; (try with_reducible rfl))
    simp only [Act.put, List.setIfInBounds_toArray, List.set_cons_zero, List.set_cons_succ]
    refine wpAnyH_take (i := 9) (oi := ?dqr11q9) (v := ?dvr11q9) ?hir11q9 (by kernel_rfl) (by kernel_rfl) (by kernel_rfl) ?hQr11q9 (Or.inl ⟨?hwr11q9, ?hyr11q9⟩) hS ?hrr11q9
    case hir11q9 => simp only [List.getElem?_toArray, List.getElem?_cons_succ, List.getElem?_cons_zero]; rfl
    case hQr11q9 => exact fun _ _ _ h => h
    case hwr11q9 => rfl
    case hyr11q9 => (intro w hSw; (try dsimp only at hSw); go_simp; (try with_reducible rfl))
    simp only [Act.put, List.setIfInBounds_toArray, List.set_cons_zero, List.set_cons_succ]
    refine wpAnyH_take (i := 10) (oi := ?dqr11q10) (v := ?dvr11q10) ?hir11q10 (by kernel_rfl) (by kernel_rfl) (by kernel_rfl) ?hQr11q10 (Or.inl ⟨?hwr11q10, ?hyr11q10⟩) hS ?hrr11q10
    case hir11q10 => simp only [List.getElem?_toArray, List.getElem?_cons_succ, List.getElem?_cons_zero]; rfl
    case hQr11q10 => exact fun _ _ _ h => h
    case hwr11q10 => rfl
    case hyr11q10 => (intro w hSw; (try dsimp only at hSw); go_simp; (try with_reducible rfl))
    simp only [Act.put, List.setIfInBounds_toArray, List.set_cons_zero, List.set_cons_succ]
    refine wpAnyH_take (i := 11) (oi := ?dqr11q11) (v := ?dvr11q11) ?hir11q11 (by kernel_rfl) (by kernel_rfl) (by kernel_rfl) ?hQr11q11 (Or.inl ⟨?hwr11q11, ?hyr11q11⟩) hS ?hrr11q11
    case hir11q11 => simp only [List.getElem?_toArray, List.getElem?_cons_succ, List.getElem?_cons_zero]; rfl
    case hQr11q11 => exact fun _ _ _ h => h
    case hwr11q11 => rfl
    case hyr11q11 => (intro w hSw; (try dsimp only at hSw); go_simp; (try with_reducible rfl))
    simp only [Act.put, List.setIfInBounds_toArray, List.set_cons_zero, List.set_cons_succ]
    refine wpAnyH_take (i := 12) (oi := ?dqr11q12) (v := ?dvr11q12) ?hir11q12 (by kernel_rfl) (by kernel_rfl) (by kernel_rfl) ?hQr11q12 (Or.inl ⟨?hwr11q12, ?hyr11q12⟩) hS ?hrr11q12
    case hir11q12 => simp only [List.getElem?_toArray, List.getElem?_cons_succ, List.getElem?_cons_zero]; rfl
    case hQr11q12 => exact fun _ _ _ h => h
    case hwr11q12 => rfl
    case hyr11q12 => (intro w hSw; (try dsimp only at hSw); go_simp; (try with_reducible rfl))
    simp only [Act.put, List.setIfInBounds_toArray, List.set_cons_zero, List.set_cons_succ]
    refine wpAnyH_take (i := 13) (oi := ?dqr11q13) (v := ?dvr11q13) ?hir11q13 (by kernel_rfl) (by kernel_rfl) (by kernel_rfl) ?hQr11q13 (Or.inl ⟨?hwr11q13, ?hyr11q13⟩) hS ?hrr11q13
    case hir11q13 => simp only [List.getElem?_toArray, List.getElem?_cons_succ, List.getElem?_cons_zero]; rfl
    case hQr11q13 => exact fun _ _ _ h => h
    case hwr11q13 => rfl
    case hyr11q13 => (intro w hSw; (try dsimp only at hSw); go_simp; (try with_reducible rfl))
    simp only [Act.put, List.setIfInBounds_toArray, List.set_cons_zero, List.set_cons_succ]
    refine wpAnyH_take (i := 14) (oi := ?dqr11q14) (v := ?dvr11q14) ?hir11q14 (by kernel_rfl) (by kernel_rfl) (by kernel_rfl) ?hQr11q14 (Or.inl ⟨?hwr11q14, ?hyr11q14⟩) hS ?hrr11q14
    case hir11q14 => simp only [List.getElem?_toArray, List.getElem?_cons_succ, List.getElem?_cons_zero]; rfl
    case hQr11q14 => exact fun _ _ _ h => h
    case hwr11q14 => rfl
    case hyr11q14 => (intro w hSw; (try dsimp only at hSw); go_simp; (try with_reducible rfl))
    simp only [Act.put, List.setIfInBounds_toArray, List.set_cons_zero, List.set_cons_succ]
    refine wpAnyH_ready (rs := [7]) (by kernel_rfl) (by simp) ?_
    refine AllReadyH.cons (o := ?dqr11q7) ?hir11q7 (fun K hK => ?_) AllReadyH.nil
    case hir11q7 => simp only [List.getElem?_toArray, List.getElem?_cons_succ, List.getElem?_cons_zero]; rfl
    go_simp
    go_at_call 19
    refine (cN1.out _ _ (P_3.out.after hN'.out hS.2.2.2.2.2.2)).mono ?_
    rintro e u1 ⟨a, rfl, hA, hb⟩
    have A1 := Lib.hid hA
    have P1 := Lib.hid ((P_3.out.after hN'.out hS.2.2.2.2.2.2).after hN'.out hb)
    clear hA
    have hS2 := (And.intro (keep_cell hb hS.1) (And.intro (keep_cell hb hS.2.1) (And.intro (keep_cell hb hS.2.2.1) (And.intro (keep_cell hb hS.2.2.2.1) (And.intro (keep_cell hb hS.2.2.2.2.1) (And.intro (keep_cell hb hS.2.2.2.2.2.1) (Below.after hS.2.2.2.2.2.2 hb)))))))
    clear hS
    refine hK.out _ _ hS2 (fun hS => ?_)
    clear hS2 hK K
    try simp only [Act.put, List.setIfInBounds_toArray, List.set_cons_zero, List.set_cons_succ]
    refine wpAnyH_ready (rs := [15]) (by kernel_rfl) (by simp) ?_
    refine AllReadyH.cons (o := ?dqr11q15) ?hir11q15 (fun K hK => ?_) AllReadyH.nil
    case hir11q15 => simp only [List.getElem?_toArray, List.getElem?_cons_succ, List.getElem?_cons_zero]; rfl
    go_simp
    go_at_call 19
    refine (cN2.out _ _ P1.out).mono ?_
    rintro e u2 ⟨b, rfl, hB, hb⟩
    have B2 := Lib.hid hB
    have A2 := Lib.hid (A1.out.after hN'.out hb)
    clear hB A1 P1
    have hS2 := (And.intro (keep_cell hb hS.1) (And.intro (keep_cell hb hS.2.1) (And.intro (keep_cell hb hS.2.2.1) (And.intro (keep_cell hb hS.2.2.2.1) (And.intro (keep_cell hb hS.2.2.2.2.1) (And.intro (keep_cell hb hS.2.2.2.2.2.1) (Below.after hS.2.2.2.2.2.2 hb)))))))
    clear hS
    refine hK.out _ _ hS2 (fun hS => ?_)
    clear hS2 hK K
    try simp only [Act.put, List.setIfInBounds_toArray, List.set_cons_zero, List.set_cons_succ]
    refine wpAnyH_take (i := 16) (oi := ?dqr11q16) (v := ?dvr11q16) ?hir11q16 (by kernel_rfl) (by kernel_rfl) (by kernel_rfl) ?hQr11q16 (Or.inl ⟨?hwr11q16, ?hyr11q16⟩) hS ?hrr11q16
    case hir11q16 => simp only [List.getElem?_toArray, List.getElem?_cons_succ, List.getElem?_cons_zero]; rfl
    case hQr11q16 => exact fun _ _ _ h => h
    case hwr11q16 => rfl
    case hyr11q16 => (intro w hSw; (try dsimp only at hSw); go_simp; (try with_reducible rfl))
    simp only [Act.put, List.setIfInBounds_toArray, List.set_cons_zero, List.set_cons_succ]
    refine wpAnyH_take (i := 17) (oi := ?dqr11q17) (v := ?dvr11q17) ?hir11q17 (by kernel_rfl) (by kernel_rfl) (by kernel_rfl) ?hQr11q17 (Or.inl ⟨?hwr11q17, ?hyr11q17⟩) hS ?hrr11q17
    case hir11q17 => simp only [List.getElem?_toArray, List.getElem?_cons_succ, List.getElem?_cons_zero]; rfl
    case hQr11q17 => exact fun _ _ _ h => h
    case hwr11q17 => rfl
    case hyr11q17 => (intro w hSw; (try dsimp only at hSw); go_simp; (try with_reducible rfl))
    simp only [Act.put, List.setIfInBounds_toArray, List.set_cons_zero, List.set_cons_succ]
    refine wpAnyH_done (by kernel_rfl) ?_ _
    have hb4 := Lib.hid hS.2.2.2.2.2.2
    have B_4 := Lib.hid (Below.after B_3.out hb4.out)
    obtain ⟨f0, f1, f2, g0, g1, g2, -⟩ := hS
    clear hb4 B_3
    go_wp2_with fail
    obtain ⟨w5, hw5⟩ : ∃ W, u2 = W := ⟨_, rfl⟩
    rw [hw5] at A2 B2 B_4 f0 f1 f2 g0 g1 g2 ⊢
    have A5 := A2
    have B5 := B2
    clear hw5 A2 B2
    refine wp_region_held_drew (S := fun W => W.cell? ⟨p1, 0, none⟩ = some (K x.k) ∧ W.cell? ⟨p1, 1, none⟩ = some (K x.v) ∧ W.cell? ⟨p1, 2, none⟩ = some (G64 x.g) ∧ W.cell? ⟨p2, 0, none⟩ = some (K y.k) ∧ W.cell? ⟨p2, 1, none⟩ = some (K y.v) ∧ W.cell? ⟨p2, 2, none⟩ = some (G64 y.g) ∧ Below w5.heap.size w5 W) (by kernel_rfl) ⟨f0, f1, f2, g0, g1, g2, (Below.refl _ w5).drew⟩ (fun hS => ?_)
    refine wpAnyH_take (i := 0) (oi := ?dqr12q0) (v := ?dvr12q0) ?hir12q0 (by kernel_rfl) (by kernel_rfl) (by kernel_rfl) ?hQr12q0 (Or.inl ⟨?hwr12q0, ?hyr12q0⟩) hS ?hrr12q0
    case hir12q0 => simp only [List.getElem?_toArray, List.getElem?_cons_zero]; rfl
    case hQr12q0 => exact fun _ _ _ h => h
    case hwr12q0 => rfl
    case hyr12q0 => (intro w hSw; (try dsimp only at hSw); go_simp; (try with_reducible rfl))
    simp only [Act.put, List.setIfInBounds_toArray, List.set_cons_zero, List.set_cons_succ]
    refine wpAnyH_take (i := 1) (oi := ?dqr12q1) (v := ?dvr12q1) ?hir12q1 (by kernel_rfl) (by kernel_rfl) (by kernel_rfl) ?hQr12q1 (Or.inl ⟨?hwr12q1, ?hyr12q1⟩) hS ?hrr12q1
    case hir12q1 => simp only [List.getElem?_toArray, List.getElem?_cons_succ, List.getElem?_cons_zero]; rfl
    case hQr12q1 => exact fun _ _ _ h => h
    case hwr12q1 => rfl
    case hyr12q1 => (intro w hSw; (try dsimp only at hSw); go_simp; (try with_reducible rfl))
    simp only [Act.put, List.setIfInBounds_toArray, List.set_cons_zero, List.set_cons_succ]
    refine wpAnyH_take (i := 3) (oi := ?dqr12q3) (v := ?dvr12q3) ?hir12q3 (by kernel_rfl) (by kernel_rfl) (by kernel_rfl) ?hQr12q3 (Or.inl ⟨?hwr12q3, ?hyr12q3⟩) hS ?hrr12q3
    case hir12q3 => simp only [List.getElem?_toArray, List.getElem?_cons_succ, List.getElem?_cons_zero]; rfl
    case hQr12q3 => exact fun _ _ _ h => h
    case hwr12q3 => rfl
    case hyr12q3 => (intro w hSw; (try dsimp only at hSw); go_simp; (try with_reducible rfl))
    simp only [Act.put, List.setIfInBounds_toArray, List.set_cons_zero, List.set_cons_succ]
    refine wpAnyH_take (i := 4) (oi := ?dqr12q4) (v := ?dvr12q4) ?hir12q4 (by kernel_rfl) (by kernel_rfl) (by kernel_rfl) ?hQr12q4 (Or.inl ⟨?hwr12q4, ?hyr12q4⟩) hS ?hrr12q4
    case hir12q4 => simp only [List.getElem?_toArray, List.getElem?_cons_succ, List.getElem?_cons_zero]; rfl
    case hQr12q4 => exact fun _ _ _ h => h
    case hwr12q4 => rfl
    case hyr12q4 => (intro w hSw; (try dsimp only at hSw); go_simp; (try with_reducible rfl))
    simp only [Act.put, List.setIfInBounds_toArray, List.set_cons_zero, List.set_cons_succ]
    refine wpAnyH_ready (rs := [2]) (by kernel_rfl) (by simp) ?_
    refine AllReadyH.cons (o := ?dqr12q2) ?hir12q2 (fun K hK => ?_) AllReadyH.nil
    case hir12q2 => simp only [List.getElem?_toArray, List.getElem?_cons_succ, List.getElem?_cons_zero]; rfl
    go_simp
    go_at_call 20
    refine (cAB.out _ _ _ (A5.out.after hN'.out hS.2.2.2.2.2.2) (B5.out.after hN'.out hS.2.2.2.2.2.2)).mono ?_
    rintro e v2 ⟨rfl, hb⟩
    have hS2 := (And.intro (keep_cell hb hS.1) (And.intro (keep_cell hb hS.2.1) (And.intro (keep_cell hb hS.2.2.1) (And.intro (keep_cell hb hS.2.2.2.1) (And.intro (keep_cell hb hS.2.2.2.2.1) (And.intro (keep_cell hb hS.2.2.2.2.2.1) (Below.after hS.2.2.2.2.2.2 hb)))))))
    clear hS
    refine hK.out _ _ hS2 (fun hS => ?_)
    clear hS2 hK K
    try simp only [Act.put, List.setIfInBounds_toArray, List.set_cons_zero, List.set_cons_succ]
    refine wpAnyH_ready (rs := [5]) (by kernel_rfl) (by simp) ?_
    refine AllReadyH.cons (o := ?dqr12q5) ?hir12q5 (fun K hK => ?_) AllReadyH.nil
    case hir12q5 => simp only [List.getElem?_toArray, List.getElem?_cons_succ, List.getElem?_cons_zero]; rfl
    go_simp
    go_at_call 21
    refine (rXY.out _).mono ?_
    rintro e v5 ⟨rfl, hb⟩
    have hS2 := (And.intro (keep_cell hb hS.1) (And.intro (keep_cell hb hS.2.1) (And.intro (keep_cell hb hS.2.2.1) (And.intro (keep_cell hb hS.2.2.2.1) (And.intro (keep_cell hb hS.2.2.2.2.1) (And.intro (keep_cell hb hS.2.2.2.2.2.1) (Below.after hS.2.2.2.2.2.2 hb)))))))
    clear hS
    refine hK.out _ _ hS2 (fun hS => ?_)
    clear hS2 hK K
    try simp only [Act.put, List.setIfInBounds_toArray, List.set_cons_zero, List.set_cons_succ]
    refine wpAnyH_take (i := 6) (oi := ?dqr12q6) (v := ?dvr12q6) ?hir12q6 (by kernel_rfl) (by kernel_rfl) (by kernel_rfl) ?hQr12q6 (Or.inl ⟨?hwr12q6, ?hyr12q6⟩) hS ?hrr12q6
    case hir12q6 => simp only [List.getElem?_toArray, List.getElem?_cons_succ, List.getElem?_cons_zero]; rfl
    case hQr12q6 => exact fun _ _ _ h => h
    case hwr12q6 => rfl
    case hyr12q6 => (intro w hSw; (try dsimp only at hSw); go_simp; (try with_reducible rfl))
    simp only [Act.put, List.setIfInBounds_toArray, List.set_cons_zero, List.set_cons_succ]
    refine wpAnyH_take (i := 7) (oi := ?dqr12q7) (v := ?dvr12q7) ?hir12q7 (by kernel_rfl) (by kernel_rfl) (by kernel_rfl) ?hQr12q7 (Or.inl ⟨?hwr12q7, ?hyr12q7⟩) hS ?hrr12q7
    case hir12q7 => simp only [List.getElem?_toArray, List.getElem?_cons_succ, List.getElem?_cons_zero]; rfl
    case hQr12q7 => exact fun _ _ _ h => h
    case hwr12q7 => rfl
    case hyr12q7 => (intro w hSw; (try dsimp only at hSw); go_simp; (try with_reducible rfl))
    simp only [Act.put, List.setIfInBounds_toArray, List.set_cons_zero, List.set_cons_succ]
    refine wpAnyH_take (i := 8) (oi := ?dqr12q8) (v := ?dvr12q8) ?hir12q8 (by kernel_rfl) (by kernel_rfl) (by kernel_rfl) ?hQr12q8 (Or.inl ⟨?hwr12q8, ?hyr12q8⟩) hS ?hrr12q8
    case hir12q8 => simp only [List.getElem?_toArray, List.getElem?_cons_succ, List.getElem?_cons_zero]; rfl
    case hQr12q8 => exact fun _ _ _ h => h
    case hwr12q8 => rfl
    case hyr12q8 => (intro w hSw; (try dsimp only at hSw); go_simp; (try with_reducible rfl))
    simp only [Act.put, List.setIfInBounds_toArray, List.set_cons_zero, List.set_cons_succ]
    refine wpAnyH_take (i := 9) (oi := ?dqr12q9) (v := ?dvr12q9) ?hir12q9 (by kernel_rfl) (by kernel_rfl) (by kernel_rfl) ?hQr12q9 (Or.inl ⟨?hwr12q9, ?hyr12q9⟩) hS ?hrr12q9
    case hir12q9 => simp only [List.getElem?_toArray, List.getElem?_cons_succ, List.getElem?_cons_zero]; rfl
    case hQr12q9 => exact fun _ _ _ h => h
    case hwr12q9 => rfl
    case hyr12q9 => (intro w hSw; (try dsimp only at hSw); go_simp; (try with_reducible rfl))
    simp only [Act.put, List.setIfInBounds_toArray, List.set_cons_zero, List.set_cons_succ]
    refine wpAnyH_take (i := 11) (oi := ?dqr12q11) (v := ?dvr12q11) ?hir12q11 (by kernel_rfl) (by kernel_rfl) (by kernel_rfl) ?hQr12q11 (Or.inl ⟨?hwr12q11, ?hyr12q11⟩) hS ?hrr12q11
    case hir12q11 => simp only [List.getElem?_toArray, List.getElem?_cons_succ, List.getElem?_cons_zero]; rfl
    case hQr12q11 => exact fun _ _ _ h => h
    case hwr12q11 => rfl
    case hyr12q11 => (intro w hSw; (try dsimp only at hSw); go_simp; (try with_reducible rfl))
    simp only [Act.put, List.setIfInBounds_toArray, List.set_cons_zero, List.set_cons_succ]
    refine wpAnyH_take (i := 12) (oi := ?dqr12q12) (v := ?dvr12q12) ?hir12q12 (by kernel_rfl) (by kernel_rfl) (by kernel_rfl) ?hQr12q12 (Or.inl ⟨?hwr12q12, ?hyr12q12⟩) hS ?hrr12q12
    case hir12q12 => simp only [List.getElem?_toArray, List.getElem?_cons_succ, List.getElem?_cons_zero]; rfl
    case hQr12q12 => exact fun _ _ _ h => h
    case hwr12q12 => rfl
    case hyr12q12 => (intro w hSw; (try dsimp only at hSw); go_simp; (try with_reducible rfl))
    simp only [Act.put, List.setIfInBounds_toArray, List.set_cons_zero, List.set_cons_succ]
    refine wpAnyH_ready (rs := [10]) (by kernel_rfl) (by simp) ?_
    refine AllReadyH.cons (o := ?dqr12q10) ?hir12q10 (fun K hK => ?_) AllReadyH.nil
    case hir12q10 => simp only [List.getElem?_toArray, List.getElem?_cons_succ, List.getElem?_cons_zero]; rfl
    go_simp
    go_at_call 20
    refine (cBA.out _ _ _ (B5.out.after hN'.out hS.2.2.2.2.2.2) (A5.out.after hN'.out hS.2.2.2.2.2.2)).mono ?_
    rintro e v10 ⟨rfl, hb⟩
    have hS2 := (And.intro (keep_cell hb hS.1) (And.intro (keep_cell hb hS.2.1) (And.intro (keep_cell hb hS.2.2.1) (And.intro (keep_cell hb hS.2.2.2.1) (And.intro (keep_cell hb hS.2.2.2.2.1) (And.intro (keep_cell hb hS.2.2.2.2.2.1) (Below.after hS.2.2.2.2.2.2 hb)))))))
    clear hS
    refine hK.out _ _ hS2 (fun hS => ?_)
    clear hS2 hK K
    try simp only [Act.put, List.setIfInBounds_toArray, List.set_cons_zero, List.set_cons_succ]
    refine wpAnyH_ready (rs := [13]) (by kernel_rfl) (by simp) ?_
    refine AllReadyH.cons (o := ?dqr12q13) ?hir12q13 (fun K hK => ?_) AllReadyH.nil
    case hir12q13 => simp only [List.getElem?_toArray, List.getElem?_cons_succ, List.getElem?_cons_zero]; rfl
    go_simp
    go_at_call 21
    refine (rYX.out _).mono ?_
    rintro e v13 ⟨rfl, hb⟩
    have hS2 := (And.intro (keep_cell hb hS.1) (And.intro (keep_cell hb hS.2.1) (And.intro (keep_cell hb hS.2.2.1) (And.intro (keep_cell hb hS.2.2.2.1) (And.intro (keep_cell hb hS.2.2.2.2.1) (And.intro (keep_cell hb hS.2.2.2.2.2.1) (Below.after hS.2.2.2.2.2.2 hb)))))))
    clear hS
    refine hK.out _ _ hS2 (fun hS => ?_)
    clear hS2 hK K
    try simp only [Act.put, List.setIfInBounds_toArray, List.set_cons_zero, List.set_cons_succ]
    refine wpAnyH_take (i := 14) (oi := ?dqr12q14) (v := ?dvr12q14) ?hir12q14 (by kernel_rfl) (by kernel_rfl) (by kernel_rfl) ?hQr12q14 (Or.inl ⟨?hwr12q14, ?hyr12q14⟩) hS ?hrr12q14
    case hir12q14 => simp only [List.getElem?_toArray, List.getElem?_cons_succ, List.getElem?_cons_zero]; rfl
    case hQr12q14 => exact fun _ _ _ h => h
    case hwr12q14 => rfl
    case hyr12q14 => (intro w hSw; (try dsimp only at hSw); go_simp; (try with_reducible rfl))
    simp only [Act.put, List.setIfInBounds_toArray, List.set_cons_zero, List.set_cons_succ]
    refine wpAnyH_take (i := 15) (oi := ?dqr12q15) (v := ?dvr12q15) ?hir12q15 (by kernel_rfl) (by kernel_rfl) (by kernel_rfl) ?hQr12q15 (Or.inl ⟨?hwr12q15, ?hyr12q15⟩) hS ?hrr12q15
    case hir12q15 => simp only [List.getElem?_toArray, List.getElem?_cons_succ, List.getElem?_cons_zero]; rfl
    case hQr12q15 => exact fun _ _ _ h => h
    case hwr12q15 => rfl
    case hyr12q15 => (intro w hSw; (try dsimp only at hSw); go_simp; (try with_reducible rfl))
    simp only [Act.put, List.setIfInBounds_toArray, List.set_cons_zero, List.set_cons_succ]
    refine wpAnyH_take (i := 16) (oi := ?dqr12q16) (v := ?dvr12q16) ?hir12q16 (by kernel_rfl) (by kernel_rfl) (by kernel_rfl) ?hQr12q16 (Or.inl ⟨?hwr12q16, ?hyr12q16⟩) hS ?hrr12q16
    case hir12q16 => simp only [List.getElem?_toArray, List.getElem?_cons_succ, List.getElem?_cons_zero]; rfl
    case hQr12q16 => exact fun _ _ _ h => h
    case hwr12q16 => rfl
    case hyr12q16 => (intro w hSw; (try dsimp only at hSw); go_simp; (try with_reducible rfl))
    simp only [Act.put, List.setIfInBounds_toArray, List.set_cons_zero, List.set_cons_succ]
    refine wpAnyH_take (i := 17) (oi := ?dqr12q17) (v := ?dvr12q17) ?hir12q17 (by kernel_rfl) (by kernel_rfl) (by kernel_rfl) ?hQr12q17 (Or.inl ⟨?hwr12q17, ?hyr12q17⟩) hS ?hrr12q17
    case hir12q17 => simp only [List.getElem?_toArray, List.getElem?_cons_succ, List.getElem?_cons_zero]; rfl
    case hQr12q17 => exact fun _ _ _ h => h
    case hwr12q17 => rfl
    case hyr12q17 => (intro w hSw; (try dsimp only at hSw); go_simp; (try with_reducible rfl))
    simp only [Act.put, List.setIfInBounds_toArray, List.set_cons_zero, List.set_cons_succ]
    refine wpAnyH_ready (rs := [18]) (by kernel_rfl) (by simp) ?_
    refine AllReadyH.cons (o := ?dqr12q18) ?hir12q18 (fun K hK => ?_) AllReadyH.nil
    case hir12q18 => simp only [List.getElem?_toArray, List.getElem?_cons_succ, List.getElem?_cons_zero]; rfl
    go_simp
    go_at_call 20
    refine (cA0.out _ _ _ (A5.out.after hN'.out hS.2.2.2.2.2.2) rfl).mono ?_
    rintro e v18 ⟨rfl, hb⟩
    have hS2 := (And.intro (keep_cell hb hS.1) (And.intro (keep_cell hb hS.2.1) (And.intro (keep_cell hb hS.2.2.1) (And.intro (keep_cell hb hS.2.2.2.1) (And.intro (keep_cell hb hS.2.2.2.2.1) (And.intro (keep_cell hb hS.2.2.2.2.2.1) (Below.after hS.2.2.2.2.2.2 hb)))))))
    clear hS
    refine hK.out _ _ hS2 (fun hS => ?_)
    clear hS2 hK K
    try simp only [Act.put, List.setIfInBounds_toArray, List.set_cons_zero, List.set_cons_succ]
    refine wpAnyH_take (i := 19) (oi := ?dqr12q19) (v := ?dvr12q19) ?hir12q19 (by kernel_rfl) (by kernel_rfl) (by kernel_rfl) ?hQr12q19 (Or.inl ⟨?hwr12q19, ?hyr12q19⟩) hS ?hrr12q19
    case hir12q19 => simp only [List.getElem?_toArray, List.getElem?_cons_succ, List.getElem?_cons_zero]; rfl
    case hQr12q19 => exact fun _ _ _ h => h
    case hwr12q19 => rfl
    case hyr12q19 => (intro w hSw; (try dsimp only at hSw); go_simp; (try with_reducible rfl))
    simp only [Act.put, List.setIfInBounds_toArray, List.set_cons_zero, List.set_cons_succ]
    refine wpAnyH_take (i := 20) (oi := ?dqr12q20) (v := ?dvr12q20) ?hir12q20 (by kernel_rfl) (by kernel_rfl) (by kernel_rfl) ?hQr12q20 (Or.inl ⟨?hwr12q20, ?hyr12q20⟩) hS ?hrr12q20
    case hir12q20 => simp only [List.getElem?_toArray, List.getElem?_cons_succ, List.getElem?_cons_zero]; rfl
    case hQr12q20 => exact fun _ _ _ h => h
    case hwr12q20 => rfl
    case hyr12q20 => (intro w hSw; (try dsimp only at hSw); go_simp; (try with_reducible rfl))
    simp only [Act.put, List.setIfInBounds_toArray, List.set_cons_zero, List.set_cons_succ]
    refine wpAnyH_take (i := 21) (oi := ?dqr12q21) (v := ?dvr12q21) ?hir12q21 (by kernel_rfl) (by kernel_rfl) (by kernel_rfl) ?hQr12q21 (Or.inl ⟨?hwr12q21, ?hyr12q21⟩) hS ?hrr12q21
    case hir12q21 => simp only [List.getElem?_toArray, List.getElem?_cons_succ, List.getElem?_cons_zero]; rfl
    case hQr12q21 => exact fun _ _ _ h => h
    case hwr12q21 => rfl
    case hyr12q21 => (intro w hSw; (try dsimp only at hSw); go_simp; (try with_reducible rfl))
    simp only [Act.put, List.setIfInBounds_toArray, List.set_cons_zero, List.set_cons_succ]
    refine wpAnyH_ready (rs := [22]) (by kernel_rfl) (by simp) ?_
    refine AllReadyH.cons (o := ?dqr12q22) ?hir12q22 (fun K hK => ?_) AllReadyH.nil
    case hir12q22 => simp only [List.getElem?_toArray, List.getElem?_cons_succ, List.getElem?_cons_zero]; rfl
    go_simp
    go_at_call 20
    refine (c0B.out _ _ _ rfl (B5.out.after hN'.out hS.2.2.2.2.2.2)).mono ?_
    rintro e v22 ⟨rfl, hb⟩
    have hS2 := (And.intro (keep_cell hb hS.1) (And.intro (keep_cell hb hS.2.1) (And.intro (keep_cell hb hS.2.2.1) (And.intro (keep_cell hb hS.2.2.2.1) (And.intro (keep_cell hb hS.2.2.2.2.1) (And.intro (keep_cell hb hS.2.2.2.2.2.1) (Below.after hS.2.2.2.2.2.2 hb)))))))
    clear hS
    refine hK.out _ _ hS2 (fun hS => ?_)
    clear hS2 hK K
    try simp only [Act.put, List.setIfInBounds_toArray, List.set_cons_zero, List.set_cons_succ]
    refine wpAnyH_take (i := 23) (oi := ?dqr12q23) (v := ?dvr12q23) ?hir12q23 (by kernel_rfl) (by kernel_rfl) (by kernel_rfl) ?hQr12q23 (Or.inl ⟨?hwr12q23, ?hyr12q23⟩) hS ?hrr12q23
    case hir12q23 => simp only [List.getElem?_toArray, List.getElem?_cons_succ, List.getElem?_cons_zero]; rfl
    case hQr12q23 => exact fun _ _ _ h => h
    case hwr12q23 => rfl
    case hyr12q23 => (intro w hSw; (try dsimp only at hSw); go_simp; (try with_reducible rfl))
    simp only [Act.put, List.setIfInBounds_toArray, List.set_cons_zero, List.set_cons_succ]
    refine wpAnyH_done (by kernel_rfl) ?_ _
    have hb5 := Lib.hid hS.2.2.2.2.2.2
    have B_5 := Lib.hid (Below.after B_4.out hb5.out)
    have A6 := Lib.hid (A5.out.after hN'.out hb5.out)
    have B6 := Lib.hid (B5.out.after hN'.out hb5.out)
    obtain ⟨f0, f1, f2, g0, g1, g2, -⟩ := hS
    clear hb5 B_4 A5 B5
    go_wp2_with fail
    refine (cAB.out v22 _ _ A6.out B6.out).mono ?_
    rintro e w7 ⟨rfl, hb⟩
    have B_7 := Lib.hid (Below.after B_5.out hb)
    have A7 := Lib.hid (A6.out.after hN'.out hb)
    have B7 := Lib.hid (B6.out.after hN'.out hb)
    clear hb B_5 A6 B6 f0 f1 f2 g0 g1 g2
    go_wp2_with fail
    refine (cBA.out w7 _ _ B7.out A7.out).mono ?_
    rintro e w8 ⟨rfl, hb⟩
    have B_8 := Lib.hid (Below.after B_7.out hb)
    have A8 := Lib.hid (A7.out.after hN'.out hb)
    have B8 := Lib.hid (B7.out.after hN'.out hb)
    clear hb B_7 A7 B7
    go_wp2_with fail
    refine (cAB.out w8 _ _ A8.out B8.out).mono ?_
    rintro e w9 ⟨rfl, hb⟩
    have B_9 := Lib.hid (Below.after B_8.out hb)
    have A9 := Lib.hid (A8.out.after hN'.out hb)
    have B9 := Lib.hid (B8.out.after hN'.out hb)
    clear hb B_8 A8 B8
    go_wp2_with fail
    refine (cA.out w9 B_9.out).mono ?_
    rintro e w10 ⟨rfl, hb⟩
    have B_10 := Lib.hid (Below.after B_9.out hb)
    clear hb
    go_wp2
    go_ret
    exact ⟨rfl, B_10.out⟩
set_option maxHeartbeats 8000000 in
theorem treapAbove_eq (hN : NodeSays Nd) (hS : TreapSays Nd T) (x : It) (v' : BitVec 64) (A : Option Addr) (n c : Nat) (l : List Bd) (t : Tr) (w : World) (hT : T w) (h : LongAt w A n c false) (ht : TreeIn w A n c l t) : Calls Tryd.prog 4 #[itV x, itV ⟨x.k, v', x.g⟩, .slice A n c] w fun e w' => e = .returned (.bool true) ∧ Below w.heap.size w w' := by
  have cA : Hid (∀ W, Below w.heap.size w W → Calls Tryd.prog 8 #[] W fun e w' => e = .returned (.bool true) ∧ Below W.heap.size W w') := fun W hb => alive20_any hN hS W (hS.now w W hT hb)
  have c0 := Lib.hid h
  have cM := Lib.hid (ht.make hN)
  have g1 : x.rk = It.rk ⟨x.k, v', x.g⟩ := rfl
  have hab : aboveI x ⟨x.k, v', x.g⟩ = false := decide_eq_false (by omega)
  have hba : aboveI ⟨x.k, v', x.g⟩ x = false := decide_eq_false (by omega)
  obtain ⟨ta, hta⟩ : ∃ u, Tr.n t x.k x.v x.g .e = u := ⟨_, rfl⟩
  obtain ⟨tb, htb⟩ : ∃ u, Tr.n .e x.k v' x.g t = u := ⟨_, rfl⟩
  have cN1 : Hid (∀ W p, TreeAt Nd W W.heap.size t p → Calls Tryd.prog 19 #[.pointer p, K x.k, K x.v, G64 x.g, .pointer none] W fun e w' => ∃ a, e = .returned (.pointer (some a)) ∧ TreeAt Nd w' w'.heap.size ta (some a) ∧ Below W.heap.size W w') := fun W p h => (new9 hN W p none t .e x.k x.v x.g h rfl).mono fun e w' ⟨a, k1, _, _, k4, k5⟩ => ⟨a, k1, hta ▸ k4, k5⟩
  have cN2 : Hid (∀ W p, TreeAt Nd W W.heap.size t p → Calls Tryd.prog 19 #[.pointer none, K x.k, K v', G64 x.g, .pointer p] W fun e w' => ∃ a, e = .returned (.pointer (some a)) ∧ TreeAt Nd w' w'.heap.size tb (some a) ∧ Below W.heap.size W w') := fun W p h => (new9 hN W none p .e t x.k v' x.g rfl h).mono fun e w' ⟨a, k1, _, _, k4, k5⟩ => ⟨a, k1, htb ▸ k4, k5⟩
  have cAB : Hid (∀ W p q, TreeAt Nd W W.heap.size ta p → TreeAt Nd W W.heap.size tb q → Calls Tryd.prog 20 #[.pointer p, .pointer q] W fun e w' => e = .returned (.bool false) ∧ Below W.heap.size W w') := fun W p q h1 h2 => by
    have := hS.above W ta tb p q h1 h2
    rw [show aboveT ta tb = false from by rw [← hta, ← htb]; exact hab] at this
    exact this
  have cBA : Hid (∀ W p q, TreeAt Nd W W.heap.size tb p → TreeAt Nd W W.heap.size ta q → Calls Tryd.prog 20 #[.pointer p, .pointer q] W fun e w' => e = .returned (.bool false) ∧ Below W.heap.size W w') := fun W p q h1 h2 => by
    have := hS.above W tb ta p q h1 h2
    rw [show aboveT tb ta = false from by rw [← hta, ← htb]; exact hba] at this
    exact this
  have cA0 : Hid (∀ W p q, TreeAt Nd W W.heap.size ta p → TreeAt Nd W W.heap.size .e q → Calls Tryd.prog 20 #[.pointer p, .pointer q] W fun e w' => e = .returned (.bool false) ∧ Below W.heap.size W w') := fun W p q h1 h2 => by
    have := hS.above W ta .e p q h1 h2
    rw [show aboveT ta .e = false from by rw [← hta]; rfl] at this
    exact this
  have c0B : Hid (∀ W p q, TreeAt Nd W W.heap.size .e p → TreeAt Nd W W.heap.size tb q → Calls Tryd.prog 20 #[.pointer p, .pointer q] W fun e w' => e = .returned (.bool false) ∧ Below W.heap.size W w') := fun W p q h1 h2 => by
    have := hS.above W .e tb p q h1 h2
    rw [show aboveT .e tb = false from rfl] at this
    exact this
  have rXY : Hid (∀ W, Calls Tryd.prog 21 #[itV x, itV ⟨x.k, v', x.g⟩] W fun e w' => e = .returned (.bool false) ∧ Below W.heap.size W w') := fun W => hab ▸ refAbove20 x ⟨x.k, v', x.g⟩ W
  have rYX : Hid (∀ W, Calls Tryd.prog 21 #[itV ⟨x.k, v', x.g⟩, itV x] W fun e w' => e = .returned (.bool false) ∧ Below W.heap.size W w') := fun W => hba ▸ refAbove20 ⟨x.k, v', x.g⟩ x W
  have heq := rk_eq x ⟨x.k, v', x.g⟩
  have t1 := toNat_beq x.g x.g
  have t2 := toInt_beq x.k x.k
  have hN' := Lib.hid hN
  have g1' := Lib.hid g1
  have heq' := Lib.hid heq
  clear hta htb hab hba hN hS hT h ht g1 heq
  go_enter Tryd.func4, Tryd.ntmps4
  go_upto_region 1 with (fail)
  obtain ⟨w1, hw1⟩ : ∃ W, w.alloc (.cells #[K x.k, K x.v, G64 x.g] 38) = W := ⟨_, rfl⟩
  have hx1 := hw1 ▸ Has.new w 38 #[K x.k, K x.v, G64 x.g]
  have bx1 : Below w.heap.size w w1 := hw1 ▸ (Below.refl _ _).alloc (Nat.le_refl _) _
  obtain ⟨p1, hp1⟩ : ∃ p, w.heap.size = p := ⟨_, rfl⟩
  obtain ⟨w2, hw2⟩ : ∃ W, w1.alloc (.cells #[K x.k, K v', G64 x.g] 38) = W := ⟨_, rfl⟩
  have hx2 := hw2 ▸ Has.new w1 38 #[K x.k, K v', G64 x.g]
  have bx2 : Below w1.heap.size w1 w2 := hw2 ▸ (Below.refl _ _).alloc (Nat.le_refl _) _
  have hs1 : w1.heap.size = p1 + 1 := by rw [← hw1, World.size_alloc, hp1]
  have hx1 := hx1.next bx2
  have B_2 := Lib.hid (Below.after bx1 bx2)
  rw [show w.alloc (.cells #[.int .i64 x.k.toInt, .int .i64 x.v.toInt, .int .u64 (x.g.toNat : Int)] 38) = w1 from hw1, show w1.alloc (.cells #[.int .i64 x.k.toInt, .int .i64 v'.toInt, .int .u64 (x.g.toNat : Int)] 38) = w2 from hw2]
  clear hw1 hw2 bx1 bx2
  rw [hs1] at hx2
  rw [hp1]
  obtain ⟨p2, hp2⟩ : ∃ p, p1 + 1 = p := ⟨_, rfl⟩
  rw [hp2] at hx2 ⊢
  rw [hp1] at hx1
  have hx1' := Lib.hid hx1
  have hx2' := Lib.hid hx2
  clear hx1 hx2 hs1 hp1 hp2
  go_wp2_with fail
  refine (c0.out w2 B_2.out).mono ?_
  rintro e w' ⟨rfl, rfl⟩
  go_wp2_with fail
  refine (cM.out w2 B_2.out).mono ?_
  rintro e w3 ⟨p, rfl, hP, hb⟩
  have B_3 := Lib.hid (Below.after B_2.out hb)
  have P_3 := Lib.hid hP
  obtain ⟨f0, f1, f2⟩ := three (hx1'.out.next hb)
  obtain ⟨g0, g1, g2⟩ := three (hx2'.out.next hb)
  clear hb hP hx1' hx2' B_2
  clear t1 t2 g1' heq'
  go_upto_region 4 with (fail)
  refine wp_region_held_drew (S := fun W => W.cell? ⟨p1, 0, none⟩ = some (K x.k) ∧ W.cell? ⟨p1, 1, none⟩ = some (K x.v) ∧ W.cell? ⟨p1, 2, none⟩ = some (G64 x.g) ∧ W.cell? ⟨p2, 0, none⟩ = some (K x.k) ∧ W.cell? ⟨p2, 1, none⟩ = some (K v') ∧ W.cell? ⟨p2, 2, none⟩ = some (G64 x.g) ∧ Below w3.heap.size w3 W) (by kernel_rfl) ⟨f0, f1, f2, g0, g1, g2, (Below.refl _ w3).drew⟩ (fun hS => ?_)
  refine wpAnyH_take (i := 0) (oi := ?dqr13q0) (v := ?dvr13q0) ?hir13q0 (by kernel_rfl) (by kernel_rfl) (by kernel_rfl) ?hQr13q0 (Or.inl ⟨?hwr13q0, ?hyr13q0⟩) hS ?hrr13q0
  case hir13q0 => simp only [List.getElem?_toArray, List.getElem?_cons_zero]; rfl
  case hQr13q0 => exact fun _ _ _ h => h
  case hwr13q0 => rfl
  case hyr13q0 => (intro w hSw; (try dsimp only at hSw); go_simp; (try with_reducible rfl))
  simp only [Act.put, List.setIfInBounds_toArray, List.set_cons_zero, List.set_cons_succ]
  refine wpAnyH_take (i := 1) (oi := ?dqr13q1) (v := ?dvr13q1) ?hir13q1 (by kernel_rfl) (by kernel_rfl) (by kernel_rfl) ?hQr13q1 (Or.inl ⟨?hwr13q1, ?hyr13q1⟩) hS ?hrr13q1
  case hir13q1 => simp only [List.getElem?_toArray, List.getElem?_cons_succ, List.getElem?_cons_zero]; rfl
  case hQr13q1 => exact fun _ _ _ h => h
  case hwr13q1 => rfl
  case hyr13q1 => (intro w hSw; (try dsimp only at hSw); go_simp; (try with_reducible rfl))
  simp only [Act.put, List.setIfInBounds_toArray, List.set_cons_zero, List.set_cons_succ]
  refine wpAnyH_take (i := 2) (oi := ?dqr13q2) (v := ?dvr13q2) ?hir13q2 (by kernel_rfl) (by kernel_rfl) (by kernel_rfl) ?hQr13q2 (Or.inl ⟨?hwr13q2, ?hyr13q2⟩) hS ?hrr13q2
  case hir13q2 => simp only [List.getElem?_toArray, List.getElem?_cons_succ, List.getElem?_cons_zero]; rfl
  case hQr13q2 => exact fun _ _ _ h => h
  case hwr13q2 => rfl
  case hyr13q2 => (intro w hSw; (try dsimp only at hSw); go_simp; (try with_reducible rfl))
  simp only [Act.put, List.setIfInBounds_toArray, List.set_cons_zero, List.set_cons_succ]
  refine wpAnyH_take (i := 3) (oi := ?dqr13q3) (v := ?dvr13q3) ?hir13q3 (by kernel_rfl) (by kernel_rfl) (by kernel_rfl) ?hQr13q3 (Or.inl ⟨?hwr13q3, ?hyr13q3⟩) hS ?hrr13q3
  case hir13q3 => simp only [List.getElem?_toArray, List.getElem?_cons_succ, List.getElem?_cons_zero]; rfl
  case hQr13q3 => exact fun _ _ _ h => h
  case hwr13q3 => rfl
  case hyr13q3 => (intro w hSw; (try dsimp only at hSw); go_simp; (try with_reducible rfl))
  simp only [Act.put, List.setIfInBounds_toArray, List.set_cons_zero, List.set_cons_succ]
  refine wpAnyH_take (i := 4) (oi := ?dqr13q4) (v := ?dvr13q4) ?hir13q4 (by kernel_rfl) (by kernel_rfl) (by kernel_rfl) ?hQr13q4 (Or.inl ⟨?hwr13q4, ?hyr13q4⟩) hS ?hrr13q4
  case hir13q4 => simp only [List.getElem?_toArray, List.getElem?_cons_succ, List.getElem?_cons_zero]; rfl
  case hQr13q4 => exact fun _ _ _ h => h
  case hwr13q4 => rfl
  case hyr13q4 => (intro w hSw; (try dsimp only at hSw); go_simp; (try with_reducible rfl))
  simp only [Act.put, List.setIfInBounds_toArray, List.set_cons_zero, List.set_cons_succ]
  refine wpAnyH_take (i := 5) (oi := ?dqr13q5) (v := ?dvr13q5) ?hir13q5 (by kernel_rfl) (by kernel_rfl) (by kernel_rfl) ?hQr13q5 (Or.inl ⟨?hwr13q5, ?hyr13q5⟩) hS ?hrr13q5
  case hir13q5 => simp only [List.getElem?_toArray, List.getElem?_cons_succ, List.getElem?_cons_zero]; rfl
  case hQr13q5 => exact fun _ _ _ h => h
  case hwr13q5 => rfl
  case hyr13q5 => (intro w hSw; (try dsimp only at hSw); go_simp; (try with_reducible rfl))
  simp only [Act.put, List.setIfInBounds_toArray, List.set_cons_zero, List.set_cons_succ]
  refine wpAnyH_take (i := 6) (oi := ?dqr13q6) (v := ?dvr13q6) ?hir13q6 (by kernel_rfl) (by kernel_rfl) (by kernel_rfl) ?hQr13q6 (Or.inl ⟨?hwr13q6, ?hyr13q6⟩) hS ?hrr13q6
  case hir13q6 => simp only [List.getElem?_toArray, List.getElem?_cons_succ, List.getElem?_cons_zero]; rfl
  case hQr13q6 => exact fun _ _ _ h => h
  case hwr13q6 => rfl
  case hyr13q6 => (intro w hSw; (try dsimp only at hSw); go_simp; (try with_reducible rfl))
  simp only [Act.put, List.setIfInBounds_toArray, List.set_cons_zero, List.set_cons_succ]
  refine wpAnyH_take (i := 8) (oi := ?dqr13q8) (v := ?dvr13q8) ?hir13q8 (by kernel_rfl) (by kernel_rfl) (by kernel_rfl) ?hQr13q8 (Or.inl ⟨?hwr13q8, ?hyr13q8⟩) hS ?hrr13q8
  case hir13q8 => simp only [List.getElem?_toArray, List.getElem?_cons_succ, List.getElem?_cons_zero]; rfl
  case hQr13q8 => exact fun _ _ _ h => h
  case hwr13q8 => rfl
  case hyr13q8 => (intro w hSw; (try dsimp only at hSw); go_simp; (try with_reducible rfl))
  simp only [Act.put, List.setIfInBounds_toArray, List.set_cons_zero, List.set_cons_succ]
  refine wpAnyH_take (i := 9) (oi := ?dqr13q9) (v := ?dvr13q9) ?hir13q9 (by kernel_rfl) (by kernel_rfl) (by kernel_rfl) ?hQr13q9 (Or.inl ⟨?hwr13q9, ?hyr13q9⟩) hS ?hrr13q9
  case hir13q9 => simp only [List.getElem?_toArray, List.getElem?_cons_succ, List.getElem?_cons_zero]; rfl
  case hQr13q9 => exact fun _ _ _ h => h
  case hwr13q9 => rfl
  case hyr13q9 => (intro w hSw; (try dsimp only at hSw); go_simp; (try with_reducible rfl))
  simp only [Act.put, List.setIfInBounds_toArray, List.set_cons_zero, List.set_cons_succ]
  refine wpAnyH_take (i := 10) (oi := ?dqr13q10) (v := ?dvr13q10) ?hir13q10 (by kernel_rfl) (by kernel_rfl) (by kernel_rfl) ?hQr13q10 (Or.inl ⟨?hwr13q10, ?hyr13q10⟩) hS ?hrr13q10
  case hir13q10 => simp only [List.getElem?_toArray, List.getElem?_cons_succ, List.getElem?_cons_zero]; rfl
  case hQr13q10 => exact fun _ _ _ h => h
  case hwr13q10 => rfl
  case hyr13q10 => (intro w hSw; (try dsimp only at hSw); go_simp; (try with_reducible rfl))
  simp only [Act.put, List.setIfInBounds_toArray, List.set_cons_zero, List.set_cons_succ]
  refine wpAnyH_take (i := 11) (oi := ?dqr13q11) (v := ?dvr13q11) ?hir13q11 (by kernel_rfl) (by kernel_rfl) (by kernel_rfl) ?hQr13q11 (Or.inl ⟨?hwr13q11, ?hyr13q11⟩) hS ?hrr13q11
  case hir13q11 => simp only [List.getElem?_toArray, List.getElem?_cons_succ, List.getElem?_cons_zero]; rfl
  case hQr13q11 => exact fun _ _ _ h => h
  case hwr13q11 => rfl
  case hyr13q11 => (intro w hSw; (try dsimp only at hSw); go_simp; (try with_reducible rfl))
  simp only [Act.put, List.setIfInBounds_toArray, List.set_cons_zero, List.set_cons_succ]
  refine wpAnyH_take (i := 12) (oi := ?dqr13q12) (v := ?dvr13q12) ?hir13q12 (by kernel_rfl) (by kernel_rfl) (by kernel_rfl) ?hQr13q12 (Or.inl ⟨?hwr13q12, ?hyr13q12⟩) hS ?hrr13q12
  case hir13q12 => simp only [List.getElem?_toArray, List.getElem?_cons_succ, List.getElem?_cons_zero]; rfl
  case hQr13q12 => exact fun _ _ _ h => h
  case hwr13q12 => rfl
  case hyr13q12 => (intro w hSw; (try dsimp only at hSw); go_simp; (try with_reducible rfl))
  simp only [Act.put, List.setIfInBounds_toArray, List.set_cons_zero, List.set_cons_succ]
  refine wpAnyH_take (i := 13) (oi := ?dqr13q13) (v := ?dvr13q13) ?hir13q13 (by kernel_rfl) (by kernel_rfl) (by kernel_rfl) ?hQr13q13 (Or.inl ⟨?hwr13q13, ?hyr13q13⟩) hS ?hrr13q13
  case hir13q13 => simp only [List.getElem?_toArray, List.getElem?_cons_succ, List.getElem?_cons_zero]; rfl
  case hQr13q13 => exact fun _ _ _ h => h
  case hwr13q13 => rfl
  case hyr13q13 => (intro w hSw; (try dsimp only at hSw); go_simp; (try with_reducible rfl))
  simp only [Act.put, List.setIfInBounds_toArray, List.set_cons_zero, List.set_cons_succ]
  refine wpAnyH_take (i := 14) (oi := ?dqr13q14) (v := ?dvr13q14) ?hir13q14 (by kernel_rfl) (by kernel_rfl) (by kernel_rfl) ?hQr13q14 (Or.inl ⟨?hwr13q14, ?hyr13q14⟩) hS ?hrr13q14
  case hir13q14 => simp only [List.getElem?_toArray, List.getElem?_cons_succ, List.getElem?_cons_zero]; rfl
  case hQr13q14 => exact fun _ _ _ h => h
  case hwr13q14 => rfl
  case hyr13q14 => (intro w hSw; (try dsimp only at hSw); go_simp; (try with_reducible rfl))
  simp only [Act.put, List.setIfInBounds_toArray, List.set_cons_zero, List.set_cons_succ]
  refine wpAnyH_ready (rs := [7]) (by kernel_rfl) (by simp) ?_
  refine AllReadyH.cons (o := ?dqr13q7) ?hir13q7 (fun K hK => ?_) AllReadyH.nil
  case hir13q7 => simp only [List.getElem?_toArray, List.getElem?_cons_succ, List.getElem?_cons_zero]; rfl
  go_simp
  go_at_call 19
  refine (cN1.out _ _ (P_3.out.after hN'.out hS.2.2.2.2.2.2)).mono ?_
  rintro e u1 ⟨a, rfl, hA, hb⟩
  have A1 := Lib.hid hA
  have P1 := Lib.hid ((P_3.out.after hN'.out hS.2.2.2.2.2.2).after hN'.out hb)
  clear hA
  have hS2 := (And.intro (keep_cell hb hS.1) (And.intro (keep_cell hb hS.2.1) (And.intro (keep_cell hb hS.2.2.1) (And.intro (keep_cell hb hS.2.2.2.1) (And.intro (keep_cell hb hS.2.2.2.2.1) (And.intro (keep_cell hb hS.2.2.2.2.2.1) (Below.after hS.2.2.2.2.2.2 hb)))))))
  clear hS
  refine hK.out _ _ hS2 (fun hS => ?_)
  clear hS2 hK K
  try simp only [Act.put, List.setIfInBounds_toArray, List.set_cons_zero, List.set_cons_succ]
  refine wpAnyH_ready (rs := [15]) (by kernel_rfl) (by simp) ?_
  refine AllReadyH.cons (o := ?dqr13q15) ?hir13q15 (fun K hK => ?_) AllReadyH.nil
  case hir13q15 => simp only [List.getElem?_toArray, List.getElem?_cons_succ, List.getElem?_cons_zero]; rfl
  go_simp
  go_at_call 19
  refine (cN2.out _ _ P1.out).mono ?_
  rintro e u2 ⟨b, rfl, hB, hb⟩
  have B2 := Lib.hid hB
  have A2 := Lib.hid (A1.out.after hN'.out hb)
  clear hB A1 P1
  have hS2 := (And.intro (keep_cell hb hS.1) (And.intro (keep_cell hb hS.2.1) (And.intro (keep_cell hb hS.2.2.1) (And.intro (keep_cell hb hS.2.2.2.1) (And.intro (keep_cell hb hS.2.2.2.2.1) (And.intro (keep_cell hb hS.2.2.2.2.2.1) (Below.after hS.2.2.2.2.2.2 hb)))))))
  clear hS
  refine hK.out _ _ hS2 (fun hS => ?_)
  clear hS2 hK K
  try simp only [Act.put, List.setIfInBounds_toArray, List.set_cons_zero, List.set_cons_succ]
  refine wpAnyH_take (i := 16) (oi := ?dqr13q16) (v := ?dvr13q16) ?hir13q16 (by kernel_rfl) (by kernel_rfl) (by kernel_rfl) ?hQr13q16 (Or.inl ⟨?hwr13q16, ?hyr13q16⟩) hS ?hrr13q16
  case hir13q16 => simp only [List.getElem?_toArray, List.getElem?_cons_succ, List.getElem?_cons_zero]; rfl
  case hQr13q16 => exact fun _ _ _ h => h
  case hwr13q16 => rfl
  case hyr13q16 => (intro w hSw; (try dsimp only at hSw); go_simp; (try with_reducible rfl))
  simp only [Act.put, List.setIfInBounds_toArray, List.set_cons_zero, List.set_cons_succ]
  refine wpAnyH_take (i := 17) (oi := ?dqr13q17) (v := ?dvr13q17) ?hir13q17 (by kernel_rfl) (by kernel_rfl) (by kernel_rfl) ?hQr13q17 (Or.inl ⟨?hwr13q17, ?hyr13q17⟩) hS ?hrr13q17
  case hir13q17 => simp only [List.getElem?_toArray, List.getElem?_cons_succ, List.getElem?_cons_zero]; rfl
  case hQr13q17 => exact fun _ _ _ h => h
  case hwr13q17 => rfl
  case hyr13q17 => (intro w hSw; (try dsimp only at hSw); go_simp; (try with_reducible rfl))
  simp only [Act.put, List.setIfInBounds_toArray, List.set_cons_zero, List.set_cons_succ]
  refine wpAnyH_done (by kernel_rfl) ?_ _
  have hb4 := Lib.hid hS.2.2.2.2.2.2
  have B_4 := Lib.hid (Below.after B_3.out hb4.out)
  obtain ⟨f0, f1, f2, g0, g1, g2, -⟩ := hS
  clear hb4 B_3
  go_wp2_with fail
  obtain ⟨w5, hw5⟩ : ∃ W, u2 = W := ⟨_, rfl⟩
  rw [hw5] at A2 B2 B_4 f0 f1 f2 g0 g1 g2 ⊢
  have A5 := A2
  have B5 := B2
  clear hw5 A2 B2
  refine wp_region_held_drew (S := fun W => W.cell? ⟨p1, 0, none⟩ = some (K x.k) ∧ W.cell? ⟨p1, 1, none⟩ = some (K x.v) ∧ W.cell? ⟨p1, 2, none⟩ = some (G64 x.g) ∧ W.cell? ⟨p2, 0, none⟩ = some (K x.k) ∧ W.cell? ⟨p2, 1, none⟩ = some (K v') ∧ W.cell? ⟨p2, 2, none⟩ = some (G64 x.g) ∧ Below w5.heap.size w5 W) (by kernel_rfl) ⟨f0, f1, f2, g0, g1, g2, (Below.refl _ w5).drew⟩ (fun hS => ?_)
  refine wpAnyH_take (i := 0) (oi := ?dqr14q0) (v := ?dvr14q0) ?hir14q0 (by kernel_rfl) (by kernel_rfl) (by kernel_rfl) ?hQr14q0 (Or.inl ⟨?hwr14q0, ?hyr14q0⟩) hS ?hrr14q0
  case hir14q0 => simp only [List.getElem?_toArray, List.getElem?_cons_zero]; rfl
  case hQr14q0 => exact fun _ _ _ h => h
  case hwr14q0 => rfl
  case hyr14q0 => (intro w hSw; (try dsimp only at hSw); go_simp; (try with_reducible rfl))
  simp only [Act.put, List.setIfInBounds_toArray, List.set_cons_zero, List.set_cons_succ]
  refine wpAnyH_take (i := 1) (oi := ?dqr14q1) (v := ?dvr14q1) ?hir14q1 (by kernel_rfl) (by kernel_rfl) (by kernel_rfl) ?hQr14q1 (Or.inl ⟨?hwr14q1, ?hyr14q1⟩) hS ?hrr14q1
  case hir14q1 => simp only [List.getElem?_toArray, List.getElem?_cons_succ, List.getElem?_cons_zero]; rfl
  case hQr14q1 => exact fun _ _ _ h => h
  case hwr14q1 => rfl
  case hyr14q1 => (intro w hSw; (try dsimp only at hSw); go_simp; (try with_reducible rfl))
  simp only [Act.put, List.setIfInBounds_toArray, List.set_cons_zero, List.set_cons_succ]
  refine wpAnyH_take (i := 3) (oi := ?dqr14q3) (v := ?dvr14q3) ?hir14q3 (by kernel_rfl) (by kernel_rfl) (by kernel_rfl) ?hQr14q3 (Or.inl ⟨?hwr14q3, ?hyr14q3⟩) hS ?hrr14q3
  case hir14q3 => simp only [List.getElem?_toArray, List.getElem?_cons_succ, List.getElem?_cons_zero]; rfl
  case hQr14q3 => exact fun _ _ _ h => h
  case hwr14q3 => rfl
  case hyr14q3 => (intro w hSw; (try dsimp only at hSw); go_simp; (try with_reducible rfl))
  simp only [Act.put, List.setIfInBounds_toArray, List.set_cons_zero, List.set_cons_succ]
  refine wpAnyH_take (i := 4) (oi := ?dqr14q4) (v := ?dvr14q4) ?hir14q4 (by kernel_rfl) (by kernel_rfl) (by kernel_rfl) ?hQr14q4 (Or.inl ⟨?hwr14q4, ?hyr14q4⟩) hS ?hrr14q4
  case hir14q4 => simp only [List.getElem?_toArray, List.getElem?_cons_succ, List.getElem?_cons_zero]; rfl
  case hQr14q4 => exact fun _ _ _ h => h
  case hwr14q4 => rfl
  case hyr14q4 => (intro w hSw; (try dsimp only at hSw); go_simp; (try with_reducible rfl))
  simp only [Act.put, List.setIfInBounds_toArray, List.set_cons_zero, List.set_cons_succ]
  refine wpAnyH_ready (rs := [2]) (by kernel_rfl) (by simp) ?_
  refine AllReadyH.cons (o := ?dqr14q2) ?hir14q2 (fun K hK => ?_) AllReadyH.nil
  case hir14q2 => simp only [List.getElem?_toArray, List.getElem?_cons_succ, List.getElem?_cons_zero]; rfl
  go_simp
  go_at_call 20
  refine (cAB.out _ _ _ (A5.out.after hN'.out hS.2.2.2.2.2.2) (B5.out.after hN'.out hS.2.2.2.2.2.2)).mono ?_
  rintro e v2 ⟨rfl, hb⟩
  have hS2 := (And.intro (keep_cell hb hS.1) (And.intro (keep_cell hb hS.2.1) (And.intro (keep_cell hb hS.2.2.1) (And.intro (keep_cell hb hS.2.2.2.1) (And.intro (keep_cell hb hS.2.2.2.2.1) (And.intro (keep_cell hb hS.2.2.2.2.2.1) (Below.after hS.2.2.2.2.2.2 hb)))))))
  clear hS
  refine hK.out _ _ hS2 (fun hS => ?_)
  clear hS2 hK K
  try simp only [Act.put, List.setIfInBounds_toArray, List.set_cons_zero, List.set_cons_succ]
  refine wpAnyH_ready (rs := [5]) (by kernel_rfl) (by simp) ?_
  refine AllReadyH.cons (o := ?dqr14q5) ?hir14q5 (fun K hK => ?_) AllReadyH.nil
  case hir14q5 => simp only [List.getElem?_toArray, List.getElem?_cons_succ, List.getElem?_cons_zero]; rfl
  go_simp
  go_at_call 21
  refine (rXY.out _).mono ?_
  rintro e v5 ⟨rfl, hb⟩
  have hS2 := (And.intro (keep_cell hb hS.1) (And.intro (keep_cell hb hS.2.1) (And.intro (keep_cell hb hS.2.2.1) (And.intro (keep_cell hb hS.2.2.2.1) (And.intro (keep_cell hb hS.2.2.2.2.1) (And.intro (keep_cell hb hS.2.2.2.2.2.1) (Below.after hS.2.2.2.2.2.2 hb)))))))
  clear hS
  refine hK.out _ _ hS2 (fun hS => ?_)
  clear hS2 hK K
  try simp only [Act.put, List.setIfInBounds_toArray, List.set_cons_zero, List.set_cons_succ]
  refine wpAnyH_take (i := 6) (oi := ?dqr14q6) (v := ?dvr14q6) ?hir14q6 (by kernel_rfl) (by kernel_rfl) (by kernel_rfl) ?hQr14q6 (Or.inl ⟨?hwr14q6, ?hyr14q6⟩) hS ?hrr14q6
  case hir14q6 => simp only [List.getElem?_toArray, List.getElem?_cons_succ, List.getElem?_cons_zero]; rfl
  case hQr14q6 => exact fun _ _ _ h => h
  case hwr14q6 => rfl
  case hyr14q6 => (intro w hSw; (try dsimp only at hSw); go_simp; (try with_reducible rfl))
  simp only [Act.put, List.setIfInBounds_toArray, List.set_cons_zero, List.set_cons_succ]
  refine wpAnyH_take (i := 7) (oi := ?dqr14q7) (v := ?dvr14q7) ?hir14q7 (by kernel_rfl) (by kernel_rfl) (by kernel_rfl) ?hQr14q7 (Or.inl ⟨?hwr14q7, ?hyr14q7⟩) hS ?hrr14q7
  case hir14q7 => simp only [List.getElem?_toArray, List.getElem?_cons_succ, List.getElem?_cons_zero]; rfl
  case hQr14q7 => exact fun _ _ _ h => h
  case hwr14q7 => rfl
  case hyr14q7 => (intro w hSw; (try dsimp only at hSw); go_simp; (try with_reducible rfl))
  simp only [Act.put, List.setIfInBounds_toArray, List.set_cons_zero, List.set_cons_succ]
  refine wpAnyH_take (i := 8) (oi := ?dqr14q8) (v := ?dvr14q8) ?hir14q8 (by kernel_rfl) (by kernel_rfl) (by kernel_rfl) ?hQr14q8 (Or.inl ⟨?hwr14q8, ?hyr14q8⟩) hS ?hrr14q8
  case hir14q8 => simp only [List.getElem?_toArray, List.getElem?_cons_succ, List.getElem?_cons_zero]; rfl
  case hQr14q8 => exact fun _ _ _ h => h
  case hwr14q8 => rfl
  case hyr14q8 => (intro w hSw; (try dsimp only at hSw); go_simp; (try with_reducible rfl))
  simp only [Act.put, List.setIfInBounds_toArray, List.set_cons_zero, List.set_cons_succ]
  refine wpAnyH_take (i := 9) (oi := ?dqr14q9) (v := ?dvr14q9) ?hir14q9 (by kernel_rfl) (by kernel_rfl) (by kernel_rfl) ?hQr14q9 (Or.inl ⟨?hwr14q9, ?hyr14q9⟩) hS ?hrr14q9
  case hir14q9 => simp only [List.getElem?_toArray, List.getElem?_cons_succ, List.getElem?_cons_zero]; rfl
  case hQr14q9 => exact fun _ _ _ h => h
  case hwr14q9 => rfl
  case hyr14q9 => (intro w hSw; (try dsimp only at hSw); go_simp; (try with_reducible rfl))
  simp only [Act.put, List.setIfInBounds_toArray, List.set_cons_zero, List.set_cons_succ]
  refine wpAnyH_take (i := 11) (oi := ?dqr14q11) (v := ?dvr14q11) ?hir14q11 (by kernel_rfl) (by kernel_rfl) (by kernel_rfl) ?hQr14q11 (Or.inl ⟨?hwr14q11, ?hyr14q11⟩) hS ?hrr14q11
  case hir14q11 => simp only [List.getElem?_toArray, List.getElem?_cons_succ, List.getElem?_cons_zero]; rfl
  case hQr14q11 => exact fun _ _ _ h => h
  case hwr14q11 => rfl
  case hyr14q11 => (intro w hSw; (try dsimp only at hSw); go_simp; (try with_reducible rfl))
  simp only [Act.put, List.setIfInBounds_toArray, List.set_cons_zero, List.set_cons_succ]
  refine wpAnyH_take (i := 12) (oi := ?dqr14q12) (v := ?dvr14q12) ?hir14q12 (by kernel_rfl) (by kernel_rfl) (by kernel_rfl) ?hQr14q12 (Or.inl ⟨?hwr14q12, ?hyr14q12⟩) hS ?hrr14q12
  case hir14q12 => simp only [List.getElem?_toArray, List.getElem?_cons_succ, List.getElem?_cons_zero]; rfl
  case hQr14q12 => exact fun _ _ _ h => h
  case hwr14q12 => rfl
  case hyr14q12 => (intro w hSw; (try dsimp only at hSw); go_simp; (try with_reducible rfl))
  simp only [Act.put, List.setIfInBounds_toArray, List.set_cons_zero, List.set_cons_succ]
  refine wpAnyH_ready (rs := [10]) (by kernel_rfl) (by simp) ?_
  refine AllReadyH.cons (o := ?dqr14q10) ?hir14q10 (fun K hK => ?_) AllReadyH.nil
  case hir14q10 => simp only [List.getElem?_toArray, List.getElem?_cons_succ, List.getElem?_cons_zero]; rfl
  go_simp
  go_at_call 20
  refine (cBA.out _ _ _ (B5.out.after hN'.out hS.2.2.2.2.2.2) (A5.out.after hN'.out hS.2.2.2.2.2.2)).mono ?_
  rintro e v10 ⟨rfl, hb⟩
  have hS2 := (And.intro (keep_cell hb hS.1) (And.intro (keep_cell hb hS.2.1) (And.intro (keep_cell hb hS.2.2.1) (And.intro (keep_cell hb hS.2.2.2.1) (And.intro (keep_cell hb hS.2.2.2.2.1) (And.intro (keep_cell hb hS.2.2.2.2.2.1) (Below.after hS.2.2.2.2.2.2 hb)))))))
  clear hS
  refine hK.out _ _ hS2 (fun hS => ?_)
  clear hS2 hK K
  try simp only [Act.put, List.setIfInBounds_toArray, List.set_cons_zero, List.set_cons_succ]
  refine wpAnyH_ready (rs := [13]) (by kernel_rfl) (by simp) ?_
  refine AllReadyH.cons (o := ?dqr14q13) ?hir14q13 (fun K hK => ?_) AllReadyH.nil
  case hir14q13 => simp only [List.getElem?_toArray, List.getElem?_cons_succ, List.getElem?_cons_zero]; rfl
  go_simp
  go_at_call 21
  refine (rYX.out _).mono ?_
  rintro e v13 ⟨rfl, hb⟩
  have hS2 := (And.intro (keep_cell hb hS.1) (And.intro (keep_cell hb hS.2.1) (And.intro (keep_cell hb hS.2.2.1) (And.intro (keep_cell hb hS.2.2.2.1) (And.intro (keep_cell hb hS.2.2.2.2.1) (And.intro (keep_cell hb hS.2.2.2.2.2.1) (Below.after hS.2.2.2.2.2.2 hb)))))))
  clear hS
  refine hK.out _ _ hS2 (fun hS => ?_)
  clear hS2 hK K
  try simp only [Act.put, List.setIfInBounds_toArray, List.set_cons_zero, List.set_cons_succ]
  refine wpAnyH_take (i := 14) (oi := ?dqr14q14) (v := ?dvr14q14) ?hir14q14 (by kernel_rfl) (by kernel_rfl) (by kernel_rfl) ?hQr14q14 (Or.inl ⟨?hwr14q14, ?hyr14q14⟩) hS ?hrr14q14
  case hir14q14 => simp only [List.getElem?_toArray, List.getElem?_cons_succ, List.getElem?_cons_zero]; rfl
  case hQr14q14 => exact fun _ _ _ h => h
  case hwr14q14 => rfl
  case hyr14q14 => (intro w hSw; (try dsimp only at hSw); go_simp; (try with_reducible rfl))
  simp only [Act.put, List.setIfInBounds_toArray, List.set_cons_zero, List.set_cons_succ]
  refine wpAnyH_take (i := 15) (oi := ?dqr14q15) (v := ?dvr14q15) ?hir14q15 (by kernel_rfl) (by kernel_rfl) (by kernel_rfl) ?hQr14q15 (Or.inl ⟨?hwr14q15, ?hyr14q15⟩) hS ?hrr14q15
  case hir14q15 => simp only [List.getElem?_toArray, List.getElem?_cons_succ, List.getElem?_cons_zero]; rfl
  case hQr14q15 => exact fun _ _ _ h => h
  case hwr14q15 => rfl
  case hyr14q15 => (intro w hSw; (try dsimp only at hSw); go_simp; (try with_reducible rfl))
  simp only [Act.put, List.setIfInBounds_toArray, List.set_cons_zero, List.set_cons_succ]
  refine wpAnyH_take (i := 16) (oi := ?dqr14q16) (v := ?dvr14q16) ?hir14q16 (by kernel_rfl) (by kernel_rfl) (by kernel_rfl) ?hQr14q16 (Or.inl ⟨?hwr14q16, ?hyr14q16⟩) hS ?hrr14q16
  case hir14q16 => simp only [List.getElem?_toArray, List.getElem?_cons_succ, List.getElem?_cons_zero]; rfl
  case hQr14q16 => exact fun _ _ _ h => h
  case hwr14q16 => rfl
  case hyr14q16 => (intro w hSw; (try dsimp only at hSw); go_simp; (try with_reducible rfl))
  simp only [Act.put, List.setIfInBounds_toArray, List.set_cons_zero, List.set_cons_succ]
  refine wpAnyH_take (i := 17) (oi := ?dqr14q17) (v := ?dvr14q17) ?hir14q17 (by kernel_rfl) (by kernel_rfl) (by kernel_rfl) ?hQr14q17 (Or.inl ⟨?hwr14q17, ?hyr14q17⟩) hS ?hrr14q17
  case hir14q17 => simp only [List.getElem?_toArray, List.getElem?_cons_succ, List.getElem?_cons_zero]; rfl
  case hQr14q17 => exact fun _ _ _ h => h
  case hwr14q17 => rfl
  case hyr14q17 => (intro w hSw; (try dsimp only at hSw); go_simp; (try with_reducible rfl))
  simp only [Act.put, List.setIfInBounds_toArray, List.set_cons_zero, List.set_cons_succ]
  refine wpAnyH_ready (rs := [18]) (by kernel_rfl) (by simp) ?_
  refine AllReadyH.cons (o := ?dqr14q18) ?hir14q18 (fun K hK => ?_) AllReadyH.nil
  case hir14q18 => simp only [List.getElem?_toArray, List.getElem?_cons_succ, List.getElem?_cons_zero]; rfl
  go_simp
  go_at_call 20
  refine (cA0.out _ _ _ (A5.out.after hN'.out hS.2.2.2.2.2.2) rfl).mono ?_
  rintro e v18 ⟨rfl, hb⟩
  have hS2 := (And.intro (keep_cell hb hS.1) (And.intro (keep_cell hb hS.2.1) (And.intro (keep_cell hb hS.2.2.1) (And.intro (keep_cell hb hS.2.2.2.1) (And.intro (keep_cell hb hS.2.2.2.2.1) (And.intro (keep_cell hb hS.2.2.2.2.2.1) (Below.after hS.2.2.2.2.2.2 hb)))))))
  clear hS
  refine hK.out _ _ hS2 (fun hS => ?_)
  clear hS2 hK K
  try simp only [Act.put, List.setIfInBounds_toArray, List.set_cons_zero, List.set_cons_succ]
  refine wpAnyH_take (i := 19) (oi := ?dqr14q19) (v := ?dvr14q19) ?hir14q19 (by kernel_rfl) (by kernel_rfl) (by kernel_rfl) ?hQr14q19 (Or.inl ⟨?hwr14q19, ?hyr14q19⟩) hS ?hrr14q19
  case hir14q19 => simp only [List.getElem?_toArray, List.getElem?_cons_succ, List.getElem?_cons_zero]; rfl
  case hQr14q19 => exact fun _ _ _ h => h
  case hwr14q19 => rfl
  case hyr14q19 => (intro w hSw; (try dsimp only at hSw); go_simp; (try with_reducible rfl))
  simp only [Act.put, List.setIfInBounds_toArray, List.set_cons_zero, List.set_cons_succ]
  refine wpAnyH_take (i := 20) (oi := ?dqr14q20) (v := ?dvr14q20) ?hir14q20 (by kernel_rfl) (by kernel_rfl) (by kernel_rfl) ?hQr14q20 (Or.inl ⟨?hwr14q20, ?hyr14q20⟩) hS ?hrr14q20
  case hir14q20 => simp only [List.getElem?_toArray, List.getElem?_cons_succ, List.getElem?_cons_zero]; rfl
  case hQr14q20 => exact fun _ _ _ h => h
  case hwr14q20 => rfl
  case hyr14q20 => (intro w hSw; (try dsimp only at hSw); go_simp; (try with_reducible rfl))
  simp only [Act.put, List.setIfInBounds_toArray, List.set_cons_zero, List.set_cons_succ]
  refine wpAnyH_take (i := 21) (oi := ?dqr14q21) (v := ?dvr14q21) ?hir14q21 (by kernel_rfl) (by kernel_rfl) (by kernel_rfl) ?hQr14q21 (Or.inl ⟨?hwr14q21, ?hyr14q21⟩) hS ?hrr14q21
  case hir14q21 => simp only [List.getElem?_toArray, List.getElem?_cons_succ, List.getElem?_cons_zero]; rfl
  case hQr14q21 => exact fun _ _ _ h => h
  case hwr14q21 => rfl
  case hyr14q21 => (intro w hSw; (try dsimp only at hSw); go_simp; (try with_reducible rfl))
  simp only [Act.put, List.setIfInBounds_toArray, List.set_cons_zero, List.set_cons_succ]
  refine wpAnyH_ready (rs := [22]) (by kernel_rfl) (by simp) ?_
  refine AllReadyH.cons (o := ?dqr14q22) ?hir14q22 (fun K hK => ?_) AllReadyH.nil
  case hir14q22 => simp only [List.getElem?_toArray, List.getElem?_cons_succ, List.getElem?_cons_zero]; rfl
  go_simp
  go_at_call 20
  refine (c0B.out _ _ _ rfl (B5.out.after hN'.out hS.2.2.2.2.2.2)).mono ?_
  rintro e v22 ⟨rfl, hb⟩
  have hS2 := (And.intro (keep_cell hb hS.1) (And.intro (keep_cell hb hS.2.1) (And.intro (keep_cell hb hS.2.2.1) (And.intro (keep_cell hb hS.2.2.2.1) (And.intro (keep_cell hb hS.2.2.2.2.1) (And.intro (keep_cell hb hS.2.2.2.2.2.1) (Below.after hS.2.2.2.2.2.2 hb)))))))
  clear hS
  refine hK.out _ _ hS2 (fun hS => ?_)
  clear hS2 hK K
  try simp only [Act.put, List.setIfInBounds_toArray, List.set_cons_zero, List.set_cons_succ]
  refine wpAnyH_take (i := 23) (oi := ?dqr14q23) (v := ?dvr14q23) ?hir14q23 (by kernel_rfl) (by kernel_rfl) (by kernel_rfl) ?hQr14q23 (Or.inl ⟨?hwr14q23, ?hyr14q23⟩) hS ?hrr14q23
  case hir14q23 => simp only [List.getElem?_toArray, List.getElem?_cons_succ, List.getElem?_cons_zero]; rfl
  case hQr14q23 => exact fun _ _ _ h => h
  case hwr14q23 => rfl
  case hyr14q23 => (intro w hSw; (try dsimp only at hSw); go_simp; (try with_reducible rfl))
  simp only [Act.put, List.setIfInBounds_toArray, List.set_cons_zero, List.set_cons_succ]
  refine wpAnyH_done (by kernel_rfl) ?_ _
  have hb5 := Lib.hid hS.2.2.2.2.2.2
  have B_5 := Lib.hid (Below.after B_4.out hb5.out)
  have A6 := Lib.hid (A5.out.after hN'.out hb5.out)
  have B6 := Lib.hid (B5.out.after hN'.out hb5.out)
  obtain ⟨f0, f1, f2, g0, g1, g2, -⟩ := hS
  clear hb5 B_4 A5 B5
  go_wp2_with fail
  refine (cAB.out v22 _ _ A6.out B6.out).mono ?_
  rintro e w7 ⟨rfl, hb⟩
  have B_7 := Lib.hid (Below.after B_5.out hb)
  have A7 := Lib.hid (A6.out.after hN'.out hb)
  have B7 := Lib.hid (B6.out.after hN'.out hb)
  clear hb B_5 A6 B6 f0 f1 f2 g0 g1 g2
  go_wp2_with fail
  refine (cBA.out w7 _ _ B7.out A7.out).mono ?_
  rintro e w8 ⟨rfl, hb⟩
  have B_8 := Lib.hid (Below.after B_7.out hb)
  have A8 := Lib.hid (A7.out.after hN'.out hb)
  have B8 := Lib.hid (B7.out.after hN'.out hb)
  clear hb B_7 A7 B7
  go_wp2_with fail
  refine (cAB.out w8 _ _ A8.out B8.out).mono ?_
  rintro e w9 ⟨rfl, hb⟩
  have B_9 := Lib.hid (Below.after B_8.out hb)
  have A9 := Lib.hid (A8.out.after hN'.out hb)
  have B9 := Lib.hid (B8.out.after hN'.out hb)
  clear hb B_8 A8 B8
  go_wp2_with fail
  refine (cA.out w9 B_9.out).mono ?_
  rintro e w10 ⟨rfl, hb⟩
  have B_10 := Lib.hid (Below.after B_9.out hb)
  clear hb
  go_wp2
  go_ret
  exact ⟨rfl, B_10.out⟩
theorem treapAbove_any (hN : NodeSays Nd) (hS : TreapSays Nd T) (x y : It) (A : Option Addr) (n c : Nat) (l : List Bd) (hl : l.length = n) (hn : n ≤ c) (hc : c ≤ maxLen) (hz : A = none → c = 0) (w : World) (hT : T w) (hr : Row w w.heap.size A (flat7 l)) : Calls Tryd.prog 4 #[itV x, itV y, .slice A n c] w fun e w' => e = .returned (.bool true) ∧ Below w.heap.size w w' := by
  rcases long_or hl hn hc hz hr with h | ⟨h, t, ht⟩
  · exact treapAbove_long hN hS x y A n c w hT h
  · rcases Int.lt_trichotomy x.rk y.rk with g | g | g
    · exact treapAbove_lt hN hS x y A n c l t w hT h ht g
    · have hy : y = ⟨x.k, y.v, x.g⟩ := by
        obtain ⟨e1, e2⟩ := (rk_eq x y).1 g
        rw [e1, e2]
      rw [hy]
      exact treapAbove_eq hN hS x y.v A n c l t w hT h ht
    · exact treapAbove_gt hN hS x y A n c l t w hT h ht g
end Go.Proofs.YtcnkgddldhkddaaDoor
namespace Go.Proofs.YtcnkgddldhkddaaDoor
open Go.ChangeShapes Go.WideShapes Go.ChangeAt Go.RowKit

set_option maxRecDepth 100000 in
theorem treapAbove_lifted (os : Os) (started : os.Started) (H : Type) (enc : TypeId × Value → H) :
    ReturnsInHanded {} Tryd.checked os 4 .any (fun w args => (Rows.treapAboveSpec.pre enc Tryd.prog Tryd.f4 [] false w args ∧ laidMetH Tryd.prog laid20 w) ∧ sizedMet enc Tryd.prog Tryd.f4 (OpenSpec.ofChange Rows.treapAboveSpec) false w args)
      (Rows.treapAboveSpec.post enc Tryd.prog Tryd.f4 false true false false) := by
  refine returnsInHanded_of_change_and (C := Tryd.checked) (X := fun w _ => laidMetH Tryd.prog laid20 w) (fun _ _ _ hh h => h.of_heap hh) own started (by kernel_rfl) Tryd.func4
    (ChangeSpec.witness_shaped (enc := enc) (C := Tryd.checked) (os := os) (X := fun w _ => laidMetH Tryd.prog laid20 w) false (World.doorLaid Tryd.prog 400 os) #[.agg #[.int .i64 0, .int .i64 0, .int .u64 0], .agg #[.int .i64 0, .int .i64 0, .int .u64 0], .slice none 0 0] 8 rfl (World.shaped_of_RefB (by kernel_rfl) (by kernel_rfl)) (by kernel_rfl) (by kernel_rfl) (by kernel_rfl) (door_met os _)) ?_
  intro W base args ds gs before hval0 hW _ _ hL _
  have hval : ∀ (j : Nat) t v, Tryd.f4.params[j]? = some t → args[j]? = some v → Value.okWide Tryd.prog W .any base t v := hval0
  have hW' := hW
  obtain ⟨p, q, hA0, hV, rfl, hfz, hnd⟩ := hW
  have hA : DataW.TrodAll enc Tryd.prog W 0 (fun _ => true) true Tryd.f4.params.toList args.toList ds p := hA0
  rw [Tryd.params4] at hA hval
  obtain ⟨v0, vs0, d0, ds0, p0, q0, hargs, rfl, rfl, h0, r0⟩ := trodAll_cons hA
  obtain ⟨v1, vs1, d1, ds1, p1, q1, rfl, rfl, rfl, h1, r1⟩ := trodAll_cons r0
  obtain ⟨v2, vs2, d2, ds2, p2, q2, rfl, rfl, rfl, h2, r2⟩ := trodAll_cons r1
  obtain ⟨rfl, rfl, rfl⟩ := trodAll_nil r2
  obtain rfl : args = #[v0, v1, v2] := by cases args; simp_all
  obtain ⟨rfl, rfl⟩ := trodVars_none hV
  have k0 := h0
  have lt0 : ∀ x ∈ p0, x.block < W.heap.size := by obtain ⟨m, hm⟩ := k0; exact DataW.trod_lt m _ _ _ hm
  obtain ⟨x0, rfl⟩ := open_item (hval 0 38 v0 rfl rfl) h0
  have k1 := h1
  have lt1 : ∀ x ∈ p1, x.block < W.heap.size := by obtain ⟨m, hm⟩ := k1; exact DataW.trod_lt m _ _ _ hm
  obtain ⟨x1, rfl⟩ := open_item (hval 1 38 v1 rfl rfl) h1
  have k2 := h2
  have lt2 : ∀ x ∈ p2, x.block < W.heap.size := by obtain ⟨m, hm⟩ := k2; exact DataW.trod_lt m _ _ _ hm
  obtain ⟨A2, n2, c2, l2, rfl, hl2, hn2, hc2, hz2, hr2⟩ := open_beads (hval 2 22 v2 rfl rfl) h2
  obtain ⟨hz, hst⟩ := steps_of hL
  clear hA0 hval0
  refine (treapAbove_any node_says (treap_says node_says) x0 x1 A2 n2 c2 l2 hl2 hn2 hc2 hz2 W ⟨hz, hst⟩ hr2).mono fun e W' ⟨he, bel⟩ => ?_
  subst he
  exact ⟨_, rfl, _, _, _, [], _, [], hW', trodAll_mk1 (shut_bool Tryd.underlying4 _), trodAll_cons_mk (Below.trod laidOut (by kernel_rfl) (of_decide_eq_true (by kernel_rfl)) k0 bel lt0) (trodAll_cons_mk (Below.trod laidOut (by kernel_rfl) (of_decide_eq_true (by kernel_rfl)) k1 bel lt1) (trodAll_cons_mk (Below.trod laidOut (by kernel_rfl) (of_decide_eq_true (by kernel_rfl)) k2 bel lt2) trodAll_mk0)), rfl, bel.frame _, fun h => by cases h⟩

theorem treapAbove_row : Rows.TreapAboveSaid :=
  OpenClaim.holds_of_wide 4 Tryd.f4 rfl rfl rfl rfl rfl rfl rfl ⟨rfl, rfl, rfl, rfl, rfl⟩ rfl rfl rfl rfl rfl (by kernel_rfl) Tryd.func4 (by kernel_rfl)
    (of_decide_eq_true (by kernel_rfl)) (by unfold Func.isWrapper; first | (rw [if_pos (by decide +kernel)]; kernel_rfl) | (rw [if_neg (by decide +kernel)]; exact ⟨rfl, rfl⟩))
    (fun os started H enc _ => treapAbove_lifted os started H enc)

theorem treapAbove_holds : Rows.TreapAboveCardSaid :=
  Claim7.holds_tied_plain_at .later [] [.data] true Rows.treapAboveCard.stood.harness false
    treapAbove_row (fun _ h => by cases h) (by kernel_rfl) (fun _ h => by cases h) treapAbove_row_tie rfl ⟨rfl, rfl⟩ (by kernel_rfl) rfl
    (fun f fn hf hfn => by
      obtain rfl : f = 4 := Option.some.inj ((show Tryd.prog.funcNamed Rows.treapAboveRow.func = some 4 by kernel_rfl).symm.trans hf) |>.symm
      obtain rfl : fn = Tryd.f4 := (Option.some.inj (Tryd.func4.symm.trans hfn)).symm
      exact ⟨by kernel_rfl, fun j t ht => by
        rw [Tryd.params4] at ht
        have hm : t ∈ [38, 38, 22] := by simpa using Array.mem_of_getElem? ht
        have hall : ([38, 38, 22].all fun u => !Tryd.prog.wantsStandIn u) = true := by kernel_rfl
        exact (show Tryd.prog.wantsStandIn t = false by simpa using List.all_eq_true.1 hall t hm)⟩)
    (by kernel_rfl)
#print axioms treapAbove_holds
end Go.Proofs.YtcnkgddldhkddaaDoor
