/- The contracts of the iterator forward and of Mix of package mix: each returns what the plain mathematics says and changes nothing that lay, while the table of steps reads as its initialiser lays it. -/
import Derived.RangeFuncNested
import Derived.RangeFuncBound
import Derived.RangeFuncCalls
import Derived.RangeFuncLeaves
import Derived.Shelf.Abstract
import Derived.Shelf.RegionOpen
import Derived.WalkKit
import Derived.OwnWalkIn
import Derived.TacticsInMore
import Derived.LoopNIn
import Derived.LoopIn
import Derived.Test.YtfndaeocdgcaeaaDoorL1Num
import Derived.Test.YtfndaeocdgcaeaaDoorProg
namespace Go.Proofs.YtfndaeocdgcaeaaDoor
open Go.RowKit Go.Shelf Go.Proofs.Mixm
attribute [local go_sem] Oper.semAt_some

/-- the three steps: each one's shift, its factor -/
def sh : Fin 3 → Nat
  | 0 => 30
  | 1 => 27
  | 2 => 31
def fc : Fin 3 → BitVec 64
  | 0 => c1
  | 1 => c2
  | 2 => 1#64
/-- the table of the steps, as it lies in memory -/
structure Steps (W : World) : Prop where
  s0 : W.cell? ⟨0, 0, none⟩ = some (.int .u64 (sh 0 : Int))
  f0 : W.cell? ⟨0, 1, none⟩ = some (V (fc 0))
  s1 : W.cell? ⟨0, 2, none⟩ = some (.int .u64 (sh 1 : Int))
  f1 : W.cell? ⟨0, 3, none⟩ = some (V (fc 1))
  s2 : W.cell? ⟨0, 4, none⟩ = some (.int .u64 (sh 2 : Int))
  f2 : W.cell? ⟨0, 5, none⟩ = some (V (fc 2))
theorem Steps.below {n₀ : Nat} (h0 : 0 < n₀) {A B : World} (hb : Below n₀ A B) (h : Steps A) : Steps B :=
  ⟨(hb.cell (p := ⟨0, 0, none⟩) h0).trans h.s0, (hb.cell (p := ⟨0, 1, none⟩) h0).trans h.f0, (hb.cell (p := ⟨0, 2, none⟩) h0).trans h.s1,
   (hb.cell (p := ⟨0, 3, none⟩) h0).trans h.f1, (hb.cell (p := ⟨0, 4, none⟩) h0).trans h.s2, (hb.cell (p := ⟨0, 5, none⟩) h0).trans h.f2⟩
abbrev encS (x : Fin 3) : Array Value := #[Value.agg #[.int .u64 (sh x : Int), V (fc x)]]

set_option maxRecDepth 100000 in
set_option maxHeartbeats 2000000 in
theorem forward_stops (F : Fence) (n : Nat) (h6 : F.fn 78) (hro : F.round = none) (hn : 1 ≤ n) (n₀ : Nat) (h0 : 0 < n₀) (w : World) (hn₀ : n₀ ≤ w.heap.size) (hs : Steps w) :
    SeqStopsK F n Tryd.prog 78 #[] encS (Below n₀) (fun ys => ys = [0, 1, 2]) (fun pre => pre <+: [0, 1, 2]) 3 w := fun l J Jx W hW _ _ hY hJ0 => by
  have hs1 : Steps W := hs.below h0 (hW.mono hn₀)
  refine callsIn_of_wp Tryd.func78 rfl h6 ?_ hro
  simp only [Tryd.ntmps78, List.size_toArray, List.length_cons, List.length_nil, Nat.reduceAdd, Nat.reduceSub, Array.replicate_succ, Array.replicate_zero, List.push_toArray, List.append_toArray, List.nil_append, List.cons_append]
  gi_wp2
  gi_loopw [3] (fun i wr => (i = .int .i64 0 ∧ J [] wr ∧ Below n₀ W wr) ∨ (i = .int .i64 1 ∧ J [0] wr ∧ Below n₀ W wr) ∨ (i = .int .i64 2 ∧ J [0, 1] wr ∧ Below n₀ W wr) ∨ (i = .int .i64 3 ∧ J [0, 1, 2] wr))
    (fun i _ => 3 - (intOf i).toNat)
  case atStart => exact .inl ⟨rfl, hJ0, Below.refl _ _⟩
  case round =>
    rcases hrel with ⟨rfl, hJs, hnx⟩ | ⟨rfl, hJs, hnx⟩ | ⟨rfl, hJs, hnx⟩ | ⟨rfl, hJs⟩
    · obtain ⟨fn, tmps, assign, body, hy, hR⟩ := hY _ 0 wr hJs (by simp)
      simp only [encS] at hy
      have hS := hs1.below h0 hnx
      have ha := hS.s0
      have hb := hS.f0
      clear hS
      gi_wp2
      refine hR.mono ?_
      rintro e W3 (⟨rfl, hJ3, hk3⟩ | ⟨rfl, hJx3⟩)
      · gi_wp2
        go_roundw
        case rel => exact .inr (.inl ⟨rfl, hJ3, hnx.trans hk3⟩)
        case measure => simp [intOf]
      · gi_wp2
        refine bodyPost_ret (results_none rfl _ _ _) rfl ?_
        exact ⟨⟨_, rfl⟩, .inr ⟨_, ⟨[(1 : Fin 3), (2 : Fin 3)], rfl⟩, hJx3⟩⟩
    · obtain ⟨fn, tmps, assign, body, hy, hR⟩ := hY _ 1 wr hJs (by simp)
      simp only [encS] at hy
      have hS := hs1.below h0 hnx
      have ha := hS.s1
      have hb := hS.f1
      clear hS
      gi_wp2
      refine hR.mono ?_
      rintro e W3 (⟨rfl, hJ3, hk3⟩ | ⟨rfl, hJx3⟩)
      · gi_wp2
        go_roundw
        case rel => exact .inr (.inr (.inl ⟨rfl, hJ3, hnx.trans hk3⟩))
        case measure => simp [intOf]
      · gi_wp2
        refine bodyPost_ret (results_none rfl _ _ _) rfl ?_
        exact ⟨⟨_, rfl⟩, .inr ⟨_, ⟨[(2 : Fin 3)], rfl⟩, hJx3⟩⟩
    · obtain ⟨fn, tmps, assign, body, hy, hR⟩ := hY _ 2 wr hJs (by simp)
      simp only [encS] at hy
      have hS := hs1.below h0 hnx
      have ha := hS.s2
      have hb := hS.f2
      clear hS
      gi_wp2
      refine hR.mono ?_
      rintro e W3 (⟨rfl, hJ3, hk3⟩ | ⟨rfl, hJx3⟩)
      · gi_wp2
        go_roundw
        case rel => exact .inr (.inr (.inr ⟨rfl, hJ3⟩))
        case measure => simp [intOf]
      · gi_wp2
        refine bodyPost_ret (results_none rfl _ _ _) rfl ?_
        exact ⟨⟨_, rfl⟩, .inr ⟨_, ⟨[], rfl⟩, hJx3⟩⟩
    · gi_wp2
      go_end0
      exact ⟨⟨_, rfl⟩, .inl ⟨_, rfl, hJs⟩⟩

/-- what steps make of a number, going forward -/
def mixL (b : BitVec 64) (l : List (Fin 3)) : BitVec 64 := l.foldl (fun x k => fold (sh k) x * fc k) b
theorem mixL_snoc (b : BitVec 64) (l : List (Fin 3)) (k : Fin 3) : mixL b (l ++ [k]) = fold (sh k) (mixL b l) * fc k := by simp [mixL]
theorem mixL_all (b : BitVec 64) : mixL b [0, 1, 2] = mix b := by
  show fold 31 (fold 27 (fold 30 b * c1) * c2) * 1#64 = _
  rw [BitVec.mul_one]; rfl
theorem sh_lo (k : Fin 3) : 16 ≤ sh k := by revert k; decide
theorem sh_hi (k : Fin 3) : sh k < 32 := by revert k; decide

/-- a variable of two cells -/
def Boxed2 (W : World) (B : Nat) (t : TypeId) (u v : Value) : Prop := W.heap[B]? = some (.cells #[u, v] t (0, 0))
theorem Boxed2.new (W : World) (t : TypeId) (u v : Value) : Boxed2 (W.alloc (.cells #[u, v] t)) W.heap.size t u v := World.alloc_heap_new W _
theorem Boxed2.cell0 {W : World} {B : Nat} {t : TypeId} {u v : Value} (h : Boxed2 W B t u v) : W.cell? ⟨B, 0, none⟩ = some u := by simp [World.cell?, show W.heap[B]? = _ from h]
theorem Boxed2.cell1 {W : World} {B : Nat} {t : TypeId} {u v : Value} (h : Boxed2 W B t u v) : W.cell? ⟨B, 1, none⟩ = some v := by simp [World.cell?, show W.heap[B]? = _ from h]
theorem Boxed2.kept {W W' : World} {row : Option Nat} {B : Nat} {t : TypeId} {u v : Value} (h : Boxed2 W B t u v) (hg : W.grownBy W' row) (hne : some B ≠ row) : Boxed2 W' B t u v := (hg.block B (Array.getElem?_eq_some_iff.1 h).1 hne).trans h
theorem Boxed2.own {W W' : World} {row : Option Nat} {B : Nat} {t : TypeId} {u v : Value} (h : Boxed2 W B t u v) (hg : W.grownBy W' row) (hr : ∀ r, row = some r → ∃ o : Obj, W.heap[r]? = some o ∧ o.isCells = false) : Boxed2 W' B t u v :=
  h.kept hg (fun e' => by obtain ⟨o, ho, hc⟩ := hr B e'.symm; rw [show W.heap[B]? = _ from h] at ho; cases ho; cases hc)

set_option maxRecDepth 100000 in
set_option maxHeartbeats 2000000 in
theorem mix_any (b : BitVec 64) (w : World) (hz : 0 < w.heap.size) (hs : Steps w) : Calls Tryd.prog 70 #[V b] w fun e w' => e = .returned (V (mix b)) ∧ Below w.heap.size w w' := by
  refine (callsIn_wide (n := 9)).1 ?_
  refine callsIn_of_wp_marks Tryd.func70 rfl trivial ?_ rfl
  simp only [Tryd.ntmps70, List.size_toArray, List.length_cons, List.length_nil, Nat.reduceAdd, Nat.reduceSub, Array.replicate_succ, Array.replicate_zero, List.push_toArray, List.append_toArray, List.nil_append, List.cons_append]
  gi_wp2
  have bX := Boxed.new w 42 (V b)
  have hB0 : Below w.heap.size w (w.alloc (.cells #[V b] 42)) := (Below.refl _ w).alloc (Nat.le_refl _) _
  have hsz : (w.alloc (.cells #[V b] 42)).heap.size = w.heap.size + 1 := by simp
  have hs0 := hs.below hz hB0
  obtain ⟨W0, hW0⟩ : ∃ W0, w.alloc (.cells #[V b] 42) = W0 := ⟨_, rfl⟩
  rw [hW0] at bX hB0 hsz hs0 ⊢
  clear hW0
  refine wpIn_rangeFunc_ownH rfl (by omega) (gf := 78) (lb := #[]) rfl trivial (enters_of Tryd.func78 (by kernel_rfl) rfl)
    (forward_stops Fence.wide _ trivial rfl (by omega) w.heap.size hz W0 (by omega) hs0) belowK_t (belowK_b (by omega)) (Below.refl _ _) (fun _ => rfl)
    (fun pre W => Boxed W w.heap.size 42 (V (mixL b pre)) ∧ Below w.heap.size w W)
    (fun _ _ _ => False)
    (OwnFrom.and (Own.from (boxed_own _ _ _) _) (ownFrom_below (Nat.le_refl _) (by omega)))
    (fun _ _ _ _ _ hs _ _ => hs)
    ⟨bX, hB0⟩
    (fun x a' W => ∃ Bx, w.heap.size < Bx ∧ Boxed2 W Bx 102 (.int .u64 (sh x : Int)) (V (fc x)) ∧ a' = { tmps := #[V b, .pointer (some ⟨w.heap.size, 0, none⟩), .int .u64 0, .pointer (some ⟨Bx, 0, none⟩), .agg #[.int .u64 (sh x : Int), V (fc x)], undef, undef, undef, undef, undef, undef, undef, undef, undef, undef], defers := [] })
    (fun x a' _ X Y row hs hg hr => by obtain ⟨Bx, h1, h2, h3⟩ := hs; exact ⟨Bx, h1, h2.own hg (fun r e => (hr r e).2), h3⟩)
    ?assign ?body ?done ?stop
  case assign =>
    rintro l pre x W K ⟨bX1, hB1⟩ hK
    gi_wp2
    exact hK _ _ ((KeepsOthers.alloc _ _).from _) ((Below.refl _ W).alloc hB1.size _) ⟨bX1.alloc _, hB1.alloc hB1.size _⟩ ⟨W.heap.size, bX1.lt, Boxed2.new W 102 _ _, rfl⟩
  case body =>
    rintro l pre x a' W hl _ ⟨bX1, hB1⟩ ⟨Bx, hBx, b2, rfl⟩ hlt
    have cX := bX1.cell
    have fX := bX1.frozen
    have c0 := b2.cell0
    have c1 := b2.cell1
    have hlo := sh_lo x
    have hhi := sh_hi x
    gi_wp2
    exact ⟨(KeepsOthers.setCell _ _ _).from _, (Below.refl _ W).setCell (p := ⟨w.heap.size, 0, none⟩) (Nat.le_refl _) _, by rw [mixL_snoc, v_fold, v_mul]; exact bX1.set _, hB1.setCell (p := ⟨w.heap.size, 0, none⟩) (Nat.le_refl _) _⟩
  case done =>
    rintro D zs W hD rfl ⟨bX1, hB1⟩ hK
    have cX := bX1.cell
    gi_wp2
    refine ⟨by simp, .inl ⟨_, _, rfl, run_takeDeferred hK, ?_⟩⟩
    exact ⟨_, results_tmp rfl _ _ _, by rw [← mixL_all]; rfl, hB1.trans (belowK_b (w := w) (Nat.le_refl _) W D _ _ (by omega) hK rfl rfl)⟩
  case stop =>
    rintro D c pre W _ _ h _
    exact h.elim

end Go.Proofs.YtfndaeocdgcaeaaDoor
