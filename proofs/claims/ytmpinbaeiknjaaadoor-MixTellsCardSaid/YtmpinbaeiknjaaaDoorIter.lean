/- The contracts of the two iterators of package mix, forward and backward: each hands out the three steps in order, while the table of steps reads as its initialiser lays it, for every loop body that keeps what lay below a mark. -/
import Derived.RangeFuncNested
import Derived.RangeFuncBound
import Derived.RangeFuncCalls
import Derived.RangeFuncLeaves
import Derived.Shelf.Abstract
import Derived.Shelf.RegionOpen
import Derived.WalkKit
import Derived.OwnWalkIn
import Derived.TacticsInMore
import Derived.LoopNIn
import Derived.LoopIn
import Derived.Test.YtmpinbaeiknjaaaDoorLeaf
namespace Go.Proofs.YtmpinbaeiknjaaaDoor
open Go.RowKit Go.Shelf Go.Proofs.Mixm
attribute [local go_sem] Oper.semAt_some

/-- the three steps: each one's shift, its factor -/
def sh : Fin 3 → Nat
  | 0 => 30
  | 1 => 27
  | 2 => 31
def fc : Fin 3 → BitVec 64
  | 0 => c1
  | 1 => c2
  | 2 => 1#64
/-- the table of the steps, as it lies in memory -/
structure Steps (W : World) : Prop where
  s0 : W.cell? ⟨0, 0, none⟩ = some (.int .u64 (sh 0 : Int))
  f0 : W.cell? ⟨0, 1, none⟩ = some (V (fc 0))
  s1 : W.cell? ⟨0, 2, none⟩ = some (.int .u64 (sh 1 : Int))
  f1 : W.cell? ⟨0, 3, none⟩ = some (V (fc 1))
  s2 : W.cell? ⟨0, 4, none⟩ = some (.int .u64 (sh 2 : Int))
  f2 : W.cell? ⟨0, 5, none⟩ = some (V (fc 2))
theorem Steps.below {n₀ : Nat} (h0 : 0 < n₀) {A B : World} (hb : Below n₀ A B) (h : Steps A) : Steps B :=
  ⟨(hb.cell (p := ⟨0, 0, none⟩) h0).trans h.s0, (hb.cell (p := ⟨0, 1, none⟩) h0).trans h.f0, (hb.cell (p := ⟨0, 2, none⟩) h0).trans h.s1,
   (hb.cell (p := ⟨0, 3, none⟩) h0).trans h.f1, (hb.cell (p := ⟨0, 4, none⟩) h0).trans h.s2, (hb.cell (p := ⟨0, 5, none⟩) h0).trans h.f2⟩
abbrev encS (x : Fin 3) : Array Value := #[Value.agg #[.int .u64 (sh x : Int), V (fc x)]]

set_option maxRecDepth 100000 in
set_option maxHeartbeats 2000000 in
theorem forward_stops (F : Fence) (n : Nat) (h6 : F.fn 16) (hro : F.round = none) (hn : 1 ≤ n) (n₀ : Nat) (h0 : 0 < n₀) (w : World) (hn₀ : n₀ ≤ w.heap.size) (hs : Steps w) :
    SeqStopsK F n Tryd.prog 16 #[] encS (Below n₀) (fun ys => ys = [0, 1, 2]) (fun pre => pre <+: [0, 1, 2]) 3 w := fun l J Jx W hW _ _ hY hJ0 => by
  have hs1 : Steps W := hs.below h0 (hW.mono hn₀)
  refine callsIn_of_wp Tryd.func16 rfl h6 ?_ hro
  simp only [Tryd.ntmps16, List.size_toArray, List.length_cons, List.length_nil, Nat.reduceAdd, Nat.reduceSub, Array.replicate_succ, Array.replicate_zero, List.push_toArray, List.append_toArray, List.nil_append, List.cons_append]
  gi_wp2
  gi_loopw [3] (fun i wr => (i = .int .i64 0 ∧ J [] wr ∧ Below n₀ W wr) ∨ (i = .int .i64 1 ∧ J [0] wr ∧ Below n₀ W wr) ∨ (i = .int .i64 2 ∧ J [0, 1] wr ∧ Below n₀ W wr) ∨ (i = .int .i64 3 ∧ J [0, 1, 2] wr))
    (fun i _ => 3 - (intOf i).toNat)
  case atStart => exact .inl ⟨rfl, hJ0, Below.refl _ _⟩
  case round =>
    rcases hrel with ⟨rfl, hJs, hnx⟩ | ⟨rfl, hJs, hnx⟩ | ⟨rfl, hJs, hnx⟩ | ⟨rfl, hJs⟩
    · obtain ⟨fn, tmps, assign, body, hy, hR⟩ := hY _ 0 wr hJs (by simp)
      simp only [encS] at hy
      have hS := hs1.below h0 hnx
      have ha := hS.s0
      have hb := hS.f0
      clear hS
      gi_wp2
      refine hR.mono ?_
      rintro e W3 (⟨rfl, hJ3, hk3⟩ | ⟨rfl, hJx3⟩)
      · gi_wp2
        go_roundw
        case rel => exact .inr (.inl ⟨rfl, hJ3, hnx.trans hk3⟩)
        case measure => simp [intOf]
      · gi_wp2
        refine bodyPost_ret (results_none rfl _ _ _) rfl ?_
        exact ⟨⟨_, rfl⟩, .inr ⟨_, ⟨[(1 : Fin 3), (2 : Fin 3)], rfl⟩, hJx3⟩⟩
    · obtain ⟨fn, tmps, assign, body, hy, hR⟩ := hY _ 1 wr hJs (by simp)
      simp only [encS] at hy
      have hS := hs1.below h0 hnx
      have ha := hS.s1
      have hb := hS.f1
      clear hS
      gi_wp2
      refine hR.mono ?_
      rintro e W3 (⟨rfl, hJ3, hk3⟩ | ⟨rfl, hJx3⟩)
      · gi_wp2
        go_roundw
        case rel => exact .inr (.inr (.inl ⟨rfl, hJ3, hnx.trans hk3⟩))
        case measure => simp [intOf]
      · gi_wp2
        refine bodyPost_ret (results_none rfl _ _ _) rfl ?_
        exact ⟨⟨_, rfl⟩, .inr ⟨_, ⟨[(2 : Fin 3)], rfl⟩, hJx3⟩⟩
    · obtain ⟨fn, tmps, assign, body, hy, hR⟩ := hY _ 2 wr hJs (by simp)
      simp only [encS] at hy
      have hS := hs1.below h0 hnx
      have ha := hS.s2
      have hb := hS.f2
      clear hS
      gi_wp2
      refine hR.mono ?_
      rintro e W3 (⟨rfl, hJ3, hk3⟩ | ⟨rfl, hJx3⟩)
      · gi_wp2
        go_roundw
        case rel => exact .inr (.inr (.inr ⟨rfl, hJ3⟩))
        case measure => simp [intOf]
      · gi_wp2
        refine bodyPost_ret (results_none rfl _ _ _) rfl ?_
        exact ⟨⟨_, rfl⟩, .inr ⟨_, ⟨[], rfl⟩, hJx3⟩⟩
    · gi_wp2
      go_end0
      exact ⟨⟨_, rfl⟩, .inl ⟨_, rfl, hJs⟩⟩

set_option maxRecDepth 100000 in
set_option maxHeartbeats 2000000 in
theorem backward_stops (F : Fence) (n : Nat) (h6 : F.fn 19) (hro : F.round = none) (hn : 1 ≤ n) (n₀ : Nat) (h0 : 0 < n₀) (w : World) (hn₀ : n₀ ≤ w.heap.size) (hs : Steps w) :
    SeqStopsK F n Tryd.prog 19 #[] encS (Below n₀) (fun ys => ys = [2, 1, 0]) (fun pre => pre <+: [2, 1, 0]) 3 w := fun l J Jx W hW _ _ hY hJ0 => by
  have hs1 : Steps W := hs.below h0 (hW.mono hn₀)
  refine callsIn_of_wp Tryd.func19 rfl h6 ?_ hro
  simp only [Tryd.ntmps19, List.size_toArray, List.length_cons, List.length_nil, Nat.reduceAdd, Nat.reduceSub, Array.replicate_succ, Array.replicate_zero, List.push_toArray, List.append_toArray, List.nil_append, List.cons_append]
  gi_wp2
  gi_loopw [3] (fun i wr => (i = .int .i64 0 ∧ J [] wr ∧ Below n₀ W wr) ∨ (i = .int .i64 1 ∧ J [2] wr ∧ Below n₀ W wr) ∨ (i = .int .i64 2 ∧ J [2, 1] wr ∧ Below n₀ W wr) ∨ (i = .int .i64 3 ∧ J [2, 1, 0] wr))
    (fun i _ => 3 - (intOf i).toNat)
  case atStart => exact .inl ⟨rfl, hJ0, Below.refl _ _⟩
  case round =>
    rcases hrel with ⟨rfl, hJs, hnx⟩ | ⟨rfl, hJs, hnx⟩ | ⟨rfl, hJs, hnx⟩ | ⟨rfl, hJs⟩
    · obtain ⟨fn, tmps, assign, body, hy, hR⟩ := hY _ 2 wr hJs (by simp)
      simp only [encS] at hy
      have hS := hs1.below h0 hnx
      have ha := hS.s2
      have hb := hS.f2
      clear hS
      gi_wp2
      refine hR.mono ?_
      rintro e W3 (⟨rfl, hJ3, hk3⟩ | ⟨rfl, hJx3⟩)
      · gi_wp2
        go_roundw
        case rel => exact .inr (.inl ⟨rfl, hJ3, hnx.trans hk3⟩)
        case measure => simp [intOf]
      · gi_wp2
        refine bodyPost_ret (results_none rfl _ _ _) rfl ?_
        exact ⟨⟨_, rfl⟩, .inr ⟨_, ⟨[(1 : Fin 3), (0 : Fin 3)], rfl⟩, hJx3⟩⟩
    · obtain ⟨fn, tmps, assign, body, hy, hR⟩ := hY _ 1 wr hJs (by simp)
      simp only [encS] at hy
      have hS := hs1.below h0 hnx
      have ha := hS.s1
      have hb := hS.f1
      clear hS
      gi_wp2
      refine hR.mono ?_
      rintro e W3 (⟨rfl, hJ3, hk3⟩ | ⟨rfl, hJx3⟩)
      · gi_wp2
        go_roundw
        case rel => exact .inr (.inr (.inl ⟨rfl, hJ3, hnx.trans hk3⟩))
        case measure => simp [intOf]
      · gi_wp2
        refine bodyPost_ret (results_none rfl _ _ _) rfl ?_
        exact ⟨⟨_, rfl⟩, .inr ⟨_, ⟨[(0 : Fin 3)], rfl⟩, hJx3⟩⟩
    · obtain ⟨fn, tmps, assign, body, hy, hR⟩ := hY _ 0 wr hJs (by simp)
      simp only [encS] at hy
      have hS := hs1.below h0 hnx
      have ha := hS.s0
      have hb := hS.f0
      clear hS
      gi_wp2
      refine hR.mono ?_
      rintro e W3 (⟨rfl, hJ3, hk3⟩ | ⟨rfl, hJx3⟩)
      · gi_wp2
        go_roundw
        case rel => exact .inr (.inr (.inr ⟨rfl, hJ3⟩))
        case measure => simp [intOf]
      · gi_wp2
        refine bodyPost_ret (results_none rfl _ _ _) rfl ?_
        exact ⟨⟨_, rfl⟩, .inr ⟨_, ⟨[], rfl⟩, hJx3⟩⟩
    · gi_wp2
      go_end0
      exact ⟨⟨_, rfl⟩, .inl ⟨_, rfl, hJs⟩⟩

end Go.Proofs.YtmpinbaeiknjaaaDoor
