/- The contracts of the iterator backward and of Unmix of package mix: each returns what the plain mathematics says and changes nothing that lay, while the table of steps reads as its initialiser lays it. -/
import Derived.Test.YtfndaeocdgcaeaaDoorL1Fwd
import Derived.Test.YtfndaeocdgcaeaaDoorL1Low
namespace Go.Proofs.YtfndaeocdgcaeaaDoor
open Go.RowKit Go.Shelf Go.Proofs.Mixm
attribute [local go_sem] Oper.semAt_some


set_option maxRecDepth 100000 in
set_option maxHeartbeats 2000000 in
theorem backward_stops (F : Fence) (n : Nat) (h6 : F.fn 79) (hro : F.round = none) (hn : 1 ≤ n) (n₀ : Nat) (h0 : 0 < n₀) (w : World) (hn₀ : n₀ ≤ w.heap.size) (hs : Steps w) :
    SeqStopsK F n Tryd.prog 79 #[] encS (Below n₀) (fun ys => ys = [2, 1, 0]) (fun pre => pre <+: [2, 1, 0]) 3 w := fun l J Jx W hW _ _ hY hJ0 => by
  have hs1 : Steps W := hs.below h0 (hW.mono hn₀)
  refine callsIn_of_wp Tryd.func79 rfl h6 ?_ hro
  simp only [Tryd.ntmps79, List.size_toArray, List.length_cons, List.length_nil, Nat.reduceAdd, Nat.reduceSub, Array.replicate_succ, Array.replicate_zero, List.push_toArray, List.append_toArray, List.nil_append, List.cons_append]
  gi_wp2
  gi_loopw [3] (fun i wr => (i = .int .i64 0 ∧ J [] wr ∧ Below n₀ W wr) ∨ (i = .int .i64 1 ∧ J [2] wr ∧ Below n₀ W wr) ∨ (i = .int .i64 2 ∧ J [2, 1] wr ∧ Below n₀ W wr) ∨ (i = .int .i64 3 ∧ J [2, 1, 0] wr))
    (fun i _ => 3 - (intOf i).toNat)
  case atStart => exact .inl ⟨rfl, hJ0, Below.refl _ _⟩
  case round =>
    rcases hrel with ⟨rfl, hJs, hnx⟩ | ⟨rfl, hJs, hnx⟩ | ⟨rfl, hJs, hnx⟩ | ⟨rfl, hJs⟩
    · obtain ⟨fn, tmps, assign, body, hy, hR⟩ := hY _ 2 wr hJs (by simp)
      simp only [encS] at hy
      have hS := hs1.below h0 hnx
      have ha := hS.s2
      have hb := hS.f2
      clear hS
      gi_wp2
      refine hR.mono ?_
      rintro e W3 (⟨rfl, hJ3, hk3⟩ | ⟨rfl, hJx3⟩)
      · gi_wp2
        go_roundw
        case rel => exact .inr (.inl ⟨rfl, hJ3, hnx.trans hk3⟩)
        case measure => simp [intOf]
      · gi_wp2
        refine bodyPost_ret (results_none rfl _ _ _) rfl ?_
        exact ⟨⟨_, rfl⟩, .inr ⟨_, ⟨[(1 : Fin 3), (0 : Fin 3)], rfl⟩, hJx3⟩⟩
    · obtain ⟨fn, tmps, assign, body, hy, hR⟩ := hY _ 1 wr hJs (by simp)
      simp only [encS] at hy
      have hS := hs1.below h0 hnx
      have ha := hS.s1
      have hb := hS.f1
      clear hS
      gi_wp2
      refine hR.mono ?_
      rintro e W3 (⟨rfl, hJ3, hk3⟩ | ⟨rfl, hJx3⟩)
      · gi_wp2
        go_roundw
        case rel => exact .inr (.inr (.inl ⟨rfl, hJ3, hnx.trans hk3⟩))
        case measure => simp [intOf]
      · gi_wp2
        refine bodyPost_ret (results_none rfl _ _ _) rfl ?_
        exact ⟨⟨_, rfl⟩, .inr ⟨_, ⟨[(0 : Fin 3)], rfl⟩, hJx3⟩⟩
    · obtain ⟨fn, tmps, assign, body, hy, hR⟩ := hY _ 0 wr hJs (by simp)
      simp only [encS] at hy
      have hS := hs1.below h0 hnx
      have ha := hS.s0
      have hb := hS.f0
      clear hS
      gi_wp2
      refine hR.mono ?_
      rintro e W3 (⟨rfl, hJ3, hk3⟩ | ⟨rfl, hJx3⟩)
      · gi_wp2
        go_roundw
        case rel => exact .inr (.inr (.inr ⟨rfl, hJ3⟩))
        case measure => simp [intOf]
      · gi_wp2
        refine bodyPost_ret (results_none rfl _ _ _) rfl ?_
        exact ⟨⟨_, rfl⟩, .inr ⟨_, ⟨[], rfl⟩, hJx3⟩⟩
    · gi_wp2
      go_end0
      exact ⟨⟨_, rfl⟩, .inl ⟨_, rfl, hJs⟩⟩

/-- what steps make of a number, going back -/
def unmixL (b : BitVec 64) (l : List (Fin 3)) : BitVec 64 := l.foldl (fun x k => unf (sh k) (x * inv (fc k) 5)) b
theorem unmixL_snoc (b : BitVec 64) (l : List (Fin 3)) (k : Fin 3) : unmixL b (l ++ [k]) = unf (sh k) (unmixL b l * inv (fc k) 5) := by simp [unmixL]
theorem unmixL_all (b : BitVec 64) : unmixL b [2, 1, 0] = unmix b := by
  show unf 30 (unf 27 (unf 31 (b * inv 1#64 5) * inv c2 5) * inv c1 5) = _
  rw [inv_one, inv_c1, inv_c2, BitVec.mul_one]; rfl

set_option maxRecDepth 100000 in
set_option maxHeartbeats 2000000 in
theorem unmix_any (b : BitVec 64) (w : World) (hz : 0 < w.heap.size) (hs : Steps w) : Calls Tryd.prog 71 #[V b] w fun e w' => e = .returned (V (unmix b)) ∧ Below w.heap.size w w' := by
  refine (callsIn_wide (n := 9)).1 ?_
  refine callsIn_of_wp_marks Tryd.func71 rfl trivial ?_ rfl
  simp only [Tryd.ntmps71, List.size_toArray, List.length_cons, List.length_nil, Nat.reduceAdd, Nat.reduceSub, Array.replicate_succ, Array.replicate_zero, List.push_toArray, List.append_toArray, List.nil_append, List.cons_append]
  gi_wp2
  have bX := Boxed.new w 42 (V b)
  have hB0 : Below w.heap.size w (w.alloc (.cells #[V b] 42)) := (Below.refl _ w).alloc (Nat.le_refl _) _
  have hsz : (w.alloc (.cells #[V b] 42)).heap.size = w.heap.size + 1 := by simp
  have hs0 := hs.below hz hB0
  obtain ⟨W0, hW0⟩ : ∃ W0, w.alloc (.cells #[V b] 42) = W0 := ⟨_, rfl⟩
  rw [hW0] at bX hB0 hsz hs0 ⊢
  clear hW0
  refine wpIn_rangeFunc_ownH rfl (by omega) (gf := 79) (lb := #[]) rfl trivial (enters_of Tryd.func79 (by kernel_rfl) rfl)
    (backward_stops Fence.wide _ trivial rfl (by omega) w.heap.size hz W0 (by omega) hs0) belowK_t (belowK_b (by omega)) (Below.refl _ _) (fun _ => rfl)
    (fun pre W => Boxed W w.heap.size 42 (V (unmixL b pre)) ∧ Below w.heap.size w W)
    (fun _ _ _ => False)
    (OwnFrom.and (Own.from (boxed_own _ _ _) _) (ownFrom_below (Nat.le_refl _) (by omega)))
    (fun _ _ _ _ _ hs _ _ => hs)
    ⟨bX, hB0⟩
    (fun x a' W => ∃ Bx, w.heap.size < Bx ∧ Boxed2 W Bx 102 (.int .u64 (sh x : Int)) (V (fc x)) ∧ a' = { tmps := #[V b, .pointer (some ⟨w.heap.size, 0, none⟩), .int .u64 0, .pointer (some ⟨Bx, 0, none⟩), .agg #[.int .u64 (sh x : Int), V (fc x)], undef, undef, undef, undef, undef, undef, undef, undef, undef], defers := [] })
    (fun x a' _ X Y row hs hg hr => by obtain ⟨Bx, h1, h2, h3⟩ := hs; exact ⟨Bx, h1, h2.own hg (fun r e => (hr r e).2), h3⟩)
    ?assign ?body ?done ?stop
  case assign =>
    rintro l pre x W K ⟨bX1, hB1⟩ hK
    gi_wp2
    exact hK _ _ ((KeepsOthers.alloc _ _).from _) ((Below.refl _ W).alloc hB1.size _) ⟨bX1.alloc _, hB1.alloc hB1.size _⟩ ⟨W.heap.size, bX1.lt, Boxed2.new W 102 _ _, rfl⟩
  case body =>
    rintro l pre x a' W hl _ ⟨bX1, hB1⟩ ⟨Bx, hBx, b2, rfl⟩ hlt
    have cX := bX1.cell
    have fX := bX1.frozen
    have c0 := b2.cell0
    have c1 := b2.cell1
    have hlo := sh_lo x
    have hhi := sh_hi x
    have hlt0 := bX1.lt
    have hlt2 : Bx < W.heap.size := (Array.getElem?_eq_some_iff.1 b2).1
    have hfin := (((Below.refl w.heap.size W).setCell (p := ⟨w.heap.size, 0, none⟩) (Nat.le_refl _) (V (unf (sh x) (unmixL b pre * inv (fc x) 5)))).alloc (by have h9 := (KeepsOthers.setCell W ⟨w.heap.size, 0, none⟩ (V (unf (sh x) (unmixL b pre * inv (fc x) 5)))).size; omega) (.cells #[V (fc x)] 42)).drew
    have hfin := Lib.hid hfin
    have hmx : Tryd.prog.follows .mixedOrders = true := by kernel_rfl
    gi_wp2
    gi_region_with_o (first | (refine ⟨trivial, ?_⟩; gi_at_call 81; refine (CallsIn.inRound l (callsIn_wide.2 (inverse_any _ _))).mono ?_; rintro e w' ⟨rfl, rfl⟩) | (refine ⟨trivial, ?_⟩; gi_at_call 80; rw [v_mul]; refine (CallsIn.inRound l (callsIn_wide.2 (unfold_any _ _ hlo hhi _))).mono ?_; rintro e w' ⟨rfl, rfl⟩))
    all_goals gi_wp2
    all_goals exact ⟨((KeepsOthers.setCell _ _ _).trans ((KeepsOthers.alloc _ _).trans (KeepsOthers.drew _))).from _, hfin.out, by rw [unmixL_snoc]; exact (bX1.set (V (unf (sh x) (unmixL b pre * inv (fc x) 5)))).alloc (.cells #[V (fc x)] 42), hB1.trans hfin.out⟩
  case done =>
    rintro D zs W hD rfl ⟨bX1, hB1⟩ hK
    have cX := bX1.cell
    gi_wp2
    refine ⟨by simp, .inl ⟨_, _, rfl, run_takeDeferred hK, ?_⟩⟩
    exact ⟨_, results_tmp rfl _ _ _, by rw [← unmixL_all]; rfl, hB1.trans (belowK_b (w := w) (Nat.le_refl _) W D _ _ (by omega) hK rfl rfl)⟩
  case stop =>
    rintro D c pre W _ _ h _
    exact h.elim
end Go.Proofs.YtfndaeocdgcaeaaDoor
