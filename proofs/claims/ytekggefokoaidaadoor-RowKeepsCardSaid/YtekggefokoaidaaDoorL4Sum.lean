/- The contract of the iterator values and of Sum of package row. -/
import Derived.Test.YtekggefokoaidaaDoorL4It
import Derived.Test.YtekggefokoaidaaDoorL3Add
namespace Go.Proofs.YtekggefokoaidaaDoor
open Go.RowKit Go.Shelf Go.Proofs.Rowm
attribute [local go_sem] Oper.semAt_some

set_option maxRecDepth 100000 in
set_option maxHeartbeats 1000000 in
theorem values_stops (n : Nat) (hn : 1 ≤ n) (n₀ Bx : Nat) (A : Option Addr) (m c : Nat) (l : List Pr) (hl : l.length = m) (hm : m ≤ 1000) (w : World) (hn₀ : n₀ ≤ w.heap.size) (hBx : Bx < w.heap.size)
    (hcB : w.cell? ⟨Bx, 0, none⟩ = some (.slice A m c)) (hrow : Row w n₀ A (flat l)) :
    SeqStopsK Fence.wide n Tryd.prog 47 #[.pointer (some ⟨Bx, 0, none⟩)] encV (Below n₀) (fun ys => ys = l.map (·.2)) (fun pre => pre <+: l.map (·.2)) 1000 w := fun L J Jx W hW hJa _ hY hJ0 => by
  have hcW : W.cell? ⟨Bx, 0, none⟩ = some (.slice A m c) := (hW.cell (p := ⟨Bx, 0, none⟩) hBx).trans hcB
  have hrW := Lib.hid (hrow.below (hW.mono hn₀))
  have hs0 : n₀ ≤ W.heap.size := Nat.le_trans hn₀ hW.size
  have hl' := Lib.hid hl
  have hJa' := Lib.hid hJa
  have hY' := Lib.hid hY
  clear hrow hl hJa hY hcB
  refine callsIn_of_wp Tryd.func47 rfl trivial ?_ rfl
  simp only [Tryd.ntmps47, List.size_toArray, List.length_cons, List.length_nil, Nat.reduceAdd, Nat.reduceSub, Array.replicate_succ, Array.replicate_zero, List.push_toArray, List.append_toArray, List.nil_append, List.cons_append]
  gi_wp2
  gi_loopw [7] (fun i wr => ∃ k : Nat, k ≤ m ∧ i = .int .i64 k ∧ J ((l.map (·.2)).take k) wr ∧ Below n₀ W wr) (fun i _ => m - (intOf i).toNat)
  case atStart => exact ⟨0, Nat.zero_le _, rfl, hJ0, Below.refl _ _⟩
  case round =>
    obtain ⟨k, hk, rfl, hJs, hnx⟩ := hrel
    have b0 := Lib.hid hnx
    have j0 := Lib.hid hJs
    clear hnx hJs hcW
    by_cases hlt : k < m
    · have hkl : k < l.length := by rw [hl'.out]; exact hlt
      obtain ⟨ad, rfl, hb2, g1, g2⟩ := pair_at (hrW.out.below b0.out) k hkl
      have htk : Hid ((l.map (·.2)).take (k + 1) = (l.map (·.2)).take k ++ [l[k].2]) := by
        show (l.map (·.2)).take (k + 1) = (l.map (·.2)).take k ++ [l[k].2]
        rw [List.take_succ_eq_append_getElem (by simpa using hkl), List.getElem_map]
      have hpre : Hid ((l.map (·.2)).take (k + 1) <+: l.map (·.2)) := List.take_prefix _ _
      have hy0 := hY'.out ((l.map (·.2)).take k) l[k].2 (wr.alloc (.cells #[K l[k].1, K l[k].2] 24)) (hJa'.out _ wr _ none j0.out (World.grownBy_alloc wr _ none) (fun r e => by cases e)) (by rw [List.length_take]; omega)
      rw [← htk.out] at hy0
      obtain ⟨fn, tmps, assign, body, hy, hR⟩ := hy0
      simp only [encV] at hy
      gi_wp2
      refine hR.mono ?_
      rintro e W3 (⟨rfl, hJ3, hk3⟩ | ⟨rfl, hJx3⟩)
      · gi_wp2
        go_roundw
        case rel => exact ⟨k + 1, by omega, by go_num, hJ3, b0.out.trans (((Below.refl n₀ wr).alloc (Nat.le_trans hs0 b0.out.size) _).trans hk3)⟩
        case measure => simp [intOf]; omega
      · gi_wp2
        refine bodyPost_ret (results_none rfl _ _ _) rfl ?_
        exact ⟨⟨_, rfl⟩, .inr ⟨_, hpre.out, hJx3⟩⟩
    · have j1 : Hid (J (l.map (·.2)) wr) := by have := j0.out; rw [List.take_of_length_le (by rw [List.length_map, hl'.out]; omega)] at this; exact this
      gi_wp2
      go_end0
      first | exact ⟨⟨_, rfl⟩, .inl j1.out⟩ | exact ⟨⟨_, rfl⟩, .inl ⟨_, rfl, j1.out⟩⟩

theorem keeps_below {W W' : World} (h : Below W.heap.size W W') : KeepsOthers W W' := ⟨h.size, fun k _ hk _ => (h.block k (Array.getElem?_eq_some_iff.1 hk).1).trans hk⟩
theorem boxed_below {W W' : World} {B n : Nat} {t : TypeId} {v : Value} (h : Boxed W B t v) (hb : Below n W W') (hn : B < n) : Boxed W' B t v := (hb.block B hn).trans h
theorem sum_two (s v : BitVec 64) : Foldm.sum [s, v] = s + v := by simp [Foldm.sum]

set_option maxRecDepth 100000 in
set_option maxHeartbeats 2000000 in
theorem rowSum_at (A : Option Addr) (m c : Nat) (l : List Pr) (hl : l.length = m) (hm : m ≤ 1000) (w : World) (hr : Row w w.heap.size A (flat l)) :
    Calls Tryd.prog 23 #[.slice A m c] w fun e w' => e = .returned (K (Foldm.sum (l.map (·.2)))) ∧ Below w.heap.size w w' := by
  have hr' := Lib.hid hr
  have hl' := Lib.hid hl
  clear hr hl
  refine (callsIn_wide (n := 9)).1 ?_
  refine callsIn_of_wp_marks Tryd.func23 rfl trivial ?_ rfl
  simp only [Tryd.ntmps23, List.size_toArray, List.length_cons, List.length_nil, Nat.reduceAdd, Nat.reduceSub, Array.replicate_succ, Array.replicate_zero, List.push_toArray, List.append_toArray, List.nil_append, List.cons_append]
  gi_wp2_with (refine ⟨trivial, ?_⟩; gi_at_call 37; refine (callsIn_wide.2 (values_any A m c _)).mono ?_; rintro e w1 ⟨rfl, rfl⟩)
  have bX := (Boxed.new w 2 (K 0#64)).alloc (.cells #[.slice A m c] 22)
  have bL := Boxed.new (w.alloc (.cells #[K 0#64] 2)) 22 (.slice A m c)
  rw [World.size_alloc] at bL
  have hB0 : Below w.heap.size w ((w.alloc (.cells #[K 0#64] 2)).alloc (.cells #[.slice A m c] 22)) := ((Below.refl _ w).alloc (Nat.le_refl _) _).alloc (by simp) _
  have hsz : ((w.alloc (.cells #[K 0#64] 2)).alloc (.cells #[.slice A m c] 22)).heap.size = w.heap.size + 2 := by simp
  obtain ⟨W0, hW0⟩ : ∃ W0, (w.alloc (.cells #[K 0#64] 2)).alloc (.cells #[.slice A m c] 22) = W0 := ⟨_, rfl⟩
  rw [hW0] at bX bL hB0 hsz
  rw [show (w.alloc (.cells #[.int .i64 0] 2)).alloc (.cells #[.slice A m c] 22) = W0 from hW0]
  clear hW0
  refine wpIn_rangeFunc_ownH rfl (by omega) (gf := 47) (lb := #[.pointer (some ⟨w.heap.size + 1, 0, none⟩)]) rfl trivial (enters_of Tryd.func47 (by kernel_rfl) rfl)
    (values_stops _ (by omega) w.heap.size (w.heap.size + 1) A m c l hl'.out hm W0 (by omega) (by omega) bL.cell (hr'.out.below hB0)) belowK_t (belowK_b (by omega)) (Below.refl _ _) (fun _ => rfl)
    (fun pre W => Boxed W w.heap.size 2 (K (Foldm.sum pre)) ∧ Below w.heap.size w W)
    (fun _ _ _ => False)
    (OwnFrom.and (Own.from (boxed_own _ _ _) _) (ownFrom_below (Nat.le_refl _) (by omega)))
    (fun _ _ _ _ _ hs _ _ => hs)
    ⟨bX, hB0⟩
    (fun x a' W => a' = { tmps := #[.slice A m c, undef, .int .i64 0, .pointer (some ⟨w.heap.size, 0, none⟩), K x, .slice A m c, .func (.func 47) #[] #[.pointer (some ⟨w.heap.size + 1, 0, none⟩)], K x, undef, undef, undef, undef, undef], defers := [] })
    (fun x a' _ X Y row hs hg hr => hs)
    ?assign ?body ?done ?stop
  case assign =>
    rintro l pre x W K ⟨bX1, hB1⟩ hK
    gi_wp2
    exact hK _ _ ((KeepsOthers.refl _).from _) (Below.refl _ W) ⟨bX1, hB1⟩ rfl
  case body =>
    rintro L pre x a' W hL _ ⟨bX1, hB1⟩ rfl hlt
    obtain ⟨s, hs⟩ : ∃ s, Foldm.sum pre = s := ⟨_, rfl⟩
    rw [hs] at bX1
    have hs' : Hid (Foldm.sum (pre ++ [x]) = s + x) := by show Foldm.sum (pre ++ [x]) = s + x; rw [Foldm.sum_snoc, hs]
    clear hs
    obtain ⟨t, ht⟩ : ∃ t, s + x = t := ⟨_, rfl⟩
    rw [ht] at hs'
    have hcall : Hid (Calls Tryd.prog 38 #[.slice (some ⟨W.heap.size, 0, none⟩) 2 2] (W.alloc (.cells #[K s, K x] 2)) fun e w' => e = .returned (K t) ∧ Below (W.alloc (.cells #[K s, K x] 2)).heap.size (W.alloc (.cells #[K s, K x] 2)) w') := by
      have := sum_at (some ⟨W.heap.size, 0, none⟩) 2 2 [s, x] rfl (by omega) (by unfold maxLen; omega) (W.alloc (.cells #[K s, K x] 2)) (Has.new W 2 #[K s, K x]).row
      rw [sum_two, ht] at this
      exact this
    have cX := bX1.cell
    have hlt0 := bX1.lt
    clear ht
    gi_wp2_with fail
    refine ⟨trivial, ?_⟩
    refine (CallsIn.inRound L (callsIn_wide.2 hcall.out)).mono ?_
    rintro e w2 ⟨rfl, hb⟩
    have bX2 := boxed_below (bX1.alloc (.cells #[K s, K x] 2)) hb (by rw [World.size_alloc]; omega)
    have cX2 := bX2.cell
    have fX2 := bX2.frozen
    gi_wp2
    have hbW : Below w.heap.size W w2 := ((Below.refl w.heap.size W).alloc hB1.size _).trans (hb.mono (by simp; omega))
    have hKO : KeepsOthers W w2 := (KeepsOthers.alloc W _).trans (keeps_below hb)
    exact ⟨(hKO.trans (KeepsOthers.setCell _ _ _)).from _, hbW.setCell (p := ⟨w.heap.size, 0, none⟩) (Nat.le_refl _) _, by rw [hs'.out]; exact bX2.set _, (hB1.trans hbW).setCell (p := ⟨w.heap.size, 0, none⟩) (Nat.le_refl _) _⟩
  case done =>
    rintro D zs W hD rfl ⟨bX1, hB1⟩ hK
    have cX := bX1.cell
    gi_wp2
    refine ⟨by simp, .inl ⟨_, _, rfl, run_takeDeferred hK, ?_⟩⟩
    exact ⟨_, results_tmp rfl _ _ _, rfl, hB1.trans (belowK_b (w := w) (Nat.le_refl _) W D _ _ (by omega) hK rfl rfl)⟩
  case stop =>
    rintro D c pre W _ _ h _
    exact h.elim
end Go.Proofs.YtekggefokoaidaaDoor
