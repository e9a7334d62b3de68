/- The contract of May of package row, by an order that there is; and by any. -/
import Derived.Test.YtjnnfineebabaaaDoorL4May
namespace Go.Proofs.YtjnnfineebabaaaDoor
open Go.RowKit Go.Shelf Go.Proofs.Rowm
attribute [local go_sem] Oper.semAt_some

set_option maxRecDepth 100000 in
set_option maxHeartbeats 4000000 in
theorem rowMay_at (o : Nat) (h1 : 1 ≤ o) (h7 : o ≤ 7) (A : Option Addr) (m c : Nat) (l : List Pr) (hl : l.length = m) (hm : m ≤ 1000) (w : World) (h0 : 0 < w.heap.size) (hs : Steps w) (hr : Row w w.heap.size A (flat l)) :
    Calls Tryd.prog 25 #[.int .u8 o, .slice A m c] w fun e w' => e = .returned (.bool (mayB o l)) ∧ Below w.heap.size w w' := by
  have hr' := Lib.hid hr
  have hl' := Lib.hid hl
  clear hr hl
  refine (callsIn_wide (n := 9)).1 ?_
  refine callsIn_of_wp_marks Tryd.func25 rfl trivial ?_ rfl
  simp only [Tryd.ntmps25, List.size_toArray, List.length_cons, List.length_nil, Nat.reduceAdd, Nat.reduceSub, Array.replicate_succ, Array.replicate_zero, List.push_toArray, List.append_toArray, List.nil_append, List.cons_append]
  gi_wp2_with fail
  have b0 : Below w.heap.size w ((w.alloc (.cells #[.int .u8 o] 5)).alloc (.cells #[.bool false] 4)) := ((Below.refl _ w).alloc (Nat.le_refl _) _).alloc (by simp) _
  have bO := (Boxed.new w 5 (.int .u8 o)).alloc (.cells #[.bool false] 4)
  have bR := Boxed.new (w.alloc (.cells #[.int .u8 o] 5)) 4 (.bool false)
  rw [World.size_alloc] at bR
  refine ⟨trivial, ?_⟩
  refine (callsIn_wide.2 (code_at o h1 h7 0#64 _ (Nat.lt_of_lt_of_le h0 b0.size) (hs.below h0 b0))).mono ?_
  rintro e w1 ⟨rfl, hb⟩
  have bO1 := Lib.hid (boxed_below bO hb (by simp; omega))
  have bR1 := Lib.hid (boxed_below bR hb (by simp))
  have b1 := Lib.hid (Below.after b0 hb)
  clear hb b0 bO bR
  obtain ⟨cd, hcd⟩ : ∃ cd, Ordm.code o 0#64 = cd := ⟨_, rfl⟩
  rw [hcd]
  clear hcd
  gi_wp2_with (refine ⟨trivial, ?_⟩; gi_at_call 45; refine (callsIn_wide.2 (neighbours_any A m c _)).mono ?_; rintro e w2 ⟨rfl, rfl⟩)
  have bO2 := bO1.out.alloc (.cells #[.slice A m c] 22)
  have bR2 := bR1.out.alloc (.cells #[.slice A m c] 22)
  have bL2 := Boxed.new w1 22 (.slice A m c)
  have b2 := b1.out.alloc b1.out.size (.cells #[.slice A m c] 22)
  obtain ⟨W0, hW0⟩ : ∃ W0, w1.alloc (.cells #[.slice A m c] 22) = W0 := ⟨_, rfl⟩
  rw [hW0] at bO2 bR2 bL2 b2 ⊢
  clear hW0 b1 bO1 bR1
  have hO := bO2.lt
  have hR := bR2.lt
  have hL := bL2.lt
  refine wpIn_rangeFunc_ownH rfl (by omega) (gf := 58) (lb := #[.pointer (some ⟨w1.heap.size, 0, none⟩)]) rfl trivial (enters_of Tryd.func58 (by kernel_rfl) rfl)
    (neighbours_stops _ (by omega) W0.heap.size w1.heap.size A m c l hl'.out hm W0 (Nat.le_refl _) hL bL2.cell (hr'.out.next b2)) belowK_t (belowK_b (Nat.le_refl _)) (Below.refl _ _) (fun _ => rfl)
    (fun pre W => (∀ p ∈ pre, num o p.1.1 < num o p.2.1) ∧ Below W0.heap.size W0 W)
    (fun co pre W => (co = .ret ∧ ∃ p ∈ pre, ¬ num o p.1.1 < num o p.2.1) ∧ Boxed W (w.heap.size + 1) 4 (.bool false) ∧ Below w.heap.size w W)
    (OwnFrom.and (ownFrom_pure _ _) (ownFrom_below (Nat.le_refl _) (Nat.le_refl _)))
    (fun co => OwnFrom.and (ownFrom_pure _ _) (OwnFrom.and (Own.from (boxed_own _ _ _) _) (ownFrom_below (Nat.le_refl _) b2.size)))
    ⟨(fun p hp => by cases hp), Below.refl _ _⟩
    (fun x a' W => ∃ Ba Bb, W0.heap.size ≤ Ba ∧ W0.heap.size ≤ Bb ∧ Boxed2 W Ba 42 (K x.1.1) (K x.1.2) ∧ Boxed2 W Bb 42 (K x.2.1) (K x.2.2) ∧ a' = { tmps := #[.int .u8 o, .slice A m c, .pointer (some ⟨w.heap.size, 0, none⟩), undef, .pointer (some ⟨w.heap.size + 1, 0, none⟩), V cd, .int .i64 0, .pointer (some ⟨Ba, 0, none⟩), .pointer (some ⟨Bb, 0, none⟩), .tuple #[V cd, .int .i64 0], .int .u8 o, .tuple #[V cd, .int .i64 0], V cd, .int .i64 0, .int .i64 0, .bool false, .slice A m c, .func (.func 58) #[] #[.pointer (some ⟨w1.heap.size, 0, none⟩)], pV x.1, pV x.2, undef, undef, undef, undef, undef, undef, undef], defers := [] })
    (fun x a' _ X Y row hs hg hr => by obtain ⟨Ba, Bb, h1, h2, h3, h4, h5⟩ := hs; exact ⟨Ba, Bb, h1, h2, h3.own hg (fun r e => (hr r e).2), h4.own hg (fun r e => (hr r e).2), h5⟩)
    ?assign ?body ?done ?stop
  case assign =>
    rintro L pre x W KK ⟨hp1, hB1⟩ hK
    gi_wp2
    exact hK _ _ (((KeepsOthers.alloc _ _).trans (KeepsOthers.alloc _ _)).from _) (((Below.refl _ W).alloc hB1.size _).alloc (by have := hB1.size; simp; omega) _) ⟨hp1, (hB1.alloc hB1.size _).alloc (by have := hB1.size; simp; omega) _⟩
      ⟨W.heap.size, W.heap.size + 1, hB1.size, by have := hB1.size; omega, (Boxed2.new W 42 _ _).kept (World.grownBy_alloc _ _ none) (by simp), by have := Boxed2.new (W.alloc (.cells #[K x.1.1, K x.1.2] 42)) 42 (K x.2.1) (K x.2.2); rw [World.size_alloc] at this; exact this, rfl⟩
  case body =>
    rintro L pre x a' W hL' _ ⟨hp1, hB1⟩ ⟨Ba, Bb, hBa, hBb, q2, q3, rfl⟩ hlt
    have cO : W.cell? ⟨w.heap.size, 0, none⟩ = some (.int .u8 o) := (boxed_below bO2 hB1 hO).cell
    have bR3 := boxed_below bR2 hB1 hR
    have a0 := q2.cell0
    have a1 := q3.cell0
    have hbw : Below w.heap.size w W := b2.trans (hB1.mono b2.size)
    have hcmp := Lib.hid (compare_at o h1 h7 x.1.1 x.2.1 W (Nat.lt_of_lt_of_le h0 hbw.size) (hs.below h0 hbw))
    obtain ⟨s, hs'⟩ : ∃ s, Ordm.stand o x.1.1 x.2.1 = s := ⟨_, rfl⟩
    have hst := stand_lt o x.1.1 x.2.1
    rw [hs'] at hcmp hst
    clear hs'
    by_cases hneg : s < 0
    · have hd := Lib.hid (hst.1 hneg)
      have hneg' : ¬ (0 ≤ s) := by omega
      have hp2 := Lib.hid hp1
      clear hst hp1
      gi_wp2_with fail
      refine ⟨trivial, ?_⟩
      refine (CallsIn.inRound L (callsIn_wide.2 hcmp.out)).mono ?_
      rintro e w3 ⟨rfl, hb⟩
      gi_wp2
      have hbW : Below W0.heap.size W w3 := hb.mono hB1.size
      refine ⟨(keeps_below hb).from _, hbW, fun p hp => ?_, hB1.trans hbW⟩
      rcases List.mem_append.1 hp with hp | hp
      · exact hp2.out p hp
      · simp only [List.mem_singleton] at hp
        subst hp
        exact hd.out
    · have hd : Hid (¬ num o x.1.1 < num o x.2.1) := fun h => hneg (hst.2 h)
      have hpos : 0 ≤ s := by omega
      clear hst hp1
      gi_wp2_with fail
      refine ⟨trivial, ?_⟩
      refine (CallsIn.inRound L (callsIn_wide.2 hcmp.out)).mono ?_
      rintro e w3 ⟨rfl, hb⟩
      have bR4 := boxed_below bR3 hb (by have := hB1.size; omega)
      have cR := bR4.cell
      have fR := bR4.frozen
      gi_wp2
      exact ⟨((keeps_below hb).trans (KeepsOthers.setCell _ _ _)).from _, ⟨rfl, x, List.mem_append.2 (.inr (by simp)), hd.out⟩, bR4.set _, (hbw.trans (hb.mono hbw.size)).setCell (p := ⟨w.heap.size + 1, 0, none⟩) (by simp) _⟩
  case done =>
    rintro D zs W hD rfl ⟨hp1, hB1⟩ hK
    have hmay := Lib.hid (mayB_mk h1 h7 (rises_nb hp1))
    have bR3 := boxed_below bR2 hB1 hR
    have cR := bR3.cell
    have fR := bR3.frozen
    have hbw : Below w.heap.size w W := b2.trans (hB1.mono b2.size)
    clear hp1
    gi_wp2
    have hK' := (KeepsOthers.setCell W ⟨w.heap.size + 1, 0, none⟩ (.bool true)).same D _ hK rfl
    refine ⟨by simp, .inl ⟨_, _, rfl, run_takeDeferred hK', ?_⟩⟩
    have hc5 := cell_kept (bR3.set (.bool true)).cell (grownBy_putObj' _ D (.deferred none)) (fun r e => by cases e; exact ⟨_, hK', rfl⟩)
    refine ⟨.bool true, ?_, by rw [hmay.out], (hbw.setCell (p := ⟨w.heap.size + 1, 0, none⟩) (by simp) _).trans (belowK_b (w := w) (Nat.le_refl _) _ D _ _ (by have := b2.size; omega) hK' rfl rfl)⟩
    simp [results, Tryd.results25, go_sem, hc5]
  case stop =>
    rintro D co pre W hD hpre ⟨⟨rfl, x, hx, hy⟩, bR1, hB1⟩ hK
    have hmay := Lib.hid (fallen_nb (hpre.subset hx) hy)
    gi_wp2
    refine ⟨by simp, .inl ⟨_, _, rfl, run_takeDeferred hK, ?_⟩⟩
    have hc5 := cell_kept bR1.cell (grownBy_putObj' _ D (.deferred none)) (fun r e => by cases e; exact ⟨_, hK, rfl⟩)
    refine ⟨.bool false, ?_, by rw [hmay.out], hB1.trans (belowK_b (w := w) (Nat.le_refl _) W D _ _ (by have := b2.size; omega) hK rfl rfl)⟩
    simp [results, Tryd.results25, go_sem, hc5]

theorem rowMay_any (o : Nat) (A : Option Addr) (m c : Nat) (l : List Pr) (hl : l.length = m) (hm : m ≤ 1000) (w : World) (h0 : 0 < w.heap.size) (hs : Steps w) (hr : Row w w.heap.size A (flat l)) :
    Calls Tryd.prog 25 #[.int .u8 o, .slice A m c] w fun e w' => e = .returned (.bool (mayB o l)) ∧ Below w.heap.size w w' := by
  by_cases ho : 1 ≤ o ∧ o ≤ 7
  · exact rowMay_at o ho.1 ho.2 A m c l hl hm w h0 hs hr
  · rw [may_none_of ho l]
    exact rowMay_none o (fun ⟨a, b⟩ => ho ⟨by omega, by omega⟩) A m c w
/-- whether a row may be, the answer under a name -/
theorem rowMay_is {o : Nat} {A : Option Addr} {n c : Nat} {l : List Pr} {t : Bool} (h : mayB o l = t) (hl : l.length = n) (hn : n ≤ 1000) {w : World} (h0 : 0 < w.heap.size) (hs : Steps w) (hr : Row w w.heap.size A (flat l)) :
    Calls Tryd.prog 25 #[.int .u8 o, .slice A n c] w fun e w' => e = .returned (.bool t) ∧ Below w.heap.size w w' := h ▸ rowMay_any o A n c l hl hn w h0 hs hr
end Go.Proofs.YtjnnfineebabaaaDoor
