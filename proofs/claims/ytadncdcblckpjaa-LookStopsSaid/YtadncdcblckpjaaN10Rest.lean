/- Layer 10, package look as it landed: Pairs, Keys, Count. -/
import Derived.Test.YtadncdcblckpjaaN10All
import Derived.Test.YtadncdcblckpjaaL10Keys
import Derived.Test.YtadncdcblckpjaaL10Col
namespace Go.Proofs.Ytadncdcblckpjaa
open Go.RowKit Go.Shelf Go.Proofs.Treem Go.Proofs.Rowm
attribute [local go_sem] Oper.semAt_some
variable {Nd : NdP}

theorem keysV_append (a b : List Pr) : keysV (a ++ b) = keysV a ++ keysV b := List.map_append
/-- what Keys has gathered -/
def HeldK (w : World) (B : Nat) (l : List Pr) (W : World) : Prop := ∃ v, Boxed W B 40 v ∧ W.ownsRow w.heap.size 2 1 v l.length (keysV l)
theorem heldK_abide {B' : Nat} (w : World) (B : Nat) : Abide inner B' (HeldK w B) := Abide.holds (β := List Pr) w.heap.size B 40 2 1 (fun l => l.length) keysV (.inl rfl) rfl
set_option maxRecDepth 100000 in
set_option maxHeartbeats 1000000 in
theorem pairsN (hN : NodeSays Nd) (w : World) (t : Tr) (p : Option Addr) (hT : TreeAt Nd w w.heap.size t p) (hl : t.size ≤ 1000) :
    Calls Try.prog 17 #[.pointer p] w fun e w' => ∃ v, e = .returned v ∧ w'.ownsRow w.heap.size 50 2 v t.size (flat t.pairs) ∧ Below w.heap.size w w' := by
  obtain ⟨i0, hin, hz0, hz1, hz2⟩ := info_parts info_pair
  have hb0 : Below w.heap.size w (w.alloc (.cells #[.slice none 0 0] 27)) := (Below.refl _ _).alloc (Nat.le_refl _) _
  have cA := Lib.hid (all_goes hN (w.alloc (.cells #[.slice none 0 0] 27)) t p w.heap.size hb0.size (hT.next hN hb0) hl)
  have bO0 := Boxed.new w 27 (.slice none 0 0)
  clear hT hN
  refine (callsIn_wide (n := 9)).1 ?_
  refine callsIn_of_wp_marks Try.func17 rfl trivial ?_ rfl
  simp only [Try.ntmps17, List.size_toArray, List.length_cons, List.length_nil, Nat.reduceAdd, Nat.reduceSub, Array.replicate_succ, Array.replicate_zero, List.push_toArray, List.append_toArray, List.nil_append, List.cons_append]
  refine wpIn_wide.2 ?_
  go_wp2_with fail
  refine cA.out.mono ?_
  rintro e W0 ⟨v, rfl, ⟨hB0, g, lb, rfl, hent, hseq⟩, hb⟩
  have hB1 : Below w.heap.size w W0 := Below.after hb0 hb
  have bO := boxed_below bO0 hb
  clear cA bO0 hb
  go_wp2_with fail
  refine (wpIn_wide (n := 9)).1 ?_
  refine wpIn_rangeFunc_runs rfl (by omega) (gf := g) (lb := lb) rfl trivial hent
    (hseq W0 (Below.refl _ _) _) Kt.trans (Kt.put (by omega)) (Below.refl _ _) (fun _ => rfl)
    (fun pre W => Held w w.heap.size pre W ∧ Below w.heap.size w W)
    (fun _ _ _ => False)
    (Abide.and (held_abide w w.heap.size) (Abide.below hB0 (Nat.le_refl _)))
    (fun _ _ _ _ hs _ => hs)
    ⟨⟨_, bO, World.ownsRow_nil _ _ _ _⟩, hB1⟩
    (fun x a' W => a' = { tmps := #[.pointer p, undef, .slice none 0 0, .pointer (some ⟨w.heap.size, 0, none⟩), K x.1, K x.2, .pointer p, .func (.func g) #[] lb, K x.1, K x.2, undef, undef, undef, undef, undef, undef, undef], defers := [] })
    (fun x a' _ X Y row hs hg hr => hs)
    ?assign ?body ?done ?stop
  case assign =>
    rintro l pre x W K hI _ hK
    gi_wp2
    exact hK _ _ ((KeepsOthers.refl _).from _) (Kt.refl _ W) hI rfl
  case body =>
    rintro L pre x a' W hL _ ⟨⟨v1, bO1, o1⟩, hB2⟩ rfl hlt
    replace hlt := hlt.length_le
    rw [List.length_append, List.length_singleton, pairs_len] at hlt
    obtain ⟨A, c, rfl, -, -, -⟩ := own_slice o1
    have cO := bO1.cell
    have fO := bO1.frozen
    gi_wp2_with (first
      | (gi_at_builtin; refine wpListIn_append_own _ rfl _ _ 27 rfl w.heap.size 50 i0 (.agg #[.int .i64 0, .int .i64 0]) 2 16 Try.underlying27 hin hz0 hz1 hz2 rfl (by decide) (.slice A pre.length c) pre.length (flat pre) rfl (o1.alloc _) ⟨W.heap.size, 0, none⟩ 1 1 [K x.1, K x.2] rfl rfl (fun j u hu => ((Has.new W 50 #[K x.1, K x.2]).row.at_ hu).2) (by simp [Value.oneCell']) (by unfold maxLen; omega) (by omega) (by have := hB2.size; simp; omega) ?_
         intro v2 w1 hown' hgrow _
         obtain ⟨g', cap', rfl⟩ := ownsRow_succ hown'
         obtain ⟨hv1, hv2, hr2, hk2, hb2⟩ := bO1.appended (by decide) o1 hB2.size (Nat.le_refl _) hown' hgrow
         have hc1 := hv1.cell
         have hf1 := hv1.frozen)
      | fail)
    exact ⟨hk2.from _, ((Kt.of_below ((Below.refl W.heap.size W).alloc (Nat.le_refl _) _) hB2.size).trans (Kt.grown hgrow (o1.alloc _) rfl (Nat.le_refl _) (by have := hB2.size; simp; omega))).trans (Kt.store hv1 _ rfl (Nat.le_refl _)),
      ⟨_, hv2, by rw [List.length_append, flat_append]; exact hr2⟩, hB2.trans hb2⟩
  case done =>
    rintro D W hD ⟨⟨v1, bO1, o1⟩, hB2⟩ hK
    rw [pairs_len] at o1
    have cO := bO1.cell
    go_wp2
    refine ⟨by simp, .inl ⟨_, _, rfl, run_takeDeferred hK, ?_⟩⟩
    exact ⟨_, results_tmp rfl _ _ _, v1, rfl, ownsRow_putObj o1 _ hK rfl, hB2.trans (belowK_b (w := w) (Nat.le_refl _) W D _ _ (by have := hB1.size; omega) hK rfl rfl)⟩
  case stop =>
    rintro D c pre W _ _ h _
    exact h.elim
set_option maxRecDepth 100000 in
set_option maxHeartbeats 1000000 in
theorem keysN (hN : NodeSays Nd) (w : World) (t : Tr) (p : Option Addr) (hT : TreeAt Nd w w.heap.size t p) (hl : t.size ≤ 1000) :
    Calls Try.prog 19 #[.pointer p] w fun e w' => ∃ v, e = .returned v ∧ w'.ownsRow w.heap.size 2 1 v t.size (t.pairs.map fun x => K x.1) ∧ Below w.heap.size w w' := by
  obtain ⟨i0, hin, hz0, hz1, hz2⟩ := info_parts info_int64
  have hb0 : Below w.heap.size w (w.alloc (.cells #[.slice none 0 0] 40)) := (Below.refl _ _).alloc (Nat.le_refl _) _
  have cA := Lib.hid (all_goes hN (w.alloc (.cells #[.slice none 0 0] 40)) t p w.heap.size hb0.size (hT.next hN hb0) hl)
  have bO0 := Boxed.new w 40 (.slice none 0 0)
  clear hT hN
  refine (callsIn_wide (n := 9)).1 ?_
  refine callsIn_of_wp_marks Try.func19 rfl trivial ?_ rfl
  simp only [Try.ntmps19, List.size_toArray, List.length_cons, List.length_nil, Nat.reduceAdd, Nat.reduceSub, Array.replicate_succ, Array.replicate_zero, List.push_toArray, List.append_toArray, List.nil_append, List.cons_append]
  refine wpIn_wide.2 ?_
  go_wp2_with fail
  refine cA.out.mono ?_
  rintro e W0 ⟨v, rfl, ⟨hB0, g, lb, rfl, hent, hseq⟩, hb⟩
  have hB1 : Below w.heap.size w W0 := Below.after hb0 hb
  have bO := boxed_below bO0 hb
  clear cA bO0 hb
  go_wp2_with fail
  refine (wpIn_wide (n := 9)).1 ?_
  refine wpIn_rangeFunc_runs rfl (by omega) (gf := g) (lb := lb) rfl trivial hent
    (hseq W0 (Below.refl _ _) _) Kt.trans (Kt.put (by omega)) (Below.refl _ _) (fun _ => rfl)
    (fun pre W => HeldK w w.heap.size pre W ∧ Below w.heap.size w W)
    (fun _ _ _ => False)
    (Abide.and (heldK_abide w w.heap.size) (Abide.below hB0 (Nat.le_refl _)))
    (fun _ _ _ _ hs _ => hs)
    ⟨⟨_, bO, World.ownsRow_nil _ _ _ _⟩, hB1⟩
    (fun x a' W => a' = { tmps := #[.pointer p, undef, .slice none 0 0, .pointer (some ⟨w.heap.size, 0, none⟩), K x.1, .pointer p, .func (.func g) #[] lb, K x.1, K x.2, undef, undef, undef, undef, undef], defers := [] })
    (fun x a' _ X Y row hs hg hr => hs)
    ?assign ?body ?done ?stop
  case assign =>
    rintro l pre x W K hI _ hK
    gi_wp2
    exact hK _ _ ((KeepsOthers.refl _).from _) (Kt.refl _ W) hI rfl
  case body =>
    rintro L pre x a' W hL _ ⟨⟨v1, bO1, o1⟩, hB2⟩ rfl hlt
    replace hlt := hlt.length_le
    rw [List.length_append, List.length_singleton, pairs_len] at hlt
    obtain ⟨A, c, rfl, -, -, -⟩ := own_slice o1
    have cO := bO1.cell
    have fO := bO1.frozen
    gi_wp2_with (first
      | (gi_at_builtin; refine wpListIn_append_own _ rfl _ _ 40 rfl w.heap.size 2 i0 (.int .i64 0) 1 8 Try.underlying40 hin hz0 hz1 hz2 rfl (by decide) (.slice A pre.length c) pre.length (keysV pre) rfl (o1.alloc _) ⟨W.heap.size, 0, none⟩ 1 1 [K x.1] rfl rfl (fun j u hu => ((Has.new W 2 #[K x.1]).row.at_ hu).2) (by simp [Value.oneCell']) (by unfold maxLen; omega) (by omega) (by have := hB2.size; simp; omega) ?_
         intro v2 w1 hown' hgrow _
         obtain ⟨g', cap', rfl⟩ := ownsRow_succ hown'
         obtain ⟨hv1, hv2, hr2, hk2, hb2⟩ := bO1.appended (by decide) o1 hB2.size (Nat.le_refl _) hown' hgrow
         have hc1 := hv1.cell
         have hf1 := hv1.frozen)
      | fail)
    exact ⟨hk2.from _, ((Kt.of_below ((Below.refl W.heap.size W).alloc (Nat.le_refl _) _) hB2.size).trans (Kt.grown hgrow (o1.alloc _) rfl (Nat.le_refl _) (by have := hB2.size; simp; omega))).trans (Kt.store hv1 _ rfl (Nat.le_refl _)),
      ⟨_, hv2, by rw [List.length_append, keysV_append]; exact hr2⟩, hB2.trans hb2⟩
  case done =>
    rintro D W hD ⟨⟨v1, bO1, o1⟩, hB2⟩ hK
    rw [pairs_len] at o1
    have cO := bO1.cell
    go_wp2
    refine ⟨by simp, .inl ⟨_, _, rfl, run_takeDeferred hK, ?_⟩⟩
    exact ⟨_, results_tmp rfl _ _ _, v1, rfl, ownsRow_putObj o1 _ hK rfl, hB2.trans (belowK_b (w := w) (Nat.le_refl _) W D _ _ (by have := hB1.size; omega) hK rfl rfl)⟩
  case stop =>
    rintro D c pre W _ _ h _
    exact h.elim
set_option maxRecDepth 100000 in
set_option maxHeartbeats 1000000 in
theorem countN (hN : NodeSays Nd) (w : World) (t : Tr) (p : Option Addr) (hT : TreeAt Nd w w.heap.size t p) (hl : t.size ≤ 1000) :
    Calls Try.prog 23 #[.pointer p] w fun e w' => e = .returned (nI t.size) ∧ Below w.heap.size w w' := by
  have hb0 : Below w.heap.size w (w.alloc (.cells #[nI 0] 3)) := (Below.refl _ _).alloc (Nat.le_refl _) _
  have cA := Lib.hid (all_goes hN (w.alloc (.cells #[nI 0] 3)) t p w.heap.size hb0.size (hT.next hN hb0) hl)
  have bO0 := Boxed.new w 3 (nI 0)
  clear hT hN
  refine (callsIn_wide (n := 9)).1 ?_
  refine callsIn_of_wp_marks Try.func23 rfl trivial ?_ rfl
  simp only [Try.ntmps23, List.size_toArray, List.length_cons, List.length_nil, Nat.reduceAdd, Nat.reduceSub, Array.replicate_succ, Array.replicate_zero, List.push_toArray, List.append_toArray, List.nil_append, List.cons_append]
  refine wpIn_wide.2 ?_
  go_wp2_with fail
  refine cA.out.mono ?_
  rintro e W0 ⟨v, rfl, ⟨hB0, g, lb, rfl, hent, hseq⟩, hb⟩
  have hB1 : Below w.heap.size w W0 := Below.after hb0 hb
  have bO := boxed_below bO0 hb
  clear cA bO0 hb
  go_wp2_with fail
  refine (wpIn_wide (n := 9)).1 ?_
  refine wpIn_rangeFunc_runs rfl (by omega) (gf := g) (lb := lb) rfl trivial hent
    (hseq W0 (Below.refl _ _) _) Kt.trans (Kt.put (by omega)) (Below.refl _ _) (fun _ => rfl)
    (fun pre W => Boxed W w.heap.size 3 (nI pre.length) ∧ Below w.heap.size w W)
    (fun _ _ _ => False)
    (Abide.and (Abide.boxed _ _ _ (.inl rfl)) (Abide.below hB0 (Nat.le_refl _)))
    (fun _ _ _ _ hs _ => hs)
    ⟨bO, hB1⟩
    (fun x a' W => a' = { tmps := #[.pointer p, undef, .int .i64 0, .pointer (some ⟨w.heap.size, 0, none⟩), .pointer p, .func (.func g) #[] lb, K x.1, K x.2, undef, undef, undef], defers := [] })
    (fun x a' _ X Y row hs hg hr => hs)
    ?assign ?body ?done ?stop
  case assign =>
    rintro l pre x W K hI _ hK
    gi_wp2
    exact hK _ _ ((KeepsOthers.refl _).from _) (Kt.refl _ W) hI (by simp)
  case body =>
    rintro L pre x a' W hL _ ⟨bO1, hB2⟩ rfl hlt
    replace hlt := hlt.length_le
    rw [List.length_append, List.length_singleton, pairs_len] at hlt
    have cO := bO1.cell
    have fO := bO1.frozen
    have e5 : wrap64 ((pre.length : Int) + 1) = ((pre.length + 1 : Nat) : Int) := by unfold wrap64; omega
    gi_wp2
    refine ⟨(KeepsOthers.setCell _ _ _).from _, Kt.store bO1 _ rfl (Nat.le_refl _), ?_, hB2.setCell (p := ⟨w.heap.size, 0, none⟩) (Nat.le_refl _) _⟩
    rw [List.length_append, List.length_singleton]
    exact bO1.set _
  case done =>
    rintro D W hD ⟨bO1, hB2⟩ hK
    rw [pairs_len] at bO1
    have cO := bO1.cell
    go_wp2
    refine ⟨by simp, .inl ⟨_, _, rfl, run_takeDeferred hK, ?_⟩⟩
    exact ⟨_, results_tmp rfl _ _ _, rfl, hB2.trans (belowK_b (w := w) (Nat.le_refl _) W D _ _ (by have := hB1.size; omega) hK rfl rfl)⟩
  case stop =>
    rintro D c pre W _ _ h _
    exact h.elim
end Go.Proofs.Ytadncdcblckpjaa
