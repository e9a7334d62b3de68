/- The document's own answers of layer 4: Put. -/
import Derived.Test.YtjnnfineebabaaaDoorL4RefD
namespace Go.Proofs.YtjnnfineebabaaaDoor
open Go.RowKit Go.Proofs.Rowm

/-- cuts of a slice of pairs -/
theorem cutP_from (A : Option Addr) (n c i : Nat) (l : List Pr) (hl : l.length = n) (hi : i ≤ n) (hn : n ≤ c) (hA : A = none → c = 0) :
    ∃ A', (∀ W, (Instr.slice 22 (.slice A n c) (some (.int .i64 (i : Int))) none none).run Tryd.prog W = .ok (.slice A' (n - i) (c - i)) W) ∧ (A' = none → c - i = 0) ∧ (l.drop i).length = n - i ∧ ∀ w B, Row w B A (flat l) → Row w B A' (flat (l.drop i)) := by
  refine ⟨if c = i then A else A.map (·.add (i * 2)), fun W => ?_, fun h => ?_, by rw [List.length_drop, hl], fun w B h => ?_⟩
  · have hi' : (i : Int) ≤ (n : Int) := by omega
    simp [Instr.slice, run_underlying Tryd.underlying22, Instr.sliceBounds, run_sliceBound, hi', Result.andThen]
  · split at h
    · have := hA h; omega
    · cases A with
      | none => have := hA rfl; omega
      | some a => cases h
  · rw [flat_drop]
    exact h.drop _ rfl (by rw [flat_length, hl]; omega)
theorem cutP_to (A : Option Addr) (n c i : Nat) (hi : i ≤ n) (hn : n ≤ c) :
    ∀ W, (Instr.slice 22 (.slice A n c) none (some (.int .i64 (i : Int))) none).run Tryd.prog W = .ok (.slice A i c) W :=
  cut_to (P := Tryd.prog) Tryd.underlying22 size_pair A n c i i rfl (by omega)

set_option maxHeartbeats 1000000 in
theorem refPut_no (o : Nat) (p : Nat) (A : Option Addr) (n c : Nat) (l : List Pr) (x : Pr) (hm : mayB o l = false) (hl : l.length = n) (hn : n ≤ 1000) (w : World) (hr : Row w w.heap.size A (flat l)) :
    Calls Tryd.prog 31 #[.int .u8 o, .int .u8 p, .slice A n c, pV x] w (MadeT w [] (.int .i64 2)) := by
  have hr' := Lib.hid hr
  have hl' := Lib.hid hl
  have hm' := Lib.hid hm
  clear hr hl hm
  go_enter Tryd.func31, Tryd.ntmps31
  go_wp2_with fail
  have b0 := Lib.hid ((Below.refl w.heap.size w).alloc (Nat.le_refl _) (.cells #[K x.1, K x.2] 42))
  refine (refMay4_is hm'.out hl'.out hn (hr'.out.next b0.out)).mono ?_
  rintro e w1 ⟨rfl, hb⟩
  have b1 := Lib.hid (Below.after b0.out hb)
  clear hb
  go_wp2
  go_ret2
  exact made_none _ _ _ b1.out
set_option maxHeartbeats 1000000 in
theorem refPut_none (o : Nat) (p : Nat) (hp : ¬ (1 ≤ (p : Int) ∧ (p : Int) ≤ 3)) (A : Option Addr) (n c : Nat) (l : List Pr) (x : Pr) (hm : mayB o l = true) (hl : l.length = n) (hn : n ≤ 1000) (w : World) (hr : Row w w.heap.size A (flat l)) :
    Calls Tryd.prog 31 #[.int .u8 o, .int .u8 p, .slice A n c, pV x] w (MadeT w [] (.int .i64 2)) := by
  have hr' := Lib.hid hr
  have hl' := Lib.hid hl
  have hm' := Lib.hid hm
  have hp' := Lib.hid hp
  clear hr hl hm hp
  go_enter Tryd.func31, Tryd.ntmps31
  go_wp2_with fail
  have b0 := Lib.hid ((Below.refl w.heap.size w).alloc (Nat.le_refl _) (.cells #[K x.1, K x.2] 42))
  refine (refMay4_is hm'.out hl'.out hn (hr'.out.next b0.out)).mono ?_
  rintro e w1 ⟨rfl, hb⟩
  have b1 := Lib.hid (Below.after b0.out hb)
  clear hb
  go_wp2_with (go_at_call 30; refine (refMay_none _ hp'.out _).mono ?_; rintro e w' ⟨rfl, rfl⟩)
  go_ret2
  exact made_none _ _ _ b1.out

set_option maxHeartbeats 4000000 in
theorem refPut_new (o : Nat) (p : Nat) (p1 : 1 ≤ p) (p3 : p ≤ 3) (A : Option Addr) (n c : Nat) (l : List Pr) (x : Pr) (i : Nat) (hm : mayB o l = true) (ha : At o l x.1 i i) (hl : l.length = n) (hn : n ≤ 1000) (hnc : n ≤ c) (hA : A = none → c = 0) (w : World) (hr : Row w w.heap.size A (flat l)) :
    Calls Tryd.prog 31 #[.int .u8 o, .int .u8 p, .slice A n c, pV x] w (MadeT w (putAt p l x i i) (.int .i64 0)) := by
  obtain ⟨i0, hi, hz0, hz1, hz2⟩ := info_parts info_pair
  have hil : i ≤ n := hl ▸ ha.len
  have hcut := cutP_to A n c i hil hnc
  obtain ⟨A2, hcut2, hA2, hlen2, hrow2⟩ := cutP_from A n c i l hl hil hnc hA
  have hput : Hid (putAt p l x i i = l.take i ++ [x] ++ l.drop i) := by show putAt p l x i i = _; unfold putAt; simp
  have hlt : Hid ((l.take i).length = i) := by show (l.take i).length = i; exact ha.len_take
  have r1 : Hid (Row w w.heap.size A (flat (l.take i))) := by rw [flat_take]; exact hr.take _
  have r2 := Lib.hid (hrow2 _ _ hr)
  have hs' : Hid (decide (i < i) = false) := by show decide (i < i) = false; simp
  have hr' := Lib.hid hr
  have hl' := Lib.hid hl
  have hm' := Lib.hid hm
  have ha' := Lib.hid ha
  have hA' := Lib.hid hA
  have hA2' := Lib.hid hA2
  have hlen2' := Lib.hid hlen2
  clear hr hl hm ha hA hA2 hlen2 hrow2
  go_enter Tryd.func31, Tryd.ntmps31
  go_wp2_with fail
  have b0 := Lib.hid ((Below.refl w.heap.size w).alloc (Nat.le_refl _) (.cells #[K x.1, K x.2] 42))
  have g0 := Lib.hid (Has.new w 42 #[K x.1, K x.2])
  refine (refMay4_is hm'.out hl'.out hn (hr'.out.next b0.out)).mono ?_
  rintro e w1 ⟨rfl, hb⟩
  have b1 := Lib.hid (Below.after b0.out hb)
  have g1 := Lib.hid (g0.out.next hb)
  clear hb
  have c0 := g1.out.c0
  go_wp2_with (first | (go_at_call 30; refine (refMay_at _ p1 p3 _).mono ?_; rintro e w' ⟨rfl, rfl⟩) | fail)
  refine (refFind_yes o A n c l x.1 i i false hs'.out hm'.out ha'.out hl'.out hn _ (hr'.out.next b1.out)).mono ?_
  rintro e w2 ⟨rfl, hb⟩
  have b2 := Lib.hid (Below.after b1.out hb)
  have g2 := Lib.hid (g1.out.next hb)
  clear hb c0
  go_wp2_with (at_builtin; refine wpList_append_row rfl _ _ 22 rfl (w.heap.size + 1) 42 i0 (.agg #[.int .i64 0, .int .i64 0]) 2 16 Tryd.underlying22 hi hz0 hz1 hz2 rfl (by decide) _ 0 [] rfl (World.ownsRow_nil _ _ _ _) A i c (flat (l.take i)) rfl hA'.out (by omega) ?d1 _ (r1.out.below b2.out) (flat_one _) (by unfold maxLen; omega) (by omega) ?d2 ?_)
  case d1 => rw [flat_length, hlt.out]
  case d2 => have := g2.out.lt; omega
  intro v1 w3 hown hgrow
  have o3 := Lib.hid hown
  have b3 := Lib.hid (b2.out.grown hgrow b2.out.size (fun r e => by simp [Value.ownBlock] at e))
  have g3 := Lib.hid (g2.out.below ((Below.refl w2.heap.size w2).grown hgrow (Nat.le_refl _) (fun r e => by simp [Value.ownBlock] at e)) g2.out.lt)
  clear hown hgrow
  have c0 := g3.out.c0
  have c1 := g3.out.c1
  go_wp2_with fail
  have o3' : Hid (w3.ownsRow (w.heap.size + 1) 42 2 v1 i (flat (l.take i))) := by have := o3.out; (try simp only [Nat.zero_add, List.nil_append] at this); exact this
  have ro3 : Hid (Row (w3.alloc (.cells #[K x.1, K x.2] 42)).drew (w3.heap.size + 1) (some ⟨w3.heap.size, 0, none⟩) [K x.1, K x.2]) := by have := (Has.new w3 42 #[K x.1, K x.2]).row; rw [World.size_alloc] at this; exact this
  clear o3
  go_region_law (first
    | (refine step_append_row (by rfl) _ _ 22 (by rfl) (w.heap.size + 1) 42 i0 (.agg #[.int .i64 0, .int .i64 0]) 2 16 Tryd.underlying22 hi hz0 hz1 hz2 rfl (by decide) v1 i (flat (l.take i)) (by rfl) ((o3'.out.alloc _).drew) (some ⟨w3.heap.size, 0, none⟩) 1 1 (flat [x]) (by rfl) (by simp) (Nat.le_refl _) (by rfl) _ ro3.out (flat_one [x]) (by unfold maxLen; omega) (by omega) (by have := b3.out.size; have := g3.out.lt; simp; omega) ?_
       intro v2 w4 hown hgrow
       have o4 := Lib.hid hown
       have s4 : w.heap.size + 1 ≤ w4.heap.size := by have h1 := hgrow.size; have h2 := b3.out.size; have h3 := g3.out.lt; simp only [World.size_alloc, World.drew] at h1; omega
       have b4 := Lib.hid (((b3.out.alloc b3.out.size (.cells #[K x.1, K x.2] 42)).drew).grown hgrow (by have := b3.out.size; simp; omega) (fun r e => by have := (o3'.out.lt r e).1; omega))
       clear hown hgrow)
    | (refine step_append_row (by rfl) _ _ 22 (by rfl) (w.heap.size + 1) 42 i0 (.agg #[.int .i64 0, .int .i64 0]) 2 16 Tryd.underlying22 hi hz0 hz1 hz2 rfl (by decide) v2 (i + 1) (flat (l.take i) ++ flat [x]) (by rfl) o4.out A2 (n - i) (c - i) (flat (l.drop i)) (by rfl) hA2'.out (by omega) (by rw [flat_length, hlen2'.out]) _ (r2.out.below b4.out) (flat_one _) (by unfold maxLen; omega) (by omega) s4 ?_
       intro v3 w5 hown hgrow
       have o5 := Lib.hid hown
       have b5 := Lib.hid (b4.out.grown hgrow b4.out.size (fun r e => by have := (o4.out.lt r e).1; omega))
       clear hown hgrow))
  all_goals
    go_wp2
    go_ret2
    have e1 : (putAt p l x i i).length = i + 1 + (n - i) := by rw [hput.out, List.length_append, List.length_append, hlt.out, hlen2'.out]; simp
    have e2 : flat (putAt p l x i i) = flat (l.take i) ++ flat [x] ++ flat (l.drop i) := by rw [hput.out, flat_append, flat_append]
    refine made_of (base := w.heap.size + 1) ?_ b5.out
    rw [e1, e2]
    exact o5.out
end Go.Proofs.YtjnnfineebabaaaDoor
