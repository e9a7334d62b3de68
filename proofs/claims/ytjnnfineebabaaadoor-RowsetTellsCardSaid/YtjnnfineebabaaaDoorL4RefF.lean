/- The document's own answers of layer 4: Put of a key that is there; both. -/
import Derived.Test.YtjnnfineebabaaaDoorL4RefE
namespace Go.Proofs.YtjnnfineebabaaaDoor
open Go.RowKit Go.Proofs.Rowm

/-- a store below leaves a row of the call's own as it is -/
theorem own_far {w : World} {base : Nat} {e : TypeId} {size n : Nat} {v : Value} {xs : List Value} (h : w.ownsRow base e size v n xs) (p : Addr) (hp : p.block < base) (u : Value) : (w.setCell p u).ownsRow base e size v n xs := by
  refine ⟨h.1, ?_⟩
  rcases h.2 with h0 | ⟨g, cap, cur, hv, hb, hg, h1, h2, h3, h4⟩
  · exact .inl h0
  · exact .inr ⟨g, cap, cur, hv, hb, (Below.heap_setCell w p u g (by omega)).trans hg, h1, h2, h3, h4⟩

set_option maxRecDepth 100000 in
set_option maxHeartbeats 4000000 in
theorem refPut_old (o : Nat) (p : Nat) (p1 : 1 ≤ p) (p3 : p ≤ 3) (A : Option Addr) (n c : Nat) (l : List Pr) (x : Pr) (i : Nat) (hm : mayB o l = true) (ha : At o l x.1 i (i + 1)) (hl : l.length = n) (hn : n ≤ 1000) (hnc : n ≤ c) (hA : A = none → c = 0) (w : World) (hr : Row w w.heap.size A (flat l)) :
    Calls Tryd.prog 31 #[.int .u8 o, .int .u8 p, .slice A n c, pV x] w (MadeT w (putAt p l x i (i + 1)) (.int .i64 0)) := by
  obtain ⟨i0, hi, hz0, hz1, hz2⟩ := info_parts info_pair
  have hin : i + 1 ≤ n := hl ▸ ha.len
  have hil : i ≤ n := by omega
  have hlen : i < l.length := by omega
  have hcut := cutP_to A n c i hil hnc
  obtain ⟨A2, hcut2, hA2, hlen2, hrow2⟩ := cutP_from A n c (i + 1) l hl hin hnc hA
  obtain ⟨y, hy⟩ : ∃ y, l[i].2 = y := ⟨_, rfl⟩
  obtain ⟨z, hz⟩ : ∃ z, Foldm.cmb p y x.2 = z := ⟨_, rfl⟩
  simp only [Int.natCast_add, Int.natCast_one] at hcut2
  have hput : Hid (putAt p l x i (i + 1) = l.take i ++ [(x.1, z)] ++ l.drop (i + 1)) := by show putAt p l x i (i + 1) = _; unfold putAt; rw [if_pos (Nat.lt_succ_self i), getD_at l i hlen, hy, hz]; simp
  have hy' := Lib.hid hy
  have hz' := Lib.hid hz
  clear hy hz
  have hlt : Hid ((l.take i).length = i) := by show (l.take i).length = i; exact ha.len_take
  have r1 : Hid (Row w w.heap.size A (flat (l.take i))) := by rw [flat_take]; exact hr.take _
  have r2 := Lib.hid (hrow2 _ _ hr)
  have hs' : Hid (decide (i < i + 1) = true) := by show decide (i < i + 1) = true; simp
  have hr' := Lib.hid hr
  have hl' := Lib.hid hl
  have hm' := Lib.hid hm
  have ha' := Lib.hid ha
  have hA' := Lib.hid hA
  have hA2' := Lib.hid hA2
  have hlen2' := Lib.hid hlen2
  clear hr hl hm ha hA hA2 hlen2 hrow2
  go_enter Tryd.func31, Tryd.ntmps31
  go_wp2_with fail
  have b0 := Lib.hid ((Below.refl w.heap.size w).alloc (Nat.le_refl _) (.cells #[K x.1, K x.2] 42))
  have g0 := Lib.hid (Has.new w 42 #[K x.1, K x.2])
  refine (refMay4_is hm'.out hl'.out hn (hr'.out.next b0.out)).mono ?_
  rintro e w1 ⟨rfl, hb⟩
  have b1 := Lib.hid (Below.after b0.out hb)
  have g1 := Lib.hid (g0.out.next hb)
  clear hb
  have c0 := g1.out.c0
  go_wp2_with (first | (go_at_call 30; refine (refMay_at _ p1 p3 _).mono ?_; rintro e w' ⟨rfl, rfl⟩) | fail)
  refine (refFind_yes o A n c l x.1 i (i + 1) true hs'.out hm'.out ha'.out hl'.out hn _ (hr'.out.next b1.out)).mono ?_
  rintro e w2 ⟨rfl, hb⟩
  have b2 := Lib.hid (Below.after b1.out hb)
  have g2 := Lib.hid (g1.out.next hb)
  clear hb c0
  go_wp2_with (at_builtin; refine wpList_append_row rfl _ _ 22 rfl (w.heap.size + 1) 42 i0 (.agg #[.int .i64 0, .int .i64 0]) 2 16 Tryd.underlying22 hi hz0 hz1 hz2 rfl (by decide) _ 0 [] rfl (World.ownsRow_nil _ _ _ _) A i c (flat (l.take i)) rfl hA'.out (by omega) ?d1 _ (r1.out.below b2.out) (flat_one _) (by unfold maxLen; omega) (by omega) ?d2 ?_)
  case d1 => rw [flat_length, hlt.out]
  case d2 => have := g2.out.lt; omega
  intro v1 w3 hown hgrow
  have o3 := Lib.hid hown
  have b3 := Lib.hid (b2.out.grown hgrow b2.out.size (fun r e => by simp [Value.ownBlock] at e))
  have g3 := Lib.hid (g2.out.below ((Below.refl w2.heap.size w2).grown hgrow (Nat.le_refl _) (fun r e => by simp [Value.ownBlock] at e)) g2.out.lt)
  clear hown hgrow
  have c0 := g3.out.c0
  have c1 := g3.out.c1
  have f1 := g3.out.free 1
  have c1d : w3.drew.cell? ⟨w.heap.size, 1, none⟩ = some (K x.2) := c1
  obtain ⟨ad, hAe, hb2, q1, q2⟩ := pair_at (hr'.out.below b3.out) i hlen
  rw [hy'.out] at q2
  subst hAe
  go_wp2_with fail
  go_region_with (first | (go_at_call 37; refine (refCombine_is p1 p3 hz'.out _).mono ?_; rintro e w' ⟨rfl, rfl⟩))
  all_goals
    have g4 := Lib.hid ((g3.out.set 1 (K z)).drewN 1)
    have b4' := Lib.hid ((b3.out.setCell (p := ⟨w.heap.size, 1, none⟩) (Nat.le_refl _) (K z)).drew)
    have o3' : Hid ((w3.setCell ⟨w.heap.size, 1, none⟩ (K z)).drew.ownsRow (w.heap.size + 1) 42 2 v1 i (flat (l.take i))) := by
      have := o3.out
      (try simp only [Nat.zero_add, List.nil_append] at this)
      exact (own_far this ⟨w.heap.size, 1, none⟩ (Nat.lt_succ_self _) (K z)).drew
    obtain ⟨W, hW⟩ : ∃ W, (w3.setCell ⟨w.heap.size, 1, none⟩ (K z)).drew = W := ⟨_, rfl⟩
    rw [show (w3.setCell ⟨w.heap.size, 1, none⟩ (Value.int IntKind.i64 (BitVec.toInt z))).drew = W from hW]
    have g5 : Hid (Has W w.heap.size 42 #[K x.1, K z]) := hW ▸ g4.out
    rw [hW] at b4' o3'
    clear g4 hW c0 c1 f1 c1d q1 q2 o3
    have c0 := g5.out.c0
    have c1 := g5.out.c1
    have hlW := g5.out.lt
    have ro3 : Hid (Row (W.alloc (.cells #[K x.1, K z] 42)).drew (W.heap.size + 1) (some ⟨W.heap.size, 0, none⟩) [K x.1, K z]) := by have := (Has.new W 42 #[K x.1, K z]).row; rw [World.size_alloc] at this; exact this
    go_wp2_with fail
    go_region_law (first
      | (refine step_append_row (by rfl) _ _ 22 (by rfl) (w.heap.size + 1) 42 i0 (.agg #[.int .i64 0, .int .i64 0]) 2 16 Tryd.underlying22 hi hz0 hz1 hz2 rfl (by decide) v1 i (flat (l.take i)) (by rfl) ((o3'.out.alloc _).drew) (some ⟨W.heap.size, 0, none⟩) 1 1 (flat [(x.1, z)]) (by rfl) (by simp) (Nat.le_refl _) (by rfl) _ ro3.out (flat_one [(x.1, z)]) (by unfold maxLen; omega) (by omega) (by simp; omega) ?_
         intro v2 w4 hown hgrow
         have o4 := Lib.hid hown
         have s4 : w.heap.size + 1 ≤ w4.heap.size := by have h1 := hgrow.size; simp only [World.size_alloc, World.drew] at h1; omega
         have b4 := Lib.hid (((b4'.out.alloc b4'.out.size (.cells #[K x.1, K z] 42)).drew).grown hgrow (by have := b4'.out.size; simp; omega) (fun r e => by have := (o3'.out.lt r e).1; omega))
         clear hown hgrow)
      | (refine step_append_row (by rfl) _ _ 22 (by rfl) (w.heap.size + 1) 42 i0 (.agg #[.int .i64 0, .int .i64 0]) 2 16 Tryd.underlying22 hi hz0 hz1 hz2 rfl (by decide) v2 (i + 1) (flat (l.take i) ++ flat [(x.1, z)]) (by rfl) o4.out A2 (n - (i + 1)) (c - (i + 1)) (flat (l.drop (i + 1))) (by rfl) hA2'.out (by omega) (by rw [flat_length, hlen2'.out]) _ (r2.out.below b4.out) (flat_one _) (by unfold maxLen; omega) (by omega) s4 ?_
         intro v3 w5 hown hgrow
         have o5 := Lib.hid hown
         have b5 := Lib.hid (b4.out.grown hgrow b4.out.size (fun r e => by have := (o4.out.lt r e).1; omega))
         clear hown hgrow))
    all_goals
      go_wp2
      go_ret2
      have e1 : (putAt p l x i (i + 1)).length = i + 1 + (n - (i + 1)) := by rw [hput.out, List.length_append, List.length_append, hlt.out, hlen2'.out]; simp
      have e2 : flat (putAt p l x i (i + 1)) = flat (l.take i) ++ flat [(x.1, z)] ++ flat (l.drop (i + 1)) := by rw [hput.out, flat_append, flat_append]
      refine made_of (base := w.heap.size + 1) ?_ b5.out
      rw [e1, e2]
      exact o5.out

/-- what Put answers of a row that may be, by a policy that there is -/
theorem refPut_yes (o : Nat) (p : Nat) (p1 : 1 ≤ p) (p3 : p ≤ 3) (A : Option Addr) (n c : Nat) (l : List Pr) (x : Pr) (i j : Nat) (hm : mayB o l = true) (ha : At o l x.1 i j) (hl : l.length = n) (hn : n ≤ 1000) (hnc : n ≤ c) (hA : A = none → c = 0) (w : World) (hr : Row w w.heap.size A (flat l)) :
    Calls Tryd.prog 31 #[.int .u8 o, .int .u8 p, .slice A n c, pV x] w (MadeT w (putAt p l x i j) (.int .i64 0)) := by
  have h1 := ha.le
  have h2 := ha.one
  rcases Nat.lt_or_ge i j with h | h
  · obtain rfl : j = i + 1 := by omega
    exact refPut_old o p p1 p3 A n c l x i hm ha hl hn hnc hA w hr
  · obtain rfl : j = i := by omega
    exact refPut_new o p p1 p3 A n c l x j hm ha hl hn hnc hA w hr
end Go.Proofs.YtjnnfineebabaaaDoor
