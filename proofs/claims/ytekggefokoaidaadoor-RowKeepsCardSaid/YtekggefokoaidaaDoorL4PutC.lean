/- The contract of Put of package row: a key that is there; both. -/
import Derived.Test.YtekggefokoaidaaDoorL4PutB
namespace Go.Proofs.YtekggefokoaidaaDoor
open Go.RowKit Go.Shelf Go.Proofs.Rowm

set_option maxRecDepth 100000 in
set_option maxHeartbeats 4000000 in
theorem put_old (o p : Nat) (p1 : 1 ≤ p) (p3 : p ≤ 3) (A : Option Addr) (n c : Nat) (l : List Pr) (x : Pr) (i : Nat) (hm : mayB o l = true) (ha : At o l x.1 i (i + 1)) (hl : l.length = n) (hn : n ≤ 900) (hnc : n ≤ c) (hA : A = none → c = 0) (w : World) (h0 : 0 < w.heap.size) (hs : Steps w) (hr : Row w w.heap.size A (flat l)) :
    Calls Tryd.prog 12 #[.int .u8 o, .int .u8 p, .slice A n c, pV x] w (MadeT w (putAt p l x i (i + 1)) (.int .i64 0)) := by
  obtain ⟨h1, h7, _⟩ := mayB_parts hm
  have hin : i + 1 ≤ n := hl ▸ ha.len
  have hil : i ≤ n := by omega
  have hlen : i < l.length := by omega
  have hn' : n ≤ 1000 := by omega
  have hcut := cutP_to A n c i hil hnc
  obtain ⟨A1, hcut1, _, _, _⟩ := cutP_from A n c i l hl hil hnc hA
  obtain ⟨A2, hcut2, hA2, hlen2, hrow2⟩ := cutP_from A n c (i + 1) l hl hin hnc hA
  simp only [Int.natCast_add, Int.natCast_one] at hcut2
  obtain ⟨y, hy⟩ : ∃ y, l[i].2 = y := ⟨_, rfl⟩
  obtain ⟨z, hz⟩ : ∃ z, Foldm.cmb p y x.2 = z := ⟨_, rfl⟩
  have hput : Hid (putAt p l x i (i + 1) = l.take i ++ [(x.1, z)] ++ l.drop (i + 1)) := by show putAt p l x i (i + 1) = _; unfold putAt; rw [if_pos (Nat.lt_succ_self i), getD_at l i hlen, hy, hz]; simp
  have hy' := Lib.hid hy
  have hz' := Lib.hid hz
  clear hy hz
  have hpl : Hid ((l.take i ++ [(x.1, z)] ++ l.drop (i + 1)).length ≤ 1000) := by have := ha.len_put (p := p); have e := hput.out; rw [e] at this; show _ ≤ 1000; omega
  have hlt : Hid ((l.take i).length = i) := by show (l.take i).length = i; exact ha.len_take
  have r1 : Hid (Row w w.heap.size A (flat (l.take i))) := by rw [flat_take]; exact hr.take _
  have r2 := Lib.hid (hrow2 _ _ hr)
  have hs2 : Hid (decide (i < i + 1) = true) := by show decide (i < i + 1) = true; simp
  have hr' := Lib.hid hr
  have hl' := Lib.hid hl
  have hm' := Lib.hid hm
  have hs' := Lib.hid hs
  have ha' := Lib.hid ha
  have hA' := Lib.hid hA
  have hA2' := Lib.hid hA2
  have hlen2' := Lib.hid hlen2
  clear hr hl hm ha hs hA hA2 hlen2 hrow2
  go_enter Tryd.func12, Tryd.ntmps12
  go_wp2_with fail
  have b0 := Lib.hid ((Below.refl w.heap.size w).alloc (Nat.le_refl _) (.cells #[K x.1, K x.2] 24))
  have g0 := Lib.hid (Has.new w 24 #[K x.1, K x.2])
  refine (rowMay_is hm'.out hl'.out hn' (Nat.lt_of_lt_of_le h0 b0.out.size) (hs'.out.below h0 b0.out) (hr'.out.next b0.out)).mono ?_
  rintro e w1 ⟨rfl, hb⟩
  have b1 := Lib.hid (Below.after b0.out hb)
  have g1 := Lib.hid (g0.out.next hb)
  clear hb
  go_wp2_with fail
  refine (may_at _ p1 p3 _).mono ?_
  rintro e w2 ⟨rfl, hb⟩
  have b2 := Lib.hid (Below.after b1.out hb)
  have g2 := Lib.hid (g1.out.next hb)
  clear hb
  have c0 := g2.out.c0
  go_wp2_with fail
  refine (seek_at o h1 h7 A n c l x.1 i (i + 1) true hs2.out ha'.out hl'.out hn' _ (Nat.lt_of_lt_of_le h0 b2.out.size) (hs'.out.below h0 b2.out) (hr'.out.next b2.out)).mono ?_
  rintro e w3 ⟨rfl, hb⟩
  have b3 := Lib.hid (Below.after b2.out hb)
  have g3 := Lib.hid (g2.out.next hb)
  clear hb c0
  have c0 := g3.out.c0
  have c1 := g3.out.c1
  have f1 := g3.out.free 1
  obtain ⟨ad, hAe, hb2, q1, q2⟩ := pair_at (hr'.out.below b3.out) i hlen
  rw [hy'.out] at q2
  subst hAe
  go_wp2_with fail
  go_region_with (first | (go_at_call 29; refine (comb_is p1 p3 hz'.out _).mono ?_; rintro e w4 ⟨rfl, hb⟩; have b4 := Lib.hid (Below.after b3.out ((Below.refl w3.heap.size w3).drew.trans hb)); have g4 := Lib.hid ((g3.out.drewN 1).next hb); clear hb; have k1 := g4.out.c1; have k2 := g4.out.free 1))
  all_goals
    have g5 := Lib.hid (g4.out.set 1 (K z))
    have b5 := Lib.hid (b4.out.setCell (p := ⟨w.heap.size, 1, none⟩) (Nat.le_refl _) (K z))
    obtain ⟨W, hW⟩ : ∃ W, w4.setCell ⟨w.heap.size, 1, none⟩ (K z) = W := ⟨_, rfl⟩
    rw [show w4.setCell ⟨w.heap.size, 1, none⟩ (Value.int IntKind.i64 (BitVec.toInt z)) = W from hW]
    have g6 : Hid (Has W w.heap.size 24 #[K x.1, K z]) := hW ▸ g5.out
    rw [hW] at b5
    clear g5 hW c0 c1 f1 k1 k2 q1 q2
    have c0 := g6.out.c0
    have c1 := g6.out.c1
    have hcat := Lib.hid (concat_put (some ad) A2 i c (n - (i + 1)) (c - (i + 1)) (l.take i) (l.drop (i + 1)) (x.1, z) hlt.out hlen2'.out (by omega) (by omega) hA'.out hA2'.out hpl.out W (r1.out.next b5.out) (r2.out.next b5.out))
    go_wp2_with fail
    go_region_with (first | (go_at_call 30; refine hcat.out.mono ?_; rintro e w6 ⟨v, rfl, hown, hb⟩; have ho := Lib.hid hown; have b6 := Lib.hid (Below.after b5.out hb); clear hown hb))
    all_goals
      go_wp2
      go_ret2
      rw [hput.out]
      exact made_of ho.out b6.out

/-- what Put answers of a row that may be, by a policy that there is -/
theorem put_yes (o p : Nat) (p1 : 1 ≤ p) (p3 : p ≤ 3) (A : Option Addr) (n c : Nat) (l : List Pr) (x : Pr) (i j : Nat) (hm : mayB o l = true) (ha : At o l x.1 i j) (hl : l.length = n) (hn : n ≤ 900) (hnc : n ≤ c) (hA : A = none → c = 0) (w : World) (h0 : 0 < w.heap.size) (hs : Steps w) (hr : Row w w.heap.size A (flat l)) :
    Calls Tryd.prog 12 #[.int .u8 o, .int .u8 p, .slice A n c, pV x] w (MadeT w (putAt p l x i j) (.int .i64 0)) := by
  have h1 := ha.le
  have h2 := ha.one
  rcases Nat.lt_or_ge i j with h | h
  · obtain rfl : j = i + 1 := by omega
    exact put_old o p p1 p3 A n c l x i hm ha hl hn hnc hA w h0 hs hr
  · obtain rfl : j = i := by omega
    exact put_new o p p1 p3 A n c l x j hm ha hl hn hnc hA w h0 hs hr
end Go.Proofs.YtekggefokoaidaaDoor
