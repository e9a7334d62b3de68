/- The contract of Put of package row. -/
import Derived.Test.YtekggefokoaidaaDoorL4Put
namespace Go.Proofs.YtekggefokoaidaaDoor
open Go.RowKit Go.Shelf Go.Proofs.Rowm

theorem comb_is {p : Nat} (h1 : 1 ≤ p) (h3 : p ≤ 3) {a b t : BitVec 64} (h : Foldm.cmb p a b = t) (w : World) : Calls Tryd.prog 29 #[.int .u8 p, K a, K b] w fun e w' => e = .returned (.tuple #[K t, .int .i64 0]) ∧ Below w.heap.size w w' := h ▸ combine_at p h1 h3 a b w

set_option maxHeartbeats 1000000 in
theorem put_no (o p : Nat) (A : Option Addr) (n c : Nat) (l : List Pr) (x : Pr) (hm : mayB o l = false) (hl : l.length = n) (hn : n ≤ 1000) (w : World) (h0 : 0 < w.heap.size) (hs : Steps w) (hr : Row w w.heap.size A (flat l)) :
    Calls Tryd.prog 12 #[.int .u8 o, .int .u8 p, .slice A n c, pV x] w (MadeT w [] (.int .i64 2)) := by
  have hr' := Lib.hid hr
  have hl' := Lib.hid hl
  have hm' := Lib.hid hm
  have hs' := Lib.hid hs
  clear hr hl hm hs
  go_enter Tryd.func12, Tryd.ntmps12
  go_wp2_with fail
  have b0 := Lib.hid ((Below.refl w.heap.size w).alloc (Nat.le_refl _) (.cells #[K x.1, K x.2] 24))
  refine (rowMay_is hm'.out hl'.out hn (Nat.lt_of_lt_of_le h0 b0.out.size) (hs'.out.below h0 b0.out) (hr'.out.next b0.out)).mono ?_
  rintro e w1 ⟨rfl, hb⟩
  have b1 := Lib.hid (Below.after b0.out hb)
  clear hb
  go_wp2
  go_ret2
  exact made_none _ _ _ b1.out
set_option maxHeartbeats 1000000 in
theorem put_none (o p : Nat) (hp : ¬ (1 ≤ (p : Int) ∧ (p : Int) ≤ 3)) (A : Option Addr) (n c : Nat) (l : List Pr) (x : Pr) (hm : mayB o l = true) (hl : l.length = n) (hn : n ≤ 1000) (w : World) (h0 : 0 < w.heap.size) (hs : Steps w) (hr : Row w w.heap.size A (flat l)) :
    Calls Tryd.prog 12 #[.int .u8 o, .int .u8 p, .slice A n c, pV x] w (MadeT w [] (.int .i64 2)) := by
  have hr' := Lib.hid hr
  have hl' := Lib.hid hl
  have hm' := Lib.hid hm
  have hs' := Lib.hid hs
  have hp' := Lib.hid hp
  clear hr hl hm hs hp
  go_enter Tryd.func12, Tryd.ntmps12
  go_wp2_with fail
  have b0 := Lib.hid ((Below.refl w.heap.size w).alloc (Nat.le_refl _) (.cells #[K x.1, K x.2] 24))
  refine (rowMay_is hm'.out hl'.out hn (Nat.lt_of_lt_of_le h0 b0.out.size) (hs'.out.below h0 b0.out) (hr'.out.next b0.out)).mono ?_
  rintro e w1 ⟨rfl, hb⟩
  have b1 := Lib.hid (Below.after b0.out hb)
  clear hb
  go_wp2_with fail
  refine (may_none _ hp'.out _).mono ?_
  rintro e w2 ⟨rfl, hb⟩
  have b2 := Lib.hid (Below.after b1.out hb)
  clear hb
  go_wp2
  go_ret2
  exact made_none _ _ _ b2.out

/-- the call of Concat at the end of Put, behind a region that draws -/
theorem concat_put (A A2 : Option Addr) (i c n2 c2 : Nat) (a b : List Pr) (x : Pr) (ha : a.length = i) (hb : b.length = n2) (hc : i ≤ c) (hc2 : n2 ≤ c2) (hA : A = none → c = 0) (hA2 : A2 = none → c2 = 0) (ht : (a ++ [x] ++ b).length ≤ 1000) (w : World) (r1 : Row w w.heap.size A (flat a)) (r2 : Row w w.heap.size A2 (flat b)) :
    Calls Tryd.prog 30 #[.slice (some ⟨w.heap.size + 1, 0, none⟩) 3 3] ((w.alloc (.cells #[K x.1, K x.2] 24)).alloc (.cells #[.slice A i c, .slice (some ⟨w.heap.size, 0, none⟩) 1 1, .slice A2 n2 c2] 22)).drew
      (fun e w' => ∃ v, e = .returned v ∧ w'.ownsRow w.heap.size 24 2 v (a ++ [x] ++ b).length (flat (a ++ [x] ++ b)) ∧ Below w.heap.size w w') := by
  obtain ⟨W, hW⟩ : ∃ W, ((w.alloc (.cells #[K x.1, K x.2] 24)).alloc (.cells #[.slice A i c, .slice (some ⟨w.heap.size, 0, none⟩) 1 1, .slice A2 n2 c2] 22)).drew = W := ⟨_, rfl⟩
  have hb0 : Below w.heap.size w W := by rw [← hW]; exact (((Below.refl w.heap.size w).alloc (Nat.le_refl _) _).alloc (by simp) _).drew
  have hsz : W.heap.size = w.heap.size + 2 := by rw [← hW]; simp [World.drew]
  have hH : Has W (w.heap.size + 1) 22 #[.slice A i c, .slice (some ⟨w.heap.size, 0, none⟩) 1 1, .slice A2 n2 c2] := by
    rw [← hW]
    have := (Has.new (w.alloc (.cells #[K x.1, K x.2] 24)) 22 #[.slice A i c, .slice (some ⟨w.heap.size, 0, none⟩) 1 1, .slice A2 n2 c2]).drewN 1
    rw [World.size_alloc] at this
    exact this
  have hX : Has W w.heap.size 24 #[K x.1, K x.2] := by
    rw [← hW]
    exact ((Has.new w 24 #[K x.1, K x.2]).alloc _).drewN 1
  rw [hW]
  have := concat_any (w.heap.size + 1) 3 [⟨A, c, a⟩, ⟨some ⟨w.heap.size, 0, none⟩, 1, [x]⟩, ⟨A2, c2, b⟩] rfl (by omega) W (by omega)
    (three_parts (by simp [Part.val, ha]) (by simp [Part.val]) (by simp [Part.val, hb]) hH)
    (fun p hp => by
      simp only [List.mem_cons, List.not_mem_nil, or_false] at hp
      rcases hp with rfl | rfl | rfl
      · exact lies_of (r1.next hb0) (by omega) hA
      · exact lies_of hX.row (by simp) (by simp)
      · exact lies_of (r2.next hb0) (by omega) hA2) (by simp only [whole, List.flatMap_cons, List.flatMap_nil, List.append_nil]; rw [← List.append_assoc]; exact ht)
  simp only [whole, List.flatMap_cons, List.flatMap_nil, List.append_nil] at this
  rw [← List.append_assoc] at this
  refine this.mono fun e w' ⟨v, he, ho, hbb⟩ => ⟨v, he, ?_, Below.after hb0 hbb⟩
  refine ⟨ho.1, ?_⟩
  rcases ho.2 with h | ⟨g, cap, cur, hv, hg, rest⟩
  · exact .inl h
  · exact .inr ⟨g, cap, cur, hv, by omega, rest⟩

set_option maxRecDepth 100000 in
set_option maxHeartbeats 4000000 in
theorem put_new (o p : Nat) (p1 : 1 ≤ p) (p3 : p ≤ 3) (A : Option Addr) (n c : Nat) (l : List Pr) (x : Pr) (i : Nat) (hm : mayB o l = true) (ha : At o l x.1 i i) (hl : l.length = n) (hn : n ≤ 900) (hnc : n ≤ c) (hA : A = none → c = 0) (w : World) (h0 : 0 < w.heap.size) (hs : Steps w) (hr : Row w w.heap.size A (flat l)) :
    Calls Tryd.prog 12 #[.int .u8 o, .int .u8 p, .slice A n c, pV x] w (MadeT w (putAt p l x i i) (.int .i64 0)) := by
  obtain ⟨h1, h7, _⟩ := mayB_parts hm
  have hil : i ≤ n := hl ▸ ha.len
  have hn' : n ≤ 1000 := by omega
  have hcut := cutP_to A n c i hil hnc
  obtain ⟨A2, hcut2, hA2, hlen2, hrow2⟩ := cutP_from A n c i l hl hil hnc hA
  have hput : Hid (putAt p l x i i = l.take i ++ [x] ++ l.drop i) := by show putAt p l x i i = _; unfold putAt; simp
  have hpl : Hid ((l.take i ++ [x] ++ l.drop i).length ≤ 1000) := by have := ha.len_put (p := p); have e := hput.out; rw [e] at this; show _ ≤ 1000; omega
  have hlt : Hid ((l.take i).length = i) := by show (l.take i).length = i; exact ha.len_take
  have r1 : Hid (Row w w.heap.size A (flat (l.take i))) := by rw [flat_take]; exact hr.take _
  have r2 := Lib.hid (hrow2 _ _ hr)
  have hs2 : Hid (decide (i < i) = false) := by show decide (i < i) = false; simp
  have hr' := Lib.hid hr
  have hl' := Lib.hid hl
  have hm' := Lib.hid hm
  have hs' := Lib.hid hs
  have ha' := Lib.hid ha
  have hA' := Lib.hid hA
  have hA2' := Lib.hid hA2
  have hlen2' := Lib.hid hlen2
  clear hr hl hm ha hs hA hA2 hlen2 hrow2
  go_enter Tryd.func12, Tryd.ntmps12
  go_wp2_with fail
  have b0 := Lib.hid ((Below.refl w.heap.size w).alloc (Nat.le_refl _) (.cells #[K x.1, K x.2] 24))
  have g0 := Lib.hid (Has.new w 24 #[K x.1, K x.2])
  refine (rowMay_is hm'.out hl'.out hn' (Nat.lt_of_lt_of_le h0 b0.out.size) (hs'.out.below h0 b0.out) (hr'.out.next b0.out)).mono ?_
  rintro e w1 ⟨rfl, hb⟩
  have b1 := Lib.hid (Below.after b0.out hb)
  have g1 := Lib.hid (g0.out.next hb)
  clear hb
  go_wp2_with fail
  refine (may_at _ p1 p3 _).mono ?_
  rintro e w2 ⟨rfl, hb⟩
  have b2 := Lib.hid (Below.after b1.out hb)
  have g2 := Lib.hid (g1.out.next hb)
  clear hb
  have c0 := g2.out.c0
  go_wp2_with fail
  refine (seek_at o h1 h7 A n c l x.1 i i false hs2.out ha'.out hl'.out hn' _ (Nat.lt_of_lt_of_le h0 b2.out.size) (hs'.out.below h0 b2.out) (hr'.out.next b2.out)).mono ?_
  rintro e w3 ⟨rfl, hb⟩
  have b3 := Lib.hid (Below.after b2.out hb)
  have g3 := Lib.hid (g2.out.next hb)
  clear hb c0
  have c0 := g3.out.c0
  have c1 := g3.out.c1
  have hcat := Lib.hid (concat_put A A2 i c (n - i) (c - i) (l.take i) (l.drop i) x hlt.out hlen2'.out (by omega) (by omega) hA'.out hA2'.out hpl.out w3 (r1.out.next b3.out) (r2.out.next b3.out))
  go_wp2_with fail
  go_region_with (first | (go_at_call 30; refine hcat.out.mono ?_; rintro e w5 ⟨v, rfl, hown, hb⟩; have ho := Lib.hid hown; have b5 := Lib.hid (Below.after b3.out hb); clear hown hb))
  all_goals
    go_wp2
    go_ret2
    rw [hput.out]
    exact made_of ho.out b5.out
end Go.Proofs.YtekggefokoaidaaDoor
