/- The document's own answers of layer 4: Ceil, Floor. -/
import Derived.Test.YtekggefokoaidaaDoorL4RefB
namespace Go.Proofs.YtekggefokoaidaaDoor
open Go.RowKit Go.Proofs.Rowm

/-- a pair, as a value -/
abbrev pV (p : Pr) : Value := .agg #[K p.1, K p.2]
/-- a variable of two cells that is stored whole -/
theorem Has.two {w : World} {g : Nat} {t : TypeId} {a b : Value} (h : Has w g t #[a, b]) (u v : Value) : Has ((w.setCell ⟨g, 0, none⟩ u).setCell ⟨g, 1, none⟩ v) g t #[u, v] := (h.set 0 u).set 1 v
theorem Has.c0 {w : World} {g : Nat} {t : TypeId} {a b : Value} (h : Has w g t #[a, b]) : w.cell? ⟨g, 0, none⟩ = some a := h.cell 0
theorem Has.c1 {w : World} {g : Nat} {t : TypeId} {a b : Value} (h : Has w g t #[a, b]) : w.cell? ⟨g, 1, none⟩ = some b := h.cell 1
theorem Has.keep {w w' : World} {g B : Nat} {t : TypeId} {cs : Array Value} (h : Has w g t cs) (hb : Below B w w') (hB : B = w.heap.size) : Has w' g t cs := h.below hb (hB ▸ h.lt)

set_option maxHeartbeats 1000000 in
theorem refCeil_no (o : Nat) (A : Option Addr) (n c : Nat) (l : List Pr) (key : BitVec 64) (hm : mayB o l = false) (hl : l.length = n) (hn : n ≤ 1000) (w : World) (hr : Row w w.heap.size A (flat l)) :
    Calls Tryd.prog 19 #[.int .u8 o, .slice A n c, K key] w fun e w' => e = .returned (.tuple #[pV (0#64, 0#64), .bool false]) ∧ Below w.heap.size w w' := by
  have hr' := Lib.hid hr
  have hl' := Lib.hid hl
  have hm' := Lib.hid hm
  clear hr hl hm
  go_enter Tryd.func19, Tryd.ntmps19
  go_wp2_with fail
  have b0 := Lib.hid ((Below.refl w.heap.size w).alloc (Nat.le_refl _) (.cells #[.int .i64 0, .int .i64 0] 24))
  have g0 := Lib.hid (Has.new w 24 #[.int .i64 0, .int .i64 0])
  refine (refFind_no o A n c l key hm'.out hl'.out hn _ (hr'.out.next b0.out)).mono ?_
  rintro e w1 ⟨rfl, hb⟩
  have b1 := Lib.hid (Below.after b0.out hb)
  have g1 := Lib.hid (g0.out.next hb)
  clear hb
  go_wp2_with fail
  refine (refMay4_is hm'.out hl'.out hn (hr'.out.next b1.out)).mono ?_
  rintro e w2 ⟨rfl, hb⟩
  have b2 := Lib.hid (Below.after b1.out hb)
  have g2 := Lib.hid (g1.out.next hb)
  clear hb
  have c0 := g2.out.c0
  have c1 := g2.out.c1
  have f0 := g2.out.free 0
  have f1 := g2.out.free 1
  have g3 := Lib.hid (g2.out.two (.int .i64 0) (.int .i64 0))
  go_wp2
  have d0 := g3.out.c0
  have d1 := g3.out.c1
  exact bodyPost_ret (v := .tuple #[pV (0#64, 0#64), .bool false]) (by simp [results, Tryd.results19, go_sem, d0, d1]) rfl ⟨rfl, (b2.out.setCell (Nat.le_refl _) _).setCell (Nat.le_refl _) _⟩
set_option maxHeartbeats 1000000 in
theorem refCeil_yes (o : Nat) (A : Option Addr) (n c : Nat) (l : List Pr) (key : BitVec 64) (i j : Nat) (t : Bool) (ht : decide (i < n) = t) (x : Pr) (hx : ceilAt l i = x) (hm : mayB o l = true) (ha : At o l key i j) (hl : l.length = n) (hn : n ≤ 1000) (w : World) (hr : Row w w.heap.size A (flat l)) :
    Calls Tryd.prog 19 #[.int .u8 o, .slice A n c, K key] w fun e w' => e = .returned (.tuple #[pV x, .bool t]) ∧ Below w.heap.size w w' := by
  have hil : i ≤ n := hl ▸ Nat.le_trans ha.le ha.len
  have hr' := Lib.hid hr
  have hl' := Lib.hid hl
  have hm' := Lib.hid hm
  have ha' := Lib.hid ha
  have hx' := Lib.hid hx
  obtain ⟨s, hs⟩ : ∃ s, decide (i < j) = s := ⟨_, rfl⟩
  have hs' := Lib.hid hs
  clear hr hl hm ha hx hs
  by_cases hin : i < n
  · obtain rfl : t = true := by rw [← ht]; exact decide_eq_true hin
    have hil : i < l.length := by rw [hl'.out]; omega
    obtain rfl : l[i] = x := by rw [← hx'.out]; exact (getD_at l i hil).symm
    clear ht
    go_enter Tryd.func19, Tryd.ntmps19
    go_wp2_with fail
    have b0 := Lib.hid ((Below.refl w.heap.size w).alloc (Nat.le_refl _) (.cells #[.int .i64 0, .int .i64 0] 24))
    have g0 := Lib.hid (Has.new w 24 #[.int .i64 0, .int .i64 0])
    refine (refFind_yes o A n c l key i j s hs'.out hm'.out ha'.out hl'.out hn _ (hr'.out.next b0.out)).mono ?_
    rintro e w1 ⟨rfl, hb⟩
    have b1 := Lib.hid (Below.after b0.out hb)
    have g1 := Lib.hid (g0.out.next hb)
    clear hb
    go_wp2_with fail
    refine (refMay4_is hm'.out hl'.out hn (hr'.out.next b1.out)).mono ?_
    rintro e w2 ⟨rfl, hb⟩
    have b2 := Lib.hid (Below.after b1.out hb)
    have g2 := Lib.hid (g1.out.next hb)
    clear hb
    obtain ⟨ad, rfl, hb2, q1, q2⟩ := pair_at (hr'.out.below b2.out) i hil
    have c0 := g2.out.c0
    have c1 := g2.out.c1
    have f0 := g2.out.free 0
    have f1 := g2.out.free 1
    have g3 := Lib.hid (g2.out.two (K l[i].1) (K l[i].2))
    go_wp2
    have d0 := g3.out.c0
    have d1 := g3.out.c1
    exact bodyPost_ret (v := .tuple #[pV l[i], .bool true]) (by simp [results, Tryd.results19, go_sem, d0, d1]) rfl ⟨rfl, (b2.out.setCell (Nat.le_refl _) _).setCell (Nat.le_refl _) _⟩
  · obtain rfl : t = false := by rw [← ht]; exact decide_eq_false hin
    obtain rfl : (0#64, 0#64) = x := by rw [← hx'.out]; unfold ceilAt; simp [show ¬ i < l.length by rw [hl'.out]; omega]
    have hge : (n : Int) ≤ (i : Int) := by omega
    clear ht
    go_enter Tryd.func19, Tryd.ntmps19
    go_wp2_with fail
    have b0 := Lib.hid ((Below.refl w.heap.size w).alloc (Nat.le_refl _) (.cells #[.int .i64 0, .int .i64 0] 24))
    have g0 := Lib.hid (Has.new w 24 #[.int .i64 0, .int .i64 0])
    refine (refFind_yes o A n c l key i j s hs'.out hm'.out ha'.out hl'.out hn _ (hr'.out.next b0.out)).mono ?_
    rintro e w1 ⟨rfl, hb⟩
    have b1 := Lib.hid (Below.after b0.out hb)
    have g1 := Lib.hid (g0.out.next hb)
    clear hb
    go_wp2_with fail
    refine (refMay4_is hm'.out hl'.out hn (hr'.out.next b1.out)).mono ?_
    rintro e w2 ⟨rfl, hb⟩
    have b2 := Lib.hid (Below.after b1.out hb)
    have g2 := Lib.hid (g1.out.next hb)
    clear hb
    have c0 := g2.out.c0
    have c1 := g2.out.c1
    have f0 := g2.out.free 0
    have f1 := g2.out.free 1
    have g3 := Lib.hid (g2.out.two (.int .i64 0) (.int .i64 0))
    go_wp2
    have d0 := g3.out.c0
    have d1 := g3.out.c1
    exact bodyPost_ret (v := .tuple #[pV (0#64, 0#64), .bool false]) (by simp [results, Tryd.results19, go_sem, d0, d1]) rfl ⟨rfl, (b2.out.setCell (Nat.le_refl _) _).setCell (Nat.le_refl _) _⟩

/-- what Floor holds behind k rounds -/
def flo (l : List Pr) (j k : Nat) : Pr := floorAt l (min k j)
theorem flo_next (l : List Pr) (j k : Nat) (hk : k < l.length) : flo l j (k + 1) = if k < j then l[k] else flo l j k := by
  unfold flo floorAt
  by_cases h : k < j
  · rw [if_pos h, Nat.min_eq_left (by omega), if_pos (by omega), Nat.add_sub_cancel, getD_at l k hk]
  · rw [if_neg h, Nat.min_eq_right (by omega), Nat.min_eq_right (by omega)]

set_option maxHeartbeats 1000000 in
theorem refFloor_no (o : Nat) (A : Option Addr) (n c : Nat) (l : List Pr) (key : BitVec 64) (hm : mayB o l = false) (hl : l.length = n) (hn : n ≤ 1000) (w : World) (hr : Row w w.heap.size A (flat l)) :
    Calls Tryd.prog 17 #[.int .u8 o, .slice A n c, K key] w fun e w' => e = .returned (.tuple #[pV (0#64, 0#64), .bool false]) ∧ Below w.heap.size w w' := by
  have hr' := Lib.hid hr
  have hl' := Lib.hid hl
  have hm' := Lib.hid hm
  clear hr hl hm
  go_enter Tryd.func17, Tryd.ntmps17
  go_wp2_with fail
  go_loopw [9, 10] (fun t i wr => t = .bool false ∧ i = .int .i64 0 ∧ Has wr w.heap.size 24 #[.int .i64 0, .int .i64 0] ∧ Has wr (w.heap.size + 1) 24 #[.int .i64 0, .int .i64 0] ∧ Below w.heap.size w wr) (fun _ i _ => 0)
  case atStart =>
    refine ⟨rfl, rfl, ?_, ?_, ?_⟩
    · exact (Has.new w _ _).alloc _
    · have := Has.new (w.alloc (.cells #[.int .i64 0, .int .i64 0] 24)) 24 #[.int .i64 0, .int .i64 0]
      rw [World.size_alloc] at this
      exact this
    · exact ((Below.refl _ _).alloc (Nat.le_refl _) _).alloc (by simp) _
  case round =>
    obtain ⟨rfl, rfl, hg, hh, hb⟩ := hrel
    have b0 := Lib.hid hb
    have g0 := Lib.hid hg
    have x0 := Lib.hid hh
    clear hb hg hh
    go_wp2_with fail
    refine (refMay4_is hm'.out hl'.out hn (hr'.out.next b0.out)).mono ?_
    rintro e w1 ⟨rfl, hb⟩
    have b1 := Lib.hid (Below.after b0.out hb)
    have g1 := Lib.hid (g0.out.next hb)
    have x1 := Lib.hid (x0.out.next hb)
    clear hb
    have c0 := g1.out.c0
    have c1 := g1.out.c1
    have f0 := g1.out.free 0
    have f1 := g1.out.free 1
    have y0 := x1.out.c0
    have y1 := x1.out.c1
    have g3 := Lib.hid (g1.out.two (.int .i64 0) (.int .i64 0))
    go_wp2
    have d0 := g3.out.c0
    have d1 := g3.out.c1
    exact bodyPost_ret (v := .tuple #[pV (0#64, 0#64), .bool false]) (by simp [results, Tryd.results17, go_sem, d0, d1]) rfl ⟨rfl, (b1.out.setCell (Nat.le_refl _) _).setCell (Nat.le_refl _) _⟩

set_option maxHeartbeats 2000000 in
theorem refFloor_yes (o : Nat) (A : Option Addr) (n c : Nat) (l : List Pr) (key : BitVec 64) (i j : Nat) (t : Bool) (ht : decide (0 < j) = t) (x : Pr) (hx : floorAt l j = x) (hm : mayB o l = true) (ha : At o l key i j) (hl : l.length = n) (hn : n ≤ 1000) (w : World) (hr : Row w w.heap.size A (flat l)) :
    Calls Tryd.prog 17 #[.int .u8 o, .slice A n c, K key] w fun e w' => e = .returned (.tuple #[pV x, .bool t]) ∧ Below w.heap.size w w' := by
  obtain ⟨h1, h7, _⟩ := mayB_parts hm
  have hjn : j ≤ n := hl ▸ ha.len
  have hr' := Lib.hid hr
  have hl' := Lib.hid hl
  have hm' := Lib.hid hm
  have ha' := Lib.hid ha
  have hx' := Lib.hid hx
  have ht' := Lib.hid ht
  clear hr hl hm ha hx ht
  go_enter Tryd.func17, Tryd.ntmps17
  go_wp2_with fail
  go_loopw [9, 10] (fun t i wr => ∃ k : Nat, k ≤ n ∧ t = .bool (decide (0 < min k j)) ∧ i = .int .i64 k ∧ Has wr w.heap.size 24 #[.int .i64 0, .int .i64 0] ∧ Has wr (w.heap.size + 1) 24 #[K (flo l j k).1, K (flo l j k).2] ∧ Below w.heap.size w wr) (fun _ i _ => n - (intOf i).toNat)
  case atStart =>
    refine ⟨0, Nat.zero_le _, by simp, rfl, ?_, ?_, ?_⟩
    · exact (Has.new w _ _).alloc _
    · have := Has.new (w.alloc (.cells #[.int .i64 0, .int .i64 0] 24)) 24 #[.int .i64 0, .int .i64 0]
      rw [World.size_alloc] at this
      have e : flo l j 0 = (0#64, 0#64) := by unfold flo floorAt; simp
      rw [e]
      exact this
    · exact ((Below.refl _ _).alloc (Nat.le_refl _) _).alloc (by simp) _
  case round =>
    obtain ⟨k, hk, rfl, rfl, hg, hh, hb⟩ := hrel
    have b0 := Lib.hid hb
    have g0 := Lib.hid hg
    have x0 := Lib.hid hh
    clear hb hg hh
    obtain ⟨s, hs⟩ : ∃ s, decide (0 < min k j) = s := ⟨_, rfl⟩
    obtain ⟨y, hy⟩ : ∃ y, flo l j k = y := ⟨_, rfl⟩
    rw [hs]
    rw [hy] at x0
    have hs' := Lib.hid hs
    have hy' := Lib.hid hy
    clear hs hy
    by_cases hlt : k < n
    · have hkl : k < l.length := by rw [hl'.out]; exact hlt
      by_cases hle : k < j
      · have hd := Lib.hid (decide_eq_false (fun h : num o key < num o l[k].1 => by have := (ha'.out.le_iff k hkl).2 hle; omega))
        have hfl : Hid (flo l j (k + 1) = l[k]) := by show flo l j (k + 1) = l[k]; rw [flo_next l j k hkl, if_pos hle]
        go_wp2_with fail
        refine (refMay4_is hm'.out hl'.out hn (hr'.out.next b0.out)).mono ?_
        rintro e w1 ⟨rfl, hb⟩
        have b1 := Lib.hid (Below.after b0.out hb)
        have g1 := Lib.hid (g0.out.next hb)
        have x1 := Lib.hid (x0.out.next hb)
        clear hb
        obtain ⟨ad, rfl, hb2, q1, q2⟩ := pair_at (hr'.out.below b1.out) k hkl
        have y0 := x1.out.c0
        have y1 := x1.out.c1
        have f0 := x1.out.free 0
        have f1 := x1.out.free 1
        go_wp2_with (go_at_call 27; refine (refLess_at o h1 h7 hd.out _).mono ?_; rintro e w' ⟨rfl, rfl⟩)
        go_roundw
        case rel =>
          refine ⟨k + 1, by omega, by simp; omega, by go_num, ?_, ?_, ?_⟩
          · exact (g1.out.far (by simp) _).far (by simp) _
          · rw [hfl.out]; exact x1.out.two _ _
          · exact (b1.out.setCell (by simp) _).setCell (by simp) _
        case measure => simp [intOf]; omega
      · have hd := Lib.hid (decide_eq_true (show num o key < num o l[k].1 from ha'.out.high k hkl (by omega)))
        have hfl : Hid (flo l j (k + 1) = y) := by show flo l j (k + 1) = y; rw [flo_next l j k hkl, if_neg hle, hy'.out]
        have hse : Hid (decide (0 < min (k + 1) j) = s) := by show decide (0 < min (k + 1) j) = s; rw [← hs'.out, Nat.min_eq_right (by omega), Nat.min_eq_right (by omega)]
        go_wp2_with fail
        refine (refMay4_is hm'.out hl'.out hn (hr'.out.next b0.out)).mono ?_
        rintro e w1 ⟨rfl, hb⟩
        have b1 := Lib.hid (Below.after b0.out hb)
        have g1 := Lib.hid (g0.out.next hb)
        have x1 := Lib.hid (x0.out.next hb)
        clear hb
        obtain ⟨ad, rfl, hb2, q1, q2⟩ := pair_at (hr'.out.below b1.out) k hkl
        go_wp2_with (go_at_call 27; refine (refLess_at o h1 h7 hd.out _).mono ?_; rintro e w' ⟨rfl, rfl⟩)
        go_roundw
        case rel => exact ⟨k + 1, by omega, by rw [hse.out], by go_num, g1.out, by rw [hfl.out]; exact x1.out, b1.out⟩
        case measure => simp [intOf]; omega
    · have e1 : k = n := by omega
      subst e1
      obtain rfl : y = x := by rw [← hy'.out, ← hx'.out]; unfold flo; rw [Nat.min_eq_right hjn]
      obtain rfl : s = t := by rw [← hs'.out, ← ht'.out, Nat.min_eq_right hjn]
      go_wp2_with fail
      refine (refMay4_is hm'.out hl'.out hn (hr'.out.next b0.out)).mono ?_
      rintro e w1 ⟨rfl, hb⟩
      have b1 := Lib.hid (Below.after b0.out hb)
      have g1 := Lib.hid (g0.out.next hb)
      have x1 := Lib.hid (x0.out.next hb)
      clear hb
      have c0 := g1.out.c0
      have c1 := g1.out.c1
      have f0 := g1.out.free 0
      have f1 := g1.out.free 1
      have y0 := x1.out.c0
      have y1 := x1.out.c1
      have g3 := Lib.hid (g1.out.two (K y.1) (K y.2))
      go_wp2
      have d0 := g3.out.c0
      have d1 := g3.out.c1
      exact bodyPost_ret (v := .tuple #[pV y, .bool s]) (by simp [results, Tryd.results17, go_sem, d0, d1]) rfl ⟨rfl, (b1.out.setCell (Nat.le_refl _) _).setCell (Nat.le_refl _) _⟩
end Go.Proofs.YtekggefokoaidaaDoor
