/- The contracts of Find, Get, Floor and Ceil of package row. -/
import Derived.Test.YtekggefokoaidaaDoorL4Seek
namespace Go.Proofs.YtekggefokoaidaaDoor
open Go.RowKit Go.Shelf Go.Proofs.Rowm

set_option maxHeartbeats 1000000 in
theorem find_no (o : Nat) (A : Option Addr) (n c : Nat) (l : List Pr) (key : BitVec 64) (hm : mayB o l = false) (hl : l.length = n) (hn : n ≤ 1000) (w : World) (h0 : 0 < w.heap.size) (hs : Steps w) (hr : Row w w.heap.size A (flat l)) :
    Calls Tryd.prog 8 #[.int .u8 o, .slice A n c, K key] w fun e w' => e = .returned (.tuple #[.int .i64 0, .bool false]) ∧ Below w.heap.size w w' := by
  have hr' := Lib.hid hr
  have hl' := Lib.hid hl
  have hm' := Lib.hid hm
  have hs' := Lib.hid hs
  clear hr hl hm hs
  go_enter Tryd.func8, Tryd.ntmps8
  go_wp2_with fail
  refine (rowMay_is hm'.out hl'.out hn h0 hs'.out hr'.out).mono ?_
  rintro e w1 ⟨rfl, hb⟩
  have b1 := Lib.hid hb
  clear hb
  go_wp2
  go_ret2
  exact ⟨rfl, b1.out⟩
set_option maxHeartbeats 1000000 in
theorem find_yes (o : Nat) (A : Option Addr) (n c : Nat) (l : List Pr) (key : BitVec 64) (i j : Nat) (t : Bool) (ht : decide (i < j) = t) (hm : mayB o l = true) (ha : At o l key i j) (hl : l.length = n) (hn : n ≤ 1000) (w : World) (h0 : 0 < w.heap.size) (hs : Steps w) (hr : Row w w.heap.size A (flat l)) :
    Calls Tryd.prog 8 #[.int .u8 o, .slice A n c, K key] w fun e w' => e = .returned (.tuple #[.int .i64 i, .bool t]) ∧ Below w.heap.size w w' := by
  obtain ⟨h1, h7, _⟩ := mayB_parts hm
  have ha' := Lib.hid ha
  have ht' := Lib.hid ht
  clear ha ht
  have hr' := Lib.hid hr
  have hl' := Lib.hid hl
  have hm' := Lib.hid hm
  have hs' := Lib.hid hs
  clear hr hl hm hs
  go_enter Tryd.func8, Tryd.ntmps8
  go_wp2_with fail
  refine (rowMay_is hm'.out hl'.out hn h0 hs'.out hr'.out).mono ?_
  rintro e w1 ⟨rfl, hb⟩
  have b1 := Lib.hid hb
  clear hb
  go_wp2_with fail
  refine (seek_at o h1 h7 A n c l key i j t ht'.out ha'.out hl'.out hn _ (Nat.lt_of_lt_of_le h0 b1.out.size) (hs'.out.below h0 b1.out) (hr'.out.next b1.out)).mono ?_
  rintro e w2 ⟨rfl, hb⟩
  have b2 := Lib.hid (Below.after b1.out hb)
  clear hb
  go_wp2
  go_ret2
  exact ⟨rfl, b2.out⟩
set_option maxHeartbeats 1000000 in
theorem get_no (o : Nat) (A : Option Addr) (n c : Nat) (l : List Pr) (key : BitVec 64) (hm : mayB o l = false) (hl : l.length = n) (hn : n ≤ 1000) (w : World) (h0 : 0 < w.heap.size) (hs : Steps w) (hr : Row w w.heap.size A (flat l)) :
    Calls Tryd.prog 10 #[.int .u8 o, .slice A n c, K key] w fun e w' => e = .returned (.tuple #[.int .i64 0, .bool false]) ∧ Below w.heap.size w w' := by
  have hr' := Lib.hid hr
  have hl' := Lib.hid hl
  have hm' := Lib.hid hm
  have hs' := Lib.hid hs
  clear hr hl hm hs
  go_enter Tryd.func10, Tryd.ntmps10
  go_wp2_with fail
  refine (find_no o A n c l key hm'.out hl'.out hn _ h0 hs'.out hr'.out).mono ?_
  rintro e w1 ⟨rfl, hb⟩
  have b1 := Lib.hid hb
  clear hb
  go_wp2
  go_ret2
  exact ⟨rfl, b1.out⟩
set_option maxHeartbeats 1000000 in
theorem get_yes (o : Nat) (A : Option Addr) (n c : Nat) (l : List Pr) (key : BitVec 64) (i j : Nat) (t : Bool) (ht : decide (i < j) = t) (hm : mayB o l = true) (ha : At o l key i j) (hl : l.length = n) (hn : n ≤ 1000) (w : World) (h0 : 0 < w.heap.size) (hs : Steps w) (hr : Row w w.heap.size A (flat l)) :
    Calls Tryd.prog 10 #[.int .u8 o, .slice A n c, K key] w fun e w' => e = .returned (.tuple #[K (valAt l i j), .bool t]) ∧ Below w.heap.size w w' := by
  have hjl := ha.len
  rw [hl] at hjl
  have hr' := Lib.hid hr
  have hl' := Lib.hid hl
  have hm' := Lib.hid hm
  have hs' := Lib.hid hs
  clear hr hl hm hs
  have ha' := Lib.hid ha
  clear ha
  by_cases hij : i < j
  · obtain rfl : t = true := by rw [← ht]; exact decide_eq_true hij
    have ht' := Lib.hid ht
    clear ht
    have hil : i < l.length := by rw [hl'.out]; omega
    have hv : Hid (valAt l i j = l[i].2) := by show valAt l i j = l[i].2; unfold valAt; rw [if_pos hij, getD_at l i hil]
    have hin : i < n := by omega
    go_enter Tryd.func10, Tryd.ntmps10
    go_wp2_with fail
    refine (find_yes o A n c l key i j true ht'.out hm'.out ha'.out hl'.out hn _ h0 hs'.out hr'.out).mono ?_
    rintro e w1 ⟨rfl, hb⟩
    have b1 := Lib.hid hb
    clear hb
    obtain ⟨ad, rfl, hb2, g1, g2⟩ := pair_at (hr'.out.below b1.out) i hil
    go_wp2
    go_ret2
    exact ⟨by rw [hv.out]; rfl, b1.out⟩
  · obtain rfl : t = false := by rw [← ht]; exact decide_eq_false hij
    have ht' := Lib.hid ht
    clear ht
    have hv : Hid (valAt l i j = 0#64) := by show valAt l i j = 0#64; unfold valAt; rw [if_neg hij]
    go_enter Tryd.func10, Tryd.ntmps10
    go_wp2_with fail
    refine (find_yes o A n c l key i j false ht'.out hm'.out ha'.out hl'.out hn _ h0 hs'.out hr'.out).mono ?_
    rintro e w1 ⟨rfl, hb⟩
    have b1 := Lib.hid hb
    clear hb
    go_wp2
    go_ret2
    exact ⟨by rw [hv.out]; rfl, b1.out⟩
set_option maxHeartbeats 1000000 in
theorem ceil_no (o : Nat) (A : Option Addr) (n c : Nat) (l : List Pr) (key : BitVec 64) (hm : mayB o l = false) (hl : l.length = n) (hn : n ≤ 1000) (w : World) (h0 : 0 < w.heap.size) (hs : Steps w) (hr : Row w w.heap.size A (flat l)) :
    Calls Tryd.prog 18 #[.int .u8 o, .slice A n c, K key] w fun e w' => e = .returned (.tuple #[pV (0#64, 0#64), .bool false]) ∧ Below w.heap.size w w' := by
  have hr' := Lib.hid hr
  have hl' := Lib.hid hl
  have hm' := Lib.hid hm
  have hs' := Lib.hid hs
  clear hr hl hm hs
  go_enter Tryd.func18, Tryd.ntmps18
  go_wp2_with fail
  have b0 := Lib.hid ((Below.refl w.heap.size w).alloc (Nat.le_refl _) (.cells #[.int .i64 0, .int .i64 0] 24))
  have g0 := Lib.hid (Has.new w 24 #[.int .i64 0, .int .i64 0])
  refine (rowMay_is hm'.out hl'.out hn (Nat.lt_of_lt_of_le h0 b0.out.size) (hs'.out.below h0 b0.out) (hr'.out.next b0.out)).mono ?_
  rintro e w1 ⟨rfl, hb⟩
  have b1 := Lib.hid (Below.after b0.out hb)
  have g1 := Lib.hid (g0.out.next hb)
  clear hb
  have c0 := g1.out.c0
  have c1 := g1.out.c1
  have f0 := g1.out.free 0
  have f1 := g1.out.free 1
  have g3 := Lib.hid (g1.out.two (.int .i64 0) (.int .i64 0))
  go_wp2
  have d0 := g3.out.c0
  have d1 := g3.out.c1
  exact bodyPost_ret (v := .tuple #[pV (0#64, 0#64), .bool false]) (by simp [results, Tryd.results18, go_sem, d0, d1]) rfl ⟨rfl, (b1.out.setCell (Nat.le_refl _) _).setCell (Nat.le_refl _) _⟩
set_option maxHeartbeats 1000000 in
theorem floor_no (o : Nat) (A : Option Addr) (n c : Nat) (l : List Pr) (key : BitVec 64) (hm : mayB o l = false) (hl : l.length = n) (hn : n ≤ 1000) (w : World) (h0 : 0 < w.heap.size) (hs : Steps w) (hr : Row w w.heap.size A (flat l)) :
    Calls Tryd.prog 16 #[.int .u8 o, .slice A n c, K key] w fun e w' => e = .returned (.tuple #[pV (0#64, 0#64), .bool false]) ∧ Below w.heap.size w w' := by
  have hr' := Lib.hid hr
  have hl' := Lib.hid hl
  have hm' := Lib.hid hm
  have hs' := Lib.hid hs
  clear hr hl hm hs
  go_enter Tryd.func16, Tryd.ntmps16
  go_wp2_with fail
  have b0 := Lib.hid ((Below.refl w.heap.size w).alloc (Nat.le_refl _) (.cells #[.int .i64 0, .int .i64 0] 24))
  have g0 := Lib.hid (Has.new w 24 #[.int .i64 0, .int .i64 0])
  refine (rowMay_is hm'.out hl'.out hn (Nat.lt_of_lt_of_le h0 b0.out.size) (hs'.out.below h0 b0.out) (hr'.out.next b0.out)).mono ?_
  rintro e w1 ⟨rfl, hb⟩
  have b1 := Lib.hid (Below.after b0.out hb)
  have g1 := Lib.hid (g0.out.next hb)
  clear hb
  have c0 := g1.out.c0
  have c1 := g1.out.c1
  have f0 := g1.out.free 0
  have f1 := g1.out.free 1
  have g3 := Lib.hid (g1.out.two (.int .i64 0) (.int .i64 0))
  go_wp2
  have d0 := g3.out.c0
  have d1 := g3.out.c1
  exact bodyPost_ret (v := .tuple #[pV (0#64, 0#64), .bool false]) (by simp [results, Tryd.results16, go_sem, d0, d1]) rfl ⟨rfl, (b1.out.setCell (Nat.le_refl _) _).setCell (Nat.le_refl _) _⟩
set_option maxHeartbeats 1000000 in
theorem ceil_yes (o : Nat) (A : Option Addr) (n c : Nat) (l : List Pr) (key : BitVec 64) (i j : Nat) (t : Bool) (ht : decide (i < n) = t) (x : Pr) (hx : ceilAt l i = x) (hm : mayB o l = true) (ha : At o l key i j) (hl : l.length = n) (hn : n ≤ 1000) (w : World) (h0 : 0 < w.heap.size) (hs : Steps w) (hr : Row w w.heap.size A (flat l)) :
    Calls Tryd.prog 18 #[.int .u8 o, .slice A n c, K key] w fun e w' => e = .returned (.tuple #[pV x, .bool t]) ∧ Below w.heap.size w w' := by
  obtain ⟨h1, h7, _⟩ := mayB_parts hm
  have hil : i ≤ n := hl ▸ Nat.le_trans ha.le ha.len
  have ha' := Lib.hid ha
  have hx' := Lib.hid hx
  obtain ⟨s, hss⟩ : ∃ s, decide (i < j) = s := ⟨_, rfl⟩
  have hss' := Lib.hid hss
  clear ha hx hss
  have hr' := Lib.hid hr
  have hl' := Lib.hid hl
  have hm' := Lib.hid hm
  have hs' := Lib.hid hs
  clear hr hl hm hs
  by_cases hin : i < n
  · obtain rfl : t = true := by rw [← ht]; exact decide_eq_true hin
    have hil : i < l.length := by rw [hl'.out]; omega
    obtain rfl : l[i] = x := by rw [← hx'.out]; exact (getD_at l i hil).symm
    have hne : ((i : Int) == (n : Int)) = false := by simp; omega
    have hne2 : ¬ (i = n) := by omega
    clear ht
    go_enter Tryd.func18, Tryd.ntmps18
    go_wp2_with fail
    have b0 := Lib.hid ((Below.refl w.heap.size w).alloc (Nat.le_refl _) (.cells #[.int .i64 0, .int .i64 0] 24))
    have g0 := Lib.hid (Has.new w 24 #[.int .i64 0, .int .i64 0])
    refine (rowMay_is hm'.out hl'.out hn (Nat.lt_of_lt_of_le h0 b0.out.size) (hs'.out.below h0 b0.out) (hr'.out.next b0.out)).mono ?_
    rintro e w1 ⟨rfl, hb⟩
    have b1 := Lib.hid (Below.after b0.out hb)
    have g1 := Lib.hid (g0.out.next hb)
    clear hb
    go_wp2_with fail
    refine (seek_at o h1 h7 A n c l key i j s hss'.out ha'.out hl'.out hn _ (Nat.lt_of_lt_of_le h0 b1.out.size) (hs'.out.below h0 b1.out) (hr'.out.next b1.out)).mono ?_
    rintro e w2 ⟨rfl, hb⟩
    have b2 := Lib.hid (Below.after b1.out hb)
    have g2 := Lib.hid (g1.out.next hb)
    clear hb
    obtain ⟨ad, rfl, hb2, q1, q2⟩ := pair_at (hr'.out.below b2.out) i hil
    have c0 := g2.out.c0
    have c1 := g2.out.c1
    have f0 := g2.out.free 0
    have f1 := g2.out.free 1
    have g3 := Lib.hid (g2.out.two (K l[i].1) (K l[i].2))
    go_wp2
    have d0 := g3.out.c0
    have d1 := g3.out.c1
    exact bodyPost_ret (v := .tuple #[pV l[i], .bool true]) (by simp [results, Tryd.results18, go_sem, d0, d1]) rfl ⟨rfl, (b2.out.setCell (Nat.le_refl _) _).setCell (Nat.le_refl _) _⟩
  · obtain rfl : t = false := by rw [← ht]; exact decide_eq_false hin
    obtain rfl : (0#64, 0#64) = x := by rw [← hx'.out]; unfold ceilAt; simp [show ¬ i < l.length by rw [hl'.out]; omega]
    obtain rfl : n = i := by omega
    clear ht
    go_enter Tryd.func18, Tryd.ntmps18
    go_wp2_with fail
    have b0 := Lib.hid ((Below.refl w.heap.size w).alloc (Nat.le_refl _) (.cells #[.int .i64 0, .int .i64 0] 24))
    have g0 := Lib.hid (Has.new w 24 #[.int .i64 0, .int .i64 0])
    refine (rowMay_is hm'.out hl'.out hn (Nat.lt_of_lt_of_le h0 b0.out.size) (hs'.out.below h0 b0.out) (hr'.out.next b0.out)).mono ?_
    rintro e w1 ⟨rfl, hb⟩
    have b1 := Lib.hid (Below.after b0.out hb)
    have g1 := Lib.hid (g0.out.next hb)
    clear hb
    go_wp2_with fail
    refine (seek_at o h1 h7 A n c l key n j s hss'.out ha'.out hl'.out hn _ (Nat.lt_of_lt_of_le h0 b1.out.size) (hs'.out.below h0 b1.out) (hr'.out.next b1.out)).mono ?_
    rintro e w2 ⟨rfl, hb⟩
    have b2 := Lib.hid (Below.after b1.out hb)
    have g2 := Lib.hid (g1.out.next hb)
    clear hb
    have c0 := g2.out.c0
    have c1 := g2.out.c1
    have f0 := g2.out.free 0
    have f1 := g2.out.free 1
    have g3 := Lib.hid (g2.out.two (.int .i64 0) (.int .i64 0))
    go_wp2
    have d0 := g3.out.c0
    have d1 := g3.out.c1
    exact bodyPost_ret (v := .tuple #[pV (0#64, 0#64), .bool false]) (by simp [results, Tryd.results18, go_sem, d0, d1]) rfl ⟨rfl, (b2.out.setCell (Nat.le_refl _) _).setCell (Nat.le_refl _) _⟩
set_option maxHeartbeats 2000000 in
theorem floor_yes (o : Nat) (A : Option Addr) (n c : Nat) (l : List Pr) (key : BitVec 64) (i j : Nat) (t : Bool) (ht : decide (0 < j) = t) (x : Pr) (hx : floorAt l j = x) (hm : mayB o l = true) (ha : At o l key i j) (hl : l.length = n) (hn : n ≤ 1000) (w : World) (h0 : 0 < w.heap.size) (hs : Steps w) (hr : Row w w.heap.size A (flat l)) :
    Calls Tryd.prog 16 #[.int .u8 o, .slice A n c, K key] w fun e w' => e = .returned (.tuple #[pV x, .bool t]) ∧ Below w.heap.size w w' := by
  obtain ⟨h1, h7, _⟩ := mayB_parts hm
  have hjn : j ≤ n := hl ▸ ha.len
  have hle := ha.le
  have hone := ha.one
  have ha' := Lib.hid ha
  have hx' := Lib.hid hx
  obtain ⟨s, hss⟩ : ∃ s, decide (i < j) = s := ⟨_, rfl⟩
  clear ha hx
  have hr' := Lib.hid hr
  have hl' := Lib.hid hl
  have hm' := Lib.hid hm
  have hs' := Lib.hid hs
  clear hr hl hm hs
  by_cases hij : i < j
  · obtain rfl : t = true := by rw [← ht]; exact decide_eq_true (by omega)
    obtain rfl : s = true := by rw [← hss]; exact decide_eq_true hij
    have hss' := Lib.hid hss
    have hil : i < l.length := by rw [hl'.out]; omega
    have hin : i < n := by omega
    obtain rfl : l[i] = x := by rw [← hx'.out]; unfold floorAt; rw [if_pos (by omega), show j - 1 = i by omega]; exact (getD_at l i hil).symm
    clear ht hss
    go_enter Tryd.func16, Tryd.ntmps16
    go_wp2_with fail
    have b0 := Lib.hid ((Below.refl w.heap.size w).alloc (Nat.le_refl _) (.cells #[.int .i64 0, .int .i64 0] 24))
    have g0 := Lib.hid (Has.new w 24 #[.int .i64 0, .int .i64 0])
    refine (rowMay_is hm'.out hl'.out hn (Nat.lt_of_lt_of_le h0 b0.out.size) (hs'.out.below h0 b0.out) (hr'.out.next b0.out)).mono ?_
    rintro e w1 ⟨rfl, hb⟩
    have b1 := Lib.hid (Below.after b0.out hb)
    have g1 := Lib.hid (g0.out.next hb)
    clear hb
    go_wp2_with fail
    refine (seek_at o h1 h7 A n c l key i j true hss'.out ha'.out hl'.out hn _ (Nat.lt_of_lt_of_le h0 b1.out.size) (hs'.out.below h0 b1.out) (hr'.out.next b1.out)).mono ?_
    rintro e w2 ⟨rfl, hb⟩
    have b2 := Lib.hid (Below.after b1.out hb)
    have g2 := Lib.hid (g1.out.next hb)
    clear hb
    obtain ⟨ad, rfl, hb2, q1, q2⟩ := pair_at (hr'.out.below b2.out) i hil
    have c0 := g2.out.c0
    have c1 := g2.out.c1
    have f0 := g2.out.free 0
    have f1 := g2.out.free 1
    have g3 := Lib.hid (g2.out.two (K l[i].1) (K l[i].2))
    go_wp2
    have d0 := g3.out.c0
    have d1 := g3.out.c1
    exact bodyPost_ret (v := .tuple #[pV l[i], .bool true]) (by simp [results, Tryd.results16, go_sem, d0, d1]) rfl ⟨rfl, (b2.out.setCell (Nat.le_refl _) _).setCell (Nat.le_refl _) _⟩
  · obtain rfl : s = false := by rw [← hss]; exact decide_eq_false hij
    have hss' := Lib.hid hss
    clear hss
    by_cases h00 : i = 0
    · obtain rfl : t = false := by rw [← ht]; exact decide_eq_false (by omega)
      obtain rfl : (0#64, 0#64) = x := by rw [← hx'.out]; unfold floorAt; rw [if_neg (by omega)]
      subst h00
      clear ht
      go_enter Tryd.func16, Tryd.ntmps16
      go_wp2_with fail
      have b0 := Lib.hid ((Below.refl w.heap.size w).alloc (Nat.le_refl _) (.cells #[.int .i64 0, .int .i64 0] 24))
      have g0 := Lib.hid (Has.new w 24 #[.int .i64 0, .int .i64 0])
      refine (rowMay_is hm'.out hl'.out hn (Nat.lt_of_lt_of_le h0 b0.out.size) (hs'.out.below h0 b0.out) (hr'.out.next b0.out)).mono ?_
      rintro e w1 ⟨rfl, hb⟩
      have b1 := Lib.hid (Below.after b0.out hb)
      have g1 := Lib.hid (g0.out.next hb)
      clear hb
      go_wp2_with fail
      refine (seek_at o h1 h7 A n c l key 0 j false hss'.out ha'.out hl'.out hn _ (Nat.lt_of_lt_of_le h0 b1.out.size) (hs'.out.below h0 b1.out) (hr'.out.next b1.out)).mono ?_
      rintro e w2 ⟨rfl, hb⟩
      have b2 := Lib.hid (Below.after b1.out hb)
      have g2 := Lib.hid (g1.out.next hb)
      clear hb
      have c0 := g2.out.c0
      have c1 := g2.out.c1
      have f0 := g2.out.free 0
      have f1 := g2.out.free 1
      have g3 := Lib.hid (g2.out.two (.int .i64 0) (.int .i64 0))
      go_wp2
      have d0 := g3.out.c0
      have d1 := g3.out.c1
      exact bodyPost_ret (v := .tuple #[pV (0#64, 0#64), .bool false]) (by simp [results, Tryd.results16, go_sem, d0, d1]) rfl ⟨rfl, (b2.out.setCell (Nat.le_refl _) _).setCell (Nat.le_refl _) _⟩
    · obtain rfl : t = true := by rw [← ht]; exact decide_eq_true (by omega)
      obtain ⟨k, rfl⟩ : ∃ k, i = k + 1 := ⟨i - 1, by omega⟩
      have hkl : k < l.length := by rw [hl'.out]; omega
      have hkn : k < n := by omega
      obtain rfl : l[k] = x := by rw [← hx'.out]; unfold floorAt; rw [if_pos (by omega), show j - 1 = k by omega]; exact (getD_at l k hkl).symm
      have hne : (((k : Int) + 1) == 0) = false := by simp; omega
      have hne2 : ¬ ((k : Int) + 1 = 0) := by omega
      clear ht h00
      go_enter Tryd.func16, Tryd.ntmps16
      go_wp2_with fail
      have b0 := Lib.hid ((Below.refl w.heap.size w).alloc (Nat.le_refl _) (.cells #[.int .i64 0, .int .i64 0] 24))
      have g0 := Lib.hid (Has.new w 24 #[.int .i64 0, .int .i64 0])
      refine (rowMay_is hm'.out hl'.out hn (Nat.lt_of_lt_of_le h0 b0.out.size) (hs'.out.below h0 b0.out) (hr'.out.next b0.out)).mono ?_
      rintro e w1 ⟨rfl, hb⟩
      have b1 := Lib.hid (Below.after b0.out hb)
      have g1 := Lib.hid (g0.out.next hb)
      clear hb
      go_wp2_with fail
      refine (seek_at o h1 h7 A n c l key (k + 1) j false hss'.out ha'.out hl'.out hn _ (Nat.lt_of_lt_of_le h0 b1.out.size) (hs'.out.below h0 b1.out) (hr'.out.next b1.out)).mono ?_
      rintro e w2 ⟨rfl, hb⟩
      have b2 := Lib.hid (Below.after b1.out hb)
      have g2 := Lib.hid (g1.out.next hb)
      clear hb
      obtain ⟨ad, rfl, hb2, q1, q2⟩ := pair_at (hr'.out.below b2.out) k hkl
      have c0 := g2.out.c0
      have c1 := g2.out.c1
      have f0 := g2.out.free 0
      have f1 := g2.out.free 1
      have g3 := Lib.hid (g2.out.two (K l[k].1) (K l[k].2))
      go_wp2
      have d0 := g3.out.c0
      have d1 := g3.out.c1
      exact bodyPost_ret (v := .tuple #[pV l[k], .bool true]) (by simp [results, Tryd.results16, go_sem, d0, d1]) rfl ⟨rfl, (b2.out.setCell (Nat.le_refl _) _).setCell (Nat.le_refl _) _⟩
end Go.Proofs.YtekggefokoaidaaDoor
