/- The contracts of seek, byHalves and the closure between them, of package row; of Find and Get. -/
import Derived.Test.YtjnnfineebabaaaDoorL4MayB
import Derived.Test.YtjnnfineebabaaaDoorL4RefD
import Derived.Deep.RegionHeld3
namespace Go.Proofs.YtjnnfineebabaaaDoor
open Go.RowKit Go.Shelf Go.Proofs.Rowm

theorem keep_cell {x y : World} (hb : Below x.heap.size x y) {a : Addr} {u : Value} (h : x.cell? a = some u) : y.cell? a = some u := (hb.cell (World.block_lt_of_cell? x a h)).trans h
theorem seen_next {w x y : World} {a b c d : Addr} {u v s t : Value} (h : x.cell? a = some u ∧ x.cell? b = some v ∧ x.cell? c = some s ∧ x.cell? d = some t ∧ Below w.heap.size w x) (hb : Below x.heap.size x y) :
    y.cell? a = some u ∧ y.cell? b = some v ∧ y.cell? c = some s ∧ y.cell? d = some t ∧ Below w.heap.size w y := ⟨keep_cell hb h.1, keep_cell hb h.2.1, keep_cell hb h.2.2.1, keep_cell hb h.2.2.2.1, Below.after h.2.2.2.2 hb⟩
/-- the closure of seek, as a value: the blocks of the order, the row and the key -/
abbrev seekV (g : Nat) : Value := .func (.func 67) #[] #[.pointer (some ⟨g, 0, none⟩), .pointer (some ⟨g + 1, 0, none⟩), .pointer (some ⟨g + 2, 0, none⟩)]

set_option maxHeartbeats 2000000 in
theorem seek1_at (o : Nat) (h1 : 1 ≤ o) (h7 : o ≤ 7) (g : Nat) (A : Option Addr) (n c : Nat) (l : List Pr) (key : BitVec 64) (k : Nat) (hl : l.length = n) (hk : k < n) (t : Bool) (w : World) (h0 : 0 < w.heap.size) (hs : Steps w) (hr : Row w w.heap.size A (flat l))
    (ht : decide (num o (l[k]'(by omega)).1 < num o key) = t)
    (c0 : w.cell? ⟨g, 0, none⟩ = some (.int .u8 o)) (c1 : w.cell? ⟨g + 1, 0, none⟩ = some (.slice A n c)) (c2 : w.cell? ⟨g + 2, 0, none⟩ = some (K key)) :
    Calls Tryd.prog 67 #[.int .i64 k, .pointer (some ⟨g, 0, none⟩), .pointer (some ⟨g + 1, 0, none⟩), .pointer (some ⟨g + 2, 0, none⟩)] w fun e w' => e = .returned (.bool t) ∧ Below w.heap.size w w' := by
  have hkl : k < l.length := by omega
  obtain ⟨ad, rfl, hb2, g1, g2⟩ := pair_at hr k hkl
  have hst := stand_lt o l[k].1 key
  have hcmp : Hid (∀ W, Below w.heap.size w W → Calls Tryd.prog 46 #[.int .u8 o, K l[k].1, K key] W fun e w' => e = .returned (.int .i64 (Ordm.stand o l[k].1 key)) ∧ Below W.heap.size W w') :=
    fun W hb => compare_at o h1 h7 l[k].1 key W (Nat.lt_of_lt_of_le h0 hb.size) (hs.below h0 hb)
  obtain ⟨x, hx⟩ : ∃ x, l[k].1 = x := ⟨_, rfl⟩
  rw [hx] at ht
  simp only [hx] at g1 hst hcmp
  obtain ⟨s, hs'⟩ : ∃ s, Ordm.stand o x key = s := ⟨_, rfl⟩
  simp only [hs'] at hst hcmp
  have hd : decide (s < 0) = t := by rw [← ht, decide_eq_decide]; exact hst
  have e1 : (0 : Int) ≤ (k : Int) := by omega
  have e2 : (k : Int) < (n : Int) := by omega
  have b0 := Lib.hid (Below.refl w.heap.size w)
  clear hx hs' ht hst hs hr h0 g2 hl hb2
  go_enter Tryd.func67, Tryd.ntmps67
  go_wp2_with fail
  go_region_held3 (fun w' => w'.cell? ⟨g, 0, none⟩ = some (.int .u8 o) ∧ w'.cell? ⟨g + 1, 0, none⟩ = some (.slice (some ad) n c) ∧ w'.cell? ⟨g + 2, 0, none⟩ = some (K key) ∧ w'.cell? (ad.add (k * 2)) = some (K x) ∧ Below w.heap.size w w') (first | exact ⟨c0, c1, c2, g1, b0.out.drew⟩ | assumption)
    (first | (go_at_call 46; refine (hcmp.out _ (And.right (And.right (And.right (And.right (by assumption)))))).mono ?_; rintro e w' ⟨rfl, hb⟩; have hS' := seen_next (w := w) (by assumption) hb; clear hb))
  go_wp2
  go_ret
  exact ⟨rfl, And.right (And.right (And.right (And.right (by assumption))))⟩

/-- the three boxes of seek -/
structure Boxes (w : World) (g o : Nat) (A : Option Addr) (n c : Nat) (key : BitVec 64) : Prop where
  c0 : w.cell? ⟨g, 0, none⟩ = some (.int .u8 o)
  c1 : w.cell? ⟨g + 1, 0, none⟩ = some (.slice A n c)
  c2 : w.cell? ⟨g + 2, 0, none⟩ = some (K key)
theorem Boxes.next {w w' : World} {g o : Nat} {A : Option Addr} {n c : Nat} {key : BitVec 64} (h : Boxes w g o A n c key) (hb : Below w.heap.size w w') : Boxes w' g o A n c key := ⟨keep_cell hb h.c0, keep_cell hb h.c1, keep_cell hb h.c2⟩

set_option maxHeartbeats 2000000 in
theorem byHalves_at (o : Nat) (h1 : 1 ≤ o) (h7 : o ≤ 7) (g : Nat) (A : Option Addr) (n c : Nat) (l : List Pr) (key : BitVec 64) (i j : Nat) (ha : At o l key i j) (hl : l.length = n) (hn : n ≤ 1000) (w : World) (h0 : 0 < w.heap.size) (hs : Steps w) (hr : Row w w.heap.size A (flat l)) (hB : Boxes w g o A n c key) :
    Calls Tryd.prog 66 #[.int .i64 n, seekV g] w fun e w' => e = .returned (.int .i64 i) ∧ Below w.heap.size w w' := by
  have hin : i ≤ n := hl ▸ Nat.le_trans ha.le ha.len
  have hr' := Lib.hid hr
  have hl' := Lib.hid hl
  have ha' := Lib.hid ha
  have hB' := Lib.hid hB
  have hs' := Lib.hid hs
  clear hr hl ha hB hs
  go_enter Tryd.func66, Tryd.ntmps66
  go_wp2
  go_loopw [5, 6] (fun a b wr => ∃ lo hi : Nat, lo ≤ i ∧ i ≤ hi ∧ hi ≤ n ∧ a = .int .i64 lo ∧ b = .int .i64 hi ∧ Below w.heap.size w wr) (fun a b _ => (intOf b).toNat - (intOf a).toNat)
  case atStart => exact ⟨0, n, Nat.zero_le _, hin, Nat.le_refl _, rfl, rfl, Below.refl _ _⟩
  case round =>
    obtain ⟨lo, hi, hlo, hhi, hhn, rfl, rfl, hb⟩ := hrel
    have b0 := Lib.hid hb
    clear hb
    by_cases hlt : lo < hi
    · obtain ⟨mid, hmid, hm1, hm2⟩ : ∃ mid : Nat, (lo : Int) + ((hi : Int) - (lo : Int)) / 2 = (mid : Int) ∧ lo ≤ mid ∧ mid < hi := ⟨lo + (hi - lo) / 2, by omega, by omega, by omega⟩
      have hml : mid < l.length := by rw [hl'.out]; omega
      have hiff := ha'.out.lt_iff mid hml
      have hnn : (0 : Int) ≤ (hi : Int) - (lo : Int) := by omega
      have hm1000 : (mid : Int) ≤ 1000 := by omega
      by_cases hlow : mid < i
      · have ht := Lib.hid (decide_eq_true (hiff.2 hlow))
        clear hiff
        go_wp2_with (go_at_call 67; refine (seek1_at o h1 h7 g A n c l key mid hl'.out (by omega) true _ (Nat.lt_of_lt_of_le h0 b0.out.size) (hs'.out.below h0 b0.out) (hr'.out.next b0.out) ht.out (hB'.out.next b0.out).c0 (hB'.out.next b0.out).c1 (hB'.out.next b0.out).c2).mono ?_; rintro e w2 ⟨rfl, hb⟩; have b1 := Lib.hid (Below.after b0.out hb); clear hb)
        go_roundw
        case rel => exact ⟨mid + 1, hi, by omega, hhi, hhn, by go_num, rfl, b1.out⟩
        case measure => simp [intOf]; omega
      · have ht := Lib.hid (decide_eq_false (fun h => hlow (hiff.1 h)))
        clear hiff
        go_wp2_with (go_at_call 67; refine (seek1_at o h1 h7 g A n c l key mid hl'.out (by omega) false _ (Nat.lt_of_lt_of_le h0 b0.out.size) (hs'.out.below h0 b0.out) (hr'.out.next b0.out) ht.out (hB'.out.next b0.out).c0 (hB'.out.next b0.out).c1 (hB'.out.next b0.out).c2).mono ?_; rintro e w2 ⟨rfl, hb⟩; have b1 := Lib.hid (Below.after b0.out hb); clear hb)
        go_roundw
        case rel => exact ⟨lo, mid, hlo, by omega, by omega, rfl, rfl, b1.out⟩
        case measure => simp [intOf]; omega
    · obtain rfl : lo = i := by omega
      go_wp2
      go_ret
      exact ⟨rfl, b0.out⟩

set_option maxHeartbeats 2000000 in
theorem seek_at (o : Nat) (h1 : 1 ≤ o) (h7 : o ≤ 7) (A : Option Addr) (n c : Nat) (l : List Pr) (key : BitVec 64) (i j : Nat) (t : Bool) (ht : decide (i < j) = t) (ha : At o l key i j) (hl : l.length = n) (hn : n ≤ 1000) (w : World) (h0 : 0 < w.heap.size) (hs : Steps w) (hr : Row w w.heap.size A (flat l)) :
    Calls Tryd.prog 55 #[.int .u8 o, .slice A n c, K key] w fun e w' => e = .returned (.tuple #[.int .i64 i, .bool t]) ∧ Below w.heap.size w w' := by
  have hin : i ≤ n := hl ▸ Nat.le_trans ha.le ha.len
  have hjn : j ≤ n := hl ▸ ha.len
  have hr' := Lib.hid hr
  have hl' := Lib.hid hl
  have ha' := Lib.hid ha
  have hs' := Lib.hid hs
  have ht' := Lib.hid ht
  clear hr hl ha hs ht
  obtain ⟨W3, hW3⟩ : ∃ W, ((w.alloc (.cells #[.int .u8 o] 5)).alloc (.cells #[.slice A n c] 22)).alloc (.cells #[K key] 2) = W := ⟨_, rfl⟩
  have b3 : Below w.heap.size w W3 := by rw [← hW3]; exact (((Below.refl _ w).alloc (Nat.le_refl _) _).alloc (by simp) _).alloc (by simp; omega) _
  have hB3 : Boxes W3 w.heap.size o A n c key := by
    rw [← hW3]
    refine ⟨(((Boxed.new w 5 (.int .u8 o)).alloc _).alloc _).cell, ?_, ?_⟩
    · have := (Boxed.new (w.alloc (.cells #[.int .u8 o] 5)) 22 (.slice A n c)).alloc (.cells #[K key] 2)
      rw [World.size_alloc] at this
      exact this.cell
    · have := Boxed.new ((w.alloc (.cells #[.int .u8 o] 5)).alloc (.cells #[.slice A n c] 22)) 2 (K key)
      rw [World.size_alloc, World.size_alloc] at this
      exact this.cell
  have b3' := Lib.hid b3
  have hB3' := Lib.hid hB3
  have hW := Lib.hid hW3
  clear b3 hB3 hW3
  go_enter Tryd.func55, Tryd.ntmps55
  go_wp2_with fail
  rw [hW.out]
  refine (byHalves_at o h1 h7 w.heap.size A n c l key i j ha'.out hl'.out hn _ (Nat.lt_of_lt_of_le h0 b3'.out.size) (hs'.out.below h0 b3'.out) (hr'.out.next b3'.out) hB3'.out).mono ?_
  rintro e w4 ⟨rfl, hb⟩
  have b4 := Lib.hid (Below.after b3'.out hb)
  have hB4 := Lib.hid (hB3'.out.next hb)
  clear hb
  have c1 := hB4.out.c1
  have c2 := hB4.out.c2
  by_cases hlt : i < n
  · have hil : i < l.length := by rw [hl'.out]; exact hlt
    obtain ⟨ad, rfl, hb2, g1, g2⟩ := pair_at (hr'.out.below b4.out) i hil
    have hk0 : (l[i].1.toInt == key.toInt) = t := by
      rw [i_beq, ← ht'.out, decide_eq_decide]
      exact ha'.out.is hil
    have hd : decide (i < n) = true := decide_eq_true hlt
    go_wp2
    go_quiet (fail)
    go_wp2
    go_ret2
    exact ⟨by simp, below_drewN b4.out _⟩
  · obtain rfl : t = false := by rw [← ht'.out]; exact decide_eq_false (by omega)
    have hd : decide (i < n) = false := decide_eq_false hlt
    go_wp2
    go_quiet (fail)
    go_wp2
    go_ret2
    exact ⟨rfl, below_drewN b4.out _⟩
end Go.Proofs.YtjnnfineebabaaaDoor
