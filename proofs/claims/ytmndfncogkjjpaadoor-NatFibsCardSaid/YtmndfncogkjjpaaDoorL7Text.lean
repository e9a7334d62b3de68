/- The document's own answers of layer 7: Text. -/
import Derived.Test.YtmndfncogkjjpaaDoorL7Cmp
import Derived.Laws.BytesString
namespace Go.Proofs.YtmndfncogkjjpaaDoor
open Go.RowKit Go.Proofs.Natm

/-- how many digits are written -/
def tl (v : Nat) : Nat := if v = 0 then 1 else Natm.size 10 v
theorem ten_digs (v : Nat) : ten v = digs 10 v (tl v) := by
  unfold ten tl dig
  by_cases h : v = 0
  · rw [if_pos h, if_pos h, h]; rfl
  · rw [if_neg h, if_neg h]
theorem tl_pos (v : Nat) : 1 ≤ tl v := by
  unfold tl
  split
  · exact Nat.le_refl _
  · rename_i h; rw [size_pos (by decide) h]; omega
theorem tl_size (v : Nat) : Natm.size 10 v ≤ tl v := by
  unfold tl
  split
  · rename_i h; rw [h, size_zero]; omega
  · exact Nat.le_refl _
theorem tl_least {v k : Nat} (h1 : 1 ≤ k) (h : Natm.size 10 v ≤ k) : tl v ≤ k := by
  unfold tl
  split
  · exact h1
  · exact h
theorem tl_more {v k : Nat} (h : v / 10 ^ k ≠ 0) : k + 1 ≤ tl v := by
  have h1 := tl_size v
  rcases Nat.lt_or_ge k (Natm.size 10 v) with h2 | h2
  · omega
  · exact absurd (beyond (by decide) h2) h
theorem tl_le {u v : Nat} (h : u ≤ v) : tl u ≤ tl v := by
  refine tl_least (tl_pos v) (size_le (by decide) (Nat.lt_of_le_of_lt h ?_))
  exact (size_iff (by decide)).1 (tl_size v)
theorem beyond_tl {v k : Nat} (h : tl v ≤ k) : v / 10 ^ k = 0 := beyond (by decide) (Nat.le_trans (tl_size v) h)
theorem ten_step (v k : Nat) : v / 10 ^ (k + 1) = v / 10 ^ k / 10 := by rw [Nat.pow_succ, ← Nat.div_div_eq_div_mul]
/-- a number's length in decimal digits, bounded by that in bytes -/
theorem tl_few {v n : Nat} (h : v < 256 ^ n) : tl v ≤ 3 * n + 1 := by
  refine tl_least (by omega) (size_le (by decide) (Nat.lt_of_lt_of_le h ?_))
  refine Nat.le_trans (Nat.pow_le_pow_left (show 256 ≤ 10 ^ 3 by decide) n) ?_
  rw [← Nat.pow_mul]
  exact Nat.pow_le_pow_right (by decide) (by omega)
def mixT (T R q L : Nat) : List Nat := (List.range L).map fun j => if j < q then T / 10 ^ j % 10 else R / 10 ^ j % 10
theorem mixT_len (T R q L : Nat) : (mixT T R q L).length = L := by simp [mixT]
theorem mixT_get (T R q L : Nat) (h : Natm.size 10 R ≤ L) : (mixT T R q L).getD q 0 = R / 10 ^ q % 10 := by
  rw [List.getD_eq_getElem?_getD]
  rcases Nat.lt_or_ge q L with h1 | h1
  · simp [mixT, h1]
  · rw [List.getElem?_eq_none (by rw [mixT_len]; exact h1), beyond (by decide) (Nat.le_trans h h1)]; simp
theorem mixT_set (T R q L z : Nat) (hz : T / 10 ^ q % 10 = z) (h : q < L) : (mixT T R q L).set q z = mixT T R (q + 1) L := by
  apply List.ext_getElem?
  intro j
  rw [List.getElem?_set, mixT_len]
  by_cases hj : q = j
  · subst hj
    rw [if_pos rfl, if_pos h]; simp [mixT, h, hz]
  · rw [if_neg hj]
    by_cases hL : j < L
    · simp only [mixT, List.getElem?_map, List.getElem?_range hL, Option.map_some]
      by_cases h1 : j < q
      · rw [if_pos h1, if_pos (by omega)]
      · rw [if_neg h1, if_neg (by omega)]
    · rw [List.getElem?_eq_none (by rw [mixT_len]; omega), List.getElem?_eq_none (by rw [mixT_len]; omega)]
theorem mixT_more (T R q : Nat) (h : R / 10 ^ q = 0) : mixT T R q q ++ [0] = mixT T R q (q + 1) := by
  simp [mixT, List.range_succ, h]
theorem mixT_start (T R L : Nat) : mixT T R 0 L = digs 10 R L := by simp [mixT, digs]
theorem mixT_all (T R L : Nat) : mixT T R L L = digs 10 T L := by
  unfold mixT digs
  refine List.map_congr_left fun j hj => ?_
  rw [if_pos (List.mem_range.1 hj)]
theorem text_step {X X' cy s : Nat} (h : X' = 256 * X + cy) (hs : X % 10 * 256 + cy = s) : X' % 10 = s % 10 ∧ X' / 10 = 256 * (X / 10) + s / 10 := by omega
/-- a store into a row of the call's own -/
theorem own_set {w : World} {base g n cap k : Nat} {e : TypeId} {xs : List Value} (h : w.ownsRow base e 1 (.slice (some ⟨g, 0, none⟩) n cap) n xs) (u : Value) : (w.setCell ⟨g, k, none⟩ u).ownsRow base e 1 (.slice (some ⟨g, 0, none⟩) n cap) n (xs.set k u) := by
  obtain ⟨h1, h2⟩ := h
  refine ⟨by rw [List.length_set]; exact h1, .inr ?_⟩
  rcases h2 with ⟨h2, _⟩ | ⟨g', cap', cur, e1, hg, hh, hn, hm, hs, ht⟩
  · cases h2
  · cases e1
    have hset := Has.set (w := w) (g := g) (t := e) (cs := cur) hh k u
    refine ⟨g, cap, _, rfl, hg, hset, hn, hm, by simpa using hs, ?_⟩
    rw [Array.toList_setIfInBounds, ← ht, List.take_set]
theorem own_form {w : World} {base n : Nat} {e : TypeId} {v : Value} {xs : List Value} (h : w.ownsRow base e 1 v n xs) (h0 : 0 < n) : ∃ g cap, v = .slice (some ⟨g, 0, none⟩) n cap ∧ base ≤ g ∧ g < w.heap.size ∧ n ≤ cap ∧ cap ≤ maxLen ∧ (∀ j u, xs[j]? = some u → w.cell? ⟨g, j, none⟩ = some u) ∧ ∀ j, w.frozen? ⟨g, j, none⟩ = false := by
  rcases h.2 with ⟨_, h2⟩ | ⟨g, cap, cur, rfl, hg, hh, hn, hm, hs, ht⟩
  · omega
  · exact ⟨g, cap, rfl, hg, lt_of_block hh, hn, hm, fun j u hu => by have := h.cells (g := g) rfl j u hu; rwa [add_none, Nat.zero_add] at this, fun j => frozen_of_row w g j cur e hh⟩

/-- the digits as they are written: the last one first -/
def chars (l : List Nat) : ByteArray := ⟨(l.map fun d => UInt8.ofNat (48 + d)).toArray⟩
def textL (l : List Nat) : ByteArray := if mayL l then chars (ten (num l)).reverse else ⟨#[]⟩

set_option maxHeartbeats 1000000 in
theorem refText7_no (A : Option Addr) (n c : Nat) (a : List Nat) (ha : mayL a = false) (w : World) (hA : LieW w A n c a) : Calls Tryd.prog 21 #[.slice A n c] w fun e w' => e = .returned (.string ⟨#[]⟩) ∧ Below w.heap.size w w' := by
  have hM := Lib.hid (refMay7_is ha hA)
  clear hA
  go_enter Tryd.func21, Tryd.ntmps21
  go_wp2_with (go_at_call 17; refine hM.out.mono ?_; rintro e w' ⟨rfl, rfl⟩)
  go_ret
  exact ⟨rfl, Below.refl _ _⟩

set_option maxRecDepth 100000 in
set_option maxHeartbeats 8000000 in
theorem refText7_yes (A : Option Addr) (n c : Nat) (a : List Nat) (ha : mayL a = true) (w : World) (hA : LieW w A n c a) : Calls Tryd.prog 21 #[.slice A n c] w fun e w' => e = .returned (.string (chars (ten (num a)).reverse)) ∧ Below w.heap.size w w' := by
  obtain ⟨i0, hi, hz0, hz1, hz2⟩ := info_parts info_int
  have hM := Lib.hid (refMay7_is ha hA)
  have f1 := few_bytes ha hA.words
  have cA := Lib.hid (bytes7_of A n c a ha w hA)
  obtain ⟨N, hNN⟩ : ∃ N, num a = N := ⟨_, rfl⟩
  rw [hNN] at f1 cA
  rw [hNN]
  obtain ⟨x, hx⟩ : ∃ x, Natm.size 256 N = x := ⟨_, rfl⟩
  rw [hx] at f1 cA
  have ga : Hid (∀ i, i < x → (dig 256 N)[i]? = some (N / 256 ^ i % 256)) := fun i h => by unfold dig; rw [hx]; exact digs_get _ _ _ _ h
  have za : Hid (N / 256 ^ x = 0) := beyond (by decide) (Nat.le_of_eq hx)
  have lN : Hid (N < 256 ^ x) := by show N < 256 ^ x; rw [← hx]; exact lt_size (by decide) N
  clear hA ha hNN hx
  go_enter Tryd.func21, Tryd.ntmps21
  go_wp2_with fail
  refine hM.out.mono ?_
  rintro e w' ⟨rfl, rfl⟩
  go_wp2_with fail
  refine cA.out.mono ?_
  rintro e w1 ⟨A1, c1, rfl, hL, _, hb⟩
  have l1 := Lib.hid hL
  have b1 := Lib.hid hb
  clear hL hb
  go_wp2
  go_loopw [4, 5] (fun v i wr => ∃ (j : Nat) (z : Int), j ≤ x ∧ z = (j : Int) - 1 ∧ i = .int .i64 z ∧ wr.ownsRow w1.heap.size 3 1 v (tl (N / 256 ^ j)) ((ten (N / 256 ^ j)).map I) ∧ Below w1.heap.size w1 wr) (fun _ i _ => (intOf i + 1).toNat)
  case atStart => exact ⟨x, _, Nat.le_refl _, rfl, rfl, by rw [za.out]; exact ⟨rfl, .inr ⟨w1.heap.size, 1, #[I 0], rfl, Nat.le_refl _, Has.new w1 3 #[I 0], Nat.le_refl _, by unfold maxLen; omega, rfl, rfl⟩⟩, (Below.refl _ _).alloc (Nat.le_refl _) _⟩
  case round =>
    obtain ⟨j, zz, hj, hzj, rfl, hown, hb⟩ := hrel
    have o0 := Lib.hid hown
    have b0 := Lib.hid hb
    clear hown hb
    rcases Nat.eq_zero_or_pos j with h0 | h0
    · obtain rfl : zz = -1 := by omega
      have o1 := o0.out
      rw [h0, Nat.pow_zero, Nat.div_one] at o1
      clear hzj h0 hj
      obtain ⟨L, hL⟩ : ∃ L, tl N = L := ⟨_, rfl⟩
      have hL3 : L ≤ 3000 := by have := tl_few lN.out; omega
      have hLp : 0 < L := by have := tl_pos N; omega
      have htl : Hid ((ten N).length = L) := by show (ten N).length = L; rw [ten_digs, digs_len, hL]
      have hten : Hid (∀ d ∈ ten N, d < 10) := fun d hd => by rw [ten_digs] at hd; exact digs_lt (by decide) hd
      rw [hL] at o1
      obtain ⟨g, cap, rfl, _, _, _, _, hcell, _⟩ := own_form o1 hLp
      have hc' := Lib.hid hcell
      have gl : Hid (g < wr.heap.size) := World.block_lt_of_cell? wr ⟨g, 0, none⟩ (hcell 0 (I ((ten N)[0]'(by rw [htl.out]; exact hLp))) (by rw [List.getElem?_map, List.getElem?_eq_getElem (by rw [htl.out]; exact hLp)]; rfl))
      clear o1 o0 hcell hL
      go_wp2
      go_loopw [9, 10] (fun s i wq => ∃ (q : Nat) (z : Int), q ≤ L ∧ z = (q : Int) - 1 ∧ i = .int .i64 z ∧ s = .string (chars ((ten N).drop q).reverse) ∧ Below wr.heap.size wr wq) (fun _ i _ => (intOf i + 1).toNat)
      case atStart => exact ⟨L, _, Nat.le_refl _, rfl, rfl, by rw [List.drop_of_length_le (by rw [htl.out]; exact Nat.le_refl _)]; rfl, Below.refl _ _⟩
      case round =>
        obtain ⟨q, z2, hq, hz2', rfl, rfl, hb⟩ := hrel
        have b3 := Lib.hid hb
        clear hb
        rcases Nat.eq_zero_or_pos q with h00 | h00
        · have e1 : decide ((0 : Int) ≤ z2) = false := decide_eq_false (by omega)
          have e2 : Hid ((ten N).drop q = ten N) := by show (ten N).drop q = ten N; rw [h00]; rfl
          have hz9 := Lib.hid hz2'
          clear h00 hz2'
          go_wp2
          go_ret
          rw [e2.out]
          exact ⟨rfl, Below.after b1.out (b0.out.trans (b3.out.mono b0.out.size))⟩
        · obtain ⟨i, hij⟩ : ∃ i, q = i + 1 := ⟨q - 1, by omega⟩
          obtain rfl : z2 = (i : Int) := by omega
          have e1 : decide ((0 : Int) ≤ (i : Int)) = true := decide_eq_true (by omega)
          have hil : i < (ten N).length := by rw [htl.out]; omega
          obtain ⟨dg, hdg⟩ : ∃ dg, (ten N)[i] = dg := ⟨_, rfl⟩
          have dg9 : dg < 10 := by rw [← hdg]; exact hten.out _ (List.getElem_mem hil)
          have c0 := keep_cell b3.out (hc'.out i (I dg) (by rw [List.getElem?_map, List.getElem?_eq_getElem hil, hdg]; rfl))
          have hij' := Lib.hid hij
          have hdrop : Hid ((ten N).drop i = dg :: (ten N).drop q) := by show (ten N).drop i = dg :: (ten N).drop q; rw [hij'.out, ← hdg, List.drop_eq_getElem_cons hil]
          have hiL : i < L := by omega
          have hz3 := Lib.hid hz2'
          obtain ⟨bt, hbt⟩ : ∃ bt, UInt8.ofNat (48 + dg) = bt := ⟨_, rfl⟩
          have hbn : bt.toNat = 48 + dg := by rw [← hbt, UInt8.toNat_ofNat']; omega
          have hcv := fun W : World => run_convert_bytes_back (P := Tryd.prog) (W.alloc (.cells #[.int .u8 (48 + (dg : Int))] 5)) 54 9 5 ⟨W.heap.size, 0, none⟩ 1 [bt] Tryd.underlying54 Tryd.underlying5 Tryd.underlying9 (fun j hj => by
            obtain rfl : j = 0 := by simpa using hj
            have h1 := (Has.new W 5 #[.int .u8 (48 + (dg : Int))]).cell 0
            rw [add_none, Nat.zero_add, h1, List.getElem_cons_zero, hbn]
            rfl)
          simp only [List.length_singleton] at hcv
          obtain ⟨CH, hCH⟩ : ∃ CH, chars ((ten N).drop q).reverse = CH := ⟨_, rfl⟩
          obtain ⟨sz, hsz⟩ : ∃ sz, CH.size = sz := ⟨_, rfl⟩
          have hs3 : sz ≤ 3000 := by
            have : (chars ((ten N).drop q).reverse).size = L - q := by unfold chars ByteArray.size; simp [htl.out]
            rw [hCH, hsz] at this
            omega
          have hb1 : (ByteArray.mk #[bt]).size = 1 := rfl
          have hcat : Hid (chars ((ten N).drop i).reverse = CH ++ ⟨#[bt]⟩) := by
            show chars ((ten N).drop i).reverse = CH ++ ⟨#[bt]⟩
            rw [hdrop.out, List.reverse_cons, ← hCH, ← hbt]
            apply ByteArray.ext
            simp [chars, ByteArray.data_append]
          rw [hCH]
          clear hCH hbt hbn hdg hij hz2' hil
          go_wp2
          refine ⟨⟨i, _, by omega, rfl, rfl, by rw [hcat.out], b3.out.alloc b3.out.size _⟩, by simp [intOf]⟩
    · obtain ⟨i, hij⟩ : ∃ i, j = i + 1 := ⟨j - 1, by omega⟩
      obtain rfl : zz = (i : Int) := by omega
      have d1 : decide ((0 : Int) ≤ (i : Int)) = true := decide_eq_true (by omega)
      have hix : i < x := by omega
      obtain ⟨y, hy⟩ : ∃ y, N / 256 ^ i % 256 = y := ⟨_, rfl⟩
      have y8 : y ≤ 255 := by rw [← hy]; exact Nat.le_of_lt_succ (Nat.mod_lt _ (by decide))
      obtain ⟨R, hR⟩ : ∃ R, N / 256 ^ j = R := ⟨_, rfl⟩
      obtain ⟨T, hT⟩ : ∃ T, N / 256 ^ i = T := ⟨_, rfl⟩
      have hTR : T = 256 * R + y := by rw [← hR, hij, pow_step, hT, ← hy, hT]; omega
      have tb : tl T ≤ 3 * x + 1 := tl_few (Nat.lt_of_le_of_lt (by rw [← hT]; exact Nat.div_le_self _ _) lN.out)
      have tRT : tl R ≤ tl T := tl_le (by omega)
      have t1 := tl_pos R
      obtain ⟨ad, rfl, hb2, g1⟩ := (l1.out.next b0.out).at_ (k := i) (u := I y) (by rw [List.getElem?_map, ga.out i hix, hy]; rfl)
      rw [hR, ten_digs] at o0
      have hT' := Lib.hid hT
      have hTR' := Lib.hid hTR
      have hij' := Lib.hid hij
      have hzj' := Lib.hid hzj
      clear hR hT hTR hy hij hzj
      go_wp2
      go_loopw [4, 6, 7] (fun v u q wq => ∃ k cy L : Nat, k ≤ L ∧ tl R ≤ L ∧ L ≤ tl T ∧ (tl R ≤ k → True) ∧ (k < L → L = tl R) ∧ cy ≤ 255 ∧ T / 10 ^ k = 256 * (R / 10 ^ k) + cy ∧ u = .int .i64 cy ∧ q = .int .i64 k ∧ wq.ownsRow w1.heap.size 3 1 v L ((mixT T R k L).map I) ∧ Below w1.heap.size w1 wq) (fun _ _ q _ => tl T + 1 - (intOf q).toNat)
      case atStart => exact ⟨0, y, tl R, Nat.zero_le _, Nat.le_refl _, tRT, fun _ => trivial, fun _ => rfl, y8, by simpa using hTR'.out, rfl, rfl, by rw [mixT_start]; exact o0.out, b0.out⟩
      case round =>
        obtain ⟨k, cy, L, hkL, hRL, hLT, _, hkR, hcy, hX, rfl, rfl, hown, hb⟩ := hrel
        have oK := Lib.hid hown
        have bK := Lib.hid hb
        have hL0 : 0 < L := by omega
        obtain ⟨g, cap, rfl, hgb, hgw, hLc, hcm, hcell, hfz⟩ := own_form hown hL0
        have hcell' := Lib.hid hcell
        obtain ⟨X, hXX⟩ : ∃ X, R / 10 ^ k = X := ⟨_, rfl⟩
        obtain ⟨Y, hYY⟩ : ∃ Y, T / 10 ^ k = Y := ⟨_, rfl⟩
        rw [hXX, hYY] at hX
        obtain ⟨dg, hdg⟩ : ∃ dg, X % 10 = dg := ⟨_, rfl⟩
        have dg9 : dg ≤ 9 := by omega
        obtain ⟨s, hs⟩ : ∃ s, dg * 256 + cy = s := ⟨_, rfl⟩
        obtain ⟨e1, e2⟩ := text_step (s := s) hX (by rw [hdg]; exact hs)
        obtain ⟨z, hz⟩ : ∃ z, s % 10 = z := ⟨_, rfl⟩
        obtain ⟨t, ht⟩ : ∃ t, s / 10 = t := ⟨_, rfl⟩
        have t8 : t ≤ 255 := by omega
        have hX2 : Hid (T / 10 ^ (k + 1) = 256 * (R / 10 ^ (k + 1)) + t) := by show T / 10 ^ (k + 1) = 256 * (R / 10 ^ (k + 1)) + t; rw [ten_step, ten_step R, hXX, hYY, e2, ht]
        have hzT : T / 10 ^ k % 10 = z := by rw [hYY, e1, hz]
        have hset := Lib.hid (fun M (h : k < M) => mixT_set T R k M z hzT h)
        have hat := Lib.hid (mixT_get T R k L (Nat.le_trans (tl_size R) hRL))
        have hmax : L ≤ 3000 := by omega
        have hLie := LieV.of_own (by rw [List.length_map, mixT_len]) hmax hown
        obtain ⟨_, _, he, hLi, _⟩ := hLie
        cases he
        have aD := Lib.hid (at7_is (d := dg) (z := (k : Int)) (i := k) rfl (by rw [hat.out, hXX]; exact hdg) hLi)
        have hmore := Lib.hid (fun (h : tl R ≤ k) => mixT_more T R k (beyond_tl h))
        have hpos : Hid (tl R ≤ k → 0 < cy → k + 1 ≤ tl T) := fun h1 h2 => tl_more (by rw [hYY, hX]; omega)
        have hdone : Hid (tl R ≤ k → cy = 0 → L = k → tl T ≤ L) := fun h1 h2 h3 => by
          refine tl_least (by omega) (size_le (by decide) ?_)
          have h4 : X = 0 := by rw [← hXX]; exact beyond_tl h1
          have h5 : Y = 0 := by rw [hX, h4, h2]
          rw [← hYY] at h5
          rcases Nat.lt_or_ge T (10 ^ L) with h6 | h6
          · exact h6
          · exfalso; rw [h3] at h6; have := Nat.div_pos h6 (Nat.pow_pos (by decide)); omega
        have hsI : (dg : Int) * 256 + (cy : Int) = (s : Int) := by omega
        have zI : (s : Int) % 10 = (z : Int) := by omega
        have tI : (s : Int) / 10 = (t : Int) := by omega
        have s9 : s ≤ 3000 := by omega
        clear hown hb hcell hX hXX hYY hdg hs e1 e2 hz ht hzT hLi
        by_cases h1 : k < L
        · have c1' : decide ((k : Int) < (L : Int)) = true := decide_eq_true (by omega)
          have c2' : ((k : Int) == (L : Int)) = false := by simp; omega
          have hk9 := hkR h1
          have hk9' := Lib.hid hk9
          have cK := hcell'.out k (I ((mixT T R k L)[k]'(by rw [mixT_len]; exact h1))) (by rw [List.getElem?_map, List.getElem?_eq_getElem (by rw [mixT_len]; exact h1)]; rfl)
          have fK := hfz k
          obtain ⟨cv, hcv⟩ : ∃ cv, (mixT T R k L)[k]'(by rw [mixT_len]; exact h1) = cv := ⟨_, rfl⟩
          simp only [hcv] at cK
          have o2 : Hid ((wr.setCell ⟨g, k, none⟩ (I z)).ownsRow w1.heap.size 3 1 (.slice (some ⟨g, 0, none⟩) L cap) L ((mixT T R (k + 1) L).map I)) := by
            have := own_set (k := k) oK.out (I z)
            rw [← List.map_set, hset.out L h1] at this
            exact this
          have b2 := Lib.hid (bK.out.setCell (p := ⟨g, k, none⟩) hgb (I z))
          clear hcv hfz hk9 hkR
          go_wp2_with (go_at_call 34; refine aD.out.mono ?_; rintro e w' ⟨rfl, rfl⟩)
          go_roundw
          case rel => exact ⟨k + 1, t, L, by omega, hRL, hLT, fun _ => trivial, fun _ => hk9'.out, t8, hX2.out, rfl, by go_num, o2.out, b2.out⟩
          case measure => simp [intOf]; omega
        · have hLk : L = k := by omega
          have hLk' := Lib.hid hLk
          have c1' : decide ((k : Int) < (L : Int)) = false := decide_eq_false (by omega)
          have c2' : ((k : Int) == (L : Int)) = true := by simp; omega
          have hRk : tl R ≤ k := by omega
          have hRk' := Lib.hid hRk
          by_cases h2 : 0 < cy
          · have c3' : decide ((0 : Int) < (cy : Int)) = true := decide_eq_true (by omega)
            have hk1 := hpos.out hRk h2
            have hkL9 : k ≤ L := Nat.le_of_eq hLk.symm
            have hkL8 : L ≤ k := Nat.le_of_eq hLk
            clear hLk
            go_wp2_with (first | (go_at_call 34; refine aD.out.mono ?_; rintro e w' ⟨rfl, rfl⟩) | (at_builtin; refine wpList_append_row rfl _ _ 47 rfl w1.heap.size 3 i0 (.int .i64 0) 1 8 Tryd.underlying47 hi hz0 hz1 hz2 rfl (by decide) _ L _ rfl (oK.out.alloc _) (some ⟨wr.heap.size, 0, none⟩) 1 1 [I 0] rfl (by simp) (Nat.le_refl _) rfl _ (Has.new wr 3 #[I 0]).row (ints_one [0]) (by unfold maxLen; omega) (by omega) (by have := bK.out.size; simp; omega) ?_))
            intro v' w3 hown hgrow
            have b3 := Lib.hid ((bK.out.alloc bK.out.size (.cells #[I 0] 3)).grown hgrow (by have := bK.out.size; simp; omega) (fun r e => (oK.out.lt r e).1))
            have o3 : w3.ownsRow w1.heap.size 3 1 v' (L + 1) ((mixT T R k (k + 1)).map I) := by
              rw [← hmore.out hRk, List.map_append]
              have := hown
              rw [hLk'.out] at this
              rw [hLk'.out]
              exact this
            clear hown hgrow
            obtain ⟨g2, cap2, rfl, hgb2, hgw2, hLc2, hcm2, hcell2, hfz2⟩ := own_form o3 (by omega)
            have hlk : k < (mixT T R k (k + 1)).length := by rw [mixT_len]; omega
            have cK := hcell2 k (I ((mixT T R k (k + 1))[k]'hlk)) (by rw [List.getElem?_map, List.getElem?_eq_getElem hlk]; rfl)
            have fK := hfz2 k
            obtain ⟨cv, hcv⟩ : ∃ cv, (mixT T R k (k + 1))[k]'hlk = cv := ⟨_, rfl⟩
            simp only [hcv] at cK
            have o2 : Hid ((w3.setCell ⟨g2, k, none⟩ (I z)).ownsRow w1.heap.size 3 1 (.slice (some ⟨g2, 0, none⟩) (L + 1) cap2) (L + 1) ((mixT T R (k + 1) (k + 1)).map I)) := by
              have := own_set (k := k) o3 (I z)
              rw [← List.map_set, hset.out (k + 1) (by omega)] at this
              exact this
            have b2 := Lib.hid (b3.out.setCell (p := ⟨g2, k, none⟩) hgb2 (I z))
            clear hcv hfz hfz2 hcell2 o3 hkR hlk
            go_wp2
            go_roundw
            case rel => exact ⟨k + 1, t, L + 1, by omega, by omega, by omega, fun _ => trivial, fun hh => by omega, t8, hX2.out, rfl, by go_num, by rw [hLk'.out] at o2 ⊢; exact o2.out, b2.out⟩
            case measure => simp [intOf]; omega
          · have c3' : decide ((0 : Int) < (cy : Int)) = false := decide_eq_false (by omega)
            have hle := hdone.out hRk (by omega) hLk
            have hLT2 : L = tl T := by omega
            have oE : Hid (wr.ownsRow w1.heap.size 3 1 (.slice (some ⟨g, 0, none⟩) L cap) (tl (N / 256 ^ i)) ((ten (N / 256 ^ i)).map I)) := by
              show wr.ownsRow w1.heap.size 3 1 (.slice (some ⟨g, 0, none⟩) L cap) (tl (N / 256 ^ i)) ((ten (N / 256 ^ i)).map I)
              rw [hT'.out, ten_digs, ← hLT2, ← mixT_all T R L]
              have := oK.out
              rw [← hLk] at this
              exact this
            clear hLk hle hLT2 hdone
            go_wp2
            go_roundw
            case rel => exact ⟨i, _, by omega, rfl, rfl, oE.out, bK.out⟩
            case measure => simp [intOf]
theorem refText7_any (A : Option Addr) (n c : Nat) (a : List Nat) (w : World) (hA : LieW w A n c a) : Calls Tryd.prog 21 #[.slice A n c] w fun e w' => e = .returned (.string (textL a)) ∧ Below w.heap.size w w' := by
  unfold textL
  cases ha : mayL a with
  | false => exact refText7_no A n c a ha w hA
  | true => exact refText7_yes A n c a ha w hA
end Go.Proofs.YtmndfncogkjjpaaDoor
