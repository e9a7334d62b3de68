/- Package nat, as it landed: Text. -/
import Derived.Test.YtmndfncogkjjpaaDoorN7Grp
import Derived.Test.YtmndfncogkjjpaaDoorN7Rep
import Derived.Test.YtmndfncogkjjpaaDoorN7TMath
import Derived.Lib.BufferWrite
namespace Go.Proofs.YtmndfncogkjjpaaDoor
open Go.RowKit Go.Proofs.Natm
set_option maxRecDepth 100000

theorem cut_block2 {P : Program} {T E : TypeId} (ht : P.underlying T = some (.slice E)) (hz : ∀ W, (sizeOf E).run P W = .ok 1 W) (g L i k r c : Nat) (y z : Int) (hy : y = (i : Int)) (he : z = (k : Int)) (hik : i < k) (hk : k ≤ L) (hr : k - i = r) (hc : L - i = c) :
    ∀ W, (Instr.slice T (.slice (some ⟨g, 0, none⟩) L L) (some (.int .i64 y)) (some (.int .i64 z)) none).run P W = .ok (.slice (some ⟨g, i, none⟩) r c) W := by
  intro W
  subst hy he
  have hi' : (i : Int) ≤ (k : Int) := by omega
  have hk' : (k : Int) ≤ (L : Int) := by omega
  have hne : ¬ L = i := by omega
  subst hr hc
  simp [Instr.slice, run_underlying ht, Instr.sliceBounds, run_sliceBound, hz, hi', hk', Result.andThen, hne, add_none]

set_option maxHeartbeats 1000000 in
theorem natText_no (A : Option Addr) (n c : Nat) (a : List Nat) (ha : mayL a = false) (w : World) (hA : LieW w A n c a) : Calls Tryd.prog 20 #[.slice A n c] w fun e w' => e = .returned (.string ⟨#[]⟩) ∧ Below w.heap.size w w' := by
  have hM := Lib.hid (natMay_is ha hA)
  clear hA
  go_enter Tryd.func20, Tryd.ntmps20
  go_wp2_with (go_at_call 16; refine hM.out.mono ?_; rintro e w' ⟨rfl, rfl⟩)
  go_ret
  exact ⟨rfl, Below.refl _ _⟩
set_option maxHeartbeats 1000000 in
theorem natText_none (A : Option Addr) (c : Nat) (w : World) (hA : LieW w A 0 c []) : Calls Tryd.prog 20 #[.slice A 0 c] w fun e w' => e = .returned (.string ⟨#[48]⟩) ∧ Below w.heap.size w w' := by
  have hM := Lib.hid (natMay_is (t := true) rfl hA)
  clear hA
  go_enter Tryd.func20, Tryd.ntmps20
  go_wp2_with (go_at_call 16; refine hM.out.mono ?_; rintro e w' ⟨rfl, rfl⟩)
  go_ret
  exact ⟨rfl, Below.refl _ _⟩

set_option maxHeartbeats 8000000 in
theorem natText_yes (ad : Addr) (n c N : Nat) (hN : Natm.size Wd N = n) (hn : n ≤ 128) (h0 : 0 < n) (w : World) (hT : Tens w) (hA : LieW w (some ad) n c (dig Wd N)) (hm : mayL (dig Wd N) = true) : Calls Tryd.prog 20 #[.slice (some ad) n c] w fun e w' => e = .returned (.string ⟨((ten N).reverse.map ch).toArray⟩) ∧ Below w.heap.size w w' := by
  have hM := Lib.hid (natMay_is hm hA)
  have hN0 : N ≠ 0 := fun h => by rw [h, size_zero] at hN; omega
  have hne : ((n : Int) == 0) = false := by simp; omega
  obtain ⟨q, hq⟩ : ∃ q, Natm.size Gr N = q := ⟨_, rfl⟩
  have hG := Lib.hid (groups_any ad n c N q hN hn h0 hq w hA)
  have hNq : N < 1000000000 ^ q := by rw [← hq]; exact lt_size (by decide) N
  have hq1 : 1 ≤ q := by rw [← hq, size_pos (by decide) hN0]; omega
  have hq2 : q ≤ 256 := by
    have := group_few (N := N) (n := n) (by rw [← hN]; exact lt_size (by decide) N)
    omega
  have hall := Lib.hid (written_all hN0 hNq)
  obtain ⟨L, hL⟩ : ∃ L, 9 * q = L := ⟨_, rfl⟩
  have hLI : (9 : Int) * (q : Int) = (L : Int) := by omega
  have hL1 : 1 ≤ L := by omega
  have hL2 : L ≤ 2400 := by omega
  rw [hL] at hall
  have hL' := Lib.hid hL
  have hT' := Lib.hid hT
  clear hA hm hN hN0 hNq hq hL hT
  go_enter Tryd.func20, Tryd.ntmps20
  go_wp2_with fail
  refine hM.out.mono ?_
  rintro e w' ⟨rfl, rfl⟩
  go_wp2_with fail
  refine hG.out.mono ?_
  rintro e w1 ⟨A1, c1, rfl, hl, _, hb⟩
  have l1 := Lib.hid hl
  have b1 := Lib.hid hb
  clear hl hb
  have hx := (Has.new w1 5 #[.int .u8 48]).cell 0
  have bx := (Below.refl w1.heap.size w1).alloc (Nat.le_refl _) (.cells #[.int .u8 48] 5)
  have hR := Lib.hid (repeat_any L w1.heap.size 1 48 hL1 (by omega) (w1.alloc (.cells #[.int .u8 48] 5)) hx)
  have bx' := Lib.hid bx
  clear hx bx
  go_wp2_with fail
  refine hR.out.mono ?_
  rintro e w2 ⟨g, rfl, hg, hs, hb⟩
  rw [← written_none N L] at hs
  have s2 := Lib.hid hs
  have b12 : Below w1.heap.size w1 w2 := bx'.out.trans (hb.mono bx'.out.size)
  have b2 := Lib.hid b12
  have hgg : w1.heap.size ≤ g := Nat.le_trans bx'.out.size hg
  clear hs hb b12 hg hR bx'
  go_wp2
  go_loopw [23] (fun i wr => ∃ k : Nat, k ≤ q ∧ i = .int .i64 k ∧ Starts wr g (written N L k) ∧ Below w1.heap.size w1 wr) (fun i _ => q - (intOf i).toNat)
  case atStart => exact ⟨0, Nat.zero_le _, rfl, s2.out, b2.out⟩
  case round =>
    obtain ⟨k, hk, rfl, hs, hb⟩ := hrel
    have s0 := Lib.hid hs
    have b0 := Lib.hid hb
    have l0 := Lib.hid (l1.out.next hb)
    have bw := Lib.hid (Below.after b1.out hb)
    clear hs hb
    by_cases hkq : k < q
    · obtain ⟨d, hd⟩ : ∃ d, N / 1000000000 ^ k % 1000000000 = d := ⟨_, rfl⟩
      have d9 : d < 1000000000 := by rw [← hd]; exact Nat.mod_lt _ (by decide)
      have d8 : d < 4294967296 := by omega
      obtain ⟨ad1, rfl, hb2, c2⟩ := l0.out.at_ (k := k) (u := U d) (by rw [List.getElem?_map, digs_get _ _ _ _ hkq]; unfold Gr; rw [hd]; rfl)
      have hF := Lib.hid (formatU_any d d8 wr (hT'.out.next bw.out))
      obtain ⟨ld, hld⟩ : ∃ ld, Lib.nDigits d = ld := ⟨_, rfl⟩
      have hld9 : ld ≤ 9 := by rw [← hld]; exact nd_le 9 d (by decide) (by omega)
      have hld1 : 1 ≤ ld := by rw [← hld]; exact Lib.nDigits_pos d
      obtain ⟨S, hS⟩ : ∃ S : ByteArray, (⟨(Lib.decDigits d).toArray⟩ : ByteArray) = S := ⟨_, rfl⟩
      have hSs : S.size = ld := by rw [← hS, ← hld, ← Lib.decDigits_length]; rfl
      have hSd : S.data.toList = Lib.decDigits d := by rw [← hS]
      rw [hS] at hF
      have hSs' := Lib.hid hSs
      have hSd' := Lib.hid hSd
      have hd' := Lib.hid hd
      have hld' := Lib.hid hld
      clear hd hld hS hSs hSd
      go_wp2_with fail
      refine hF.out.mono ?_
      rintro e w3 ⟨rfl, hb3⟩
      obtain ⟨cur, hcur, hbs⟩ := s0.out.next hb3
      have b3 := Lib.hid (Below.after b0.out hb3)
      obtain ⟨o, ho⟩ : ∃ o, o + ld + 9 * k = L := ⟨L - 9 * k - ld, by have := hL'.out; omega⟩
      obtain ⟨en, hen⟩ : ∃ en, o + ld = en := ⟨_, rfl⟩
      have e1 : (9 : Int) * (k : Int) = ((9 * k : Nat) : Int) := by omega
      obtain ⟨nk, hnk⟩ : ∃ nk, 9 * k = nk := ⟨_, rfl⟩
      rw [hnk] at e1
      have e2 : (L : Int) - (nk : Int) = (en : Int) := by omega
      have e3 : (en : Int) - (ld : Int) = (o : Int) := by omega
      have hcl : L ≤ cur.length := by
        have := hbs (L - 1) _ (written_get N L k (L - 1) (by omega))
        have := (List.getElem?_eq_some_iff.1 this).1
        omega
      obtain ⟨cc, hcc⟩ : ∃ cc, L - o = cc := ⟨_, rfl⟩
      have hcut := cut_block2 (P := Tryd.prog) Tryd.underlying54 size_u8 g L o en ld cc (o : Int) (en : Int) rfl rfl (by omega) (by omega) (by omega) hcc
      have hcp := Lib.run_copy_row_string (P := Tryd.prog) w3 54 9 3 5 g o ld cc S cur.toArray 5 Tryd.underlying54 info_u8 hcur (by rw [hSs'.out]; exact Nat.le_refl _) (by rw [hSs'.out]; simp; omega)
      rw [hSs'.out] at hcp
      obtain ⟨news, hnews⟩ : ∃ news : Array Value, (cur.toArray.toList.take o ++ Lib.byteCells S.data.toList ++ cur.toArray.toList.drop (o + ld)).toArray = news := ⟨_, rfl⟩
      rw [hnews] at hcp
      obtain ⟨w4, hw4⟩ : ∃ w4, w3.setRow g news = w4 := ⟨_, rfl⟩
      rw [hw4] at hcp
      have b4 : Hid (Below w1.heap.size w1 w4) := by show Below _ _ _; rw [← hw4]; exact below_setRow b3.out hgg _
      have s4 : Hid (Starts w4 g (written N L (k + 1))) := by
        refine ⟨news.toList, by rw [Array.toArray_toList, ← hw4]; exact setRow_heap w3 g _ news 5 _ hcur, fun p b hp => ?_⟩
        have hpL : p < L := by rw [← written_len N L (k + 1)]; exact (List.getElem?_eq_some_iff.1 hp).1
        rw [written_get _ _ _ _ hpL, place_next hd'.out hld'.out ho hld9 hpL] at hp
        rw [← hnews, List.append_assoc]
        have hlb : (Lib.byteCells S.data.toList).length = ld := by rw [Lib.byteCells_length, hSd'.out, Lib.decDigits_length, hld'.out]
        have hcell := fun h => hbs p _ (written_get N L k p h)
        have hto : (cur.take o).length = o := by rw [List.length_take]; omega
        show (cur.take o ++ (Lib.byteCells S.data.toList ++ cur.drop (o + ld)))[p]? = _
        by_cases h1 : p < o
        · rw [if_pos h1] at hp
          rw [List.getElem?_append_left (by omega), List.getElem?_take, if_pos h1, hcell hpL]
          rw [Option.some.inj hp]
        · rw [if_neg h1] at hp
          rw [List.getElem?_append_right (by omega), hto]
          by_cases h2 : p < o + ld
          · rw [if_pos h2] at hp
            rw [List.getElem?_append_left (by omega), hSd'.out]
            unfold Lib.byteCells
            rw [List.getElem?_map, dec_get hld'.out (by omega), ← Option.some.inj hp]
            rfl
          · rw [if_neg h2] at hp
            rw [List.getElem?_append_right (by omega), hlb, List.getElem?_drop, show o + ld + (p - o - ld) = p by omega, hcell hpL]
            rw [Option.some.inj hp]
      have hsz : S.size = ld := hSs'.out
      clear hb3 hcur hbs hnews hw4 hcl hcc ho hen hnk
      go_wp2
      exact ⟨⟨k + 1, by omega, by go_num, s4.out, b4.out⟩, by simp [intOf]; omega⟩
    · obtain rfl : k = q := by omega
      have hcv : (convert 54 9 (.slice (some ⟨g, 0, none⟩) L L)).run Tryd.prog wr = .ok (.string ⟨(written N L k).toArray⟩) wr := by
        have h := run_convert_bytes_back (P := Tryd.prog) wr 54 9 5 ⟨g, 0, none⟩ L (written N L k) Tryd.underlying54 Tryd.underlying5 Tryd.underlying9 (fun j hj => by
          rw [add_none, Nat.zero_add]
          exact s0.out.cell (List.getElem?_eq_getElem hj))
        rw [written_len] at h
        exact h
      obtain ⟨TX, hTX⟩ : ∃ TX : ByteArray, (⟨(written N L k).toArray⟩ : ByteArray) = TX := ⟨_, rfl⟩
      rw [hTX] at hcv
      have htr := Lib.hid (trimLeft_any TX wr)
      have hd : Hid ((⟨(Lib.trimLeftB TX.data.toList 48).toArray⟩ : ByteArray) = ⟨((ten N).reverse.map ch).toArray⟩) := by
        show (⟨(Lib.trimLeftB TX.data.toList 48).toArray⟩ : ByteArray) = ⟨((ten N).reverse.map ch).toArray⟩
        rw [← hTX, ← hall.out]
      clear hTX
      go_wp2_with fail
      refine htr.out.mono ?_
      rintro e w9 ⟨rfl, rfl⟩
      go_wp2
      go_ret
      exact ⟨congrArg (fun s => Ending.returned (Value.string s)) hd.out, bw.out⟩
theorem natText_any (A : Option Addr) (n c : Nat) (a : List Nat) (t : ByteArray) (W : World) (ht : textL a = t) (hT : Tens W) (hA : LieW W A n c a) : Calls Tryd.prog 20 #[.slice A n c] W fun e w' => e = .returned (.string t) ∧ Below W.heap.size W w' := by
  unfold textL at ht
  subst ht
  cases ha : mayL a with
  | false => exact natText_no A n c a ha W hA
  | true =>
    obtain ⟨da, sa, n8, _, _⟩ := num_of_may ha hA
    rcases Nat.eq_zero_or_pos n with h0 | h0
    · subst h0
      have hl := hA.len
      obtain rfl : a = [] := List.eq_nil_of_length_eq_zero hl
      exact natText_none A c W hA
    · have hh : ∃ ad, A = some ad := by
        obtain ⟨ad, e, _⟩ := hA.lie.at_ (k := 0) (u := U (a[0]'(by rw [hA.len]; exact h0))) (by rw [List.getElem?_map, List.getElem?_eq_getElem (by rw [hA.len]; exact h0)]; rfl)
        exact ⟨ad, e⟩
      obtain ⟨ad, rfl⟩ := hh
      have hA2 := hA
      rw [da] at hA2
      have ha2 := ha
      rw [da] at ha2
      exact natText_yes ad n c (num a) sa n8 h0 W hT hA2 ha2
end Go.Proofs.YtmndfncogkjjpaaDoor
