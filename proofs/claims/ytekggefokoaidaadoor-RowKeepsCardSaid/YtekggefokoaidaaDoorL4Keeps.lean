/- The statement RowKeeps of layer 4, walked. -/
import Derived.Test.YtekggefokoaidaaDoorL4Step
import Derived.Test.YtekggefokoaidaaDoorL4Alive
namespace Go.Proofs.YtekggefokoaidaaDoor
open Go.RowKit Go.Shelf Go.Proofs.Rowm

set_option maxRecDepth 100000 in
set_option maxHeartbeats 2000000 in
theorem rowKeeps_many (o : Nat) (A : Option Addr) (n c : Nat) (key : BitVec 64) (hn : 100 < n) (hc : n ≤ maxLen) (w : World) (h0 : 0 < w.heap.size) (hs : Steps w) :
    Calls Tryd.prog 4 #[.int .u8 o, .slice A n c, K key] w fun e w' => e = .returned (.bool true) ∧ Below w.heap.size w w' := by
  unfold maxLen at hc
  have hs' := Lib.hid hs
  clear hs
  have hd : (100 : Int) < (n : Int) := by omega
  go_enter Tryd.func4, Tryd.ntmps4
  go_wp2_with fail
  refine (alive4_any _ h0 hs'.out).mono ?_
  rintro e w1 ⟨rfl, hb⟩
  have b1 := Lib.hid hb
  clear hb
  go_wp2
  go_ret
  exact ⟨rfl, b1.out⟩

/-- what holds at the head of each round -/
def RoundK (o : Nat) (key : BitVec 64) (N : Nat) (w : World) (v7 v8 v9 v10 : Value) (wr : World) : Prop :=
  ∃ k r A n c v t, k ≤ N ∧ n ≤ k ∧ v7 = .slice A n c ∧ v8 = K v ∧ v9 = .bool t ∧ v10 = .int .i64 (k : Int) ∧ Here wr A n c r ∧ Keep o key r v t ∧ Below w.heap.size w wr

set_option maxRecDepth 100000 in
set_option maxHeartbeats 40000000 in
theorem rowKeeps_few (o : Nat) (ho : o ≤ 255) (A0 : Option Addr) (N C : Nat) (l : List St) (key : BitVec 64) (hl : l.length = N) (hN : N ≤ 100) (w : World) (h0 : 0 < w.heap.size) (hs : Steps w) (hr : Row w w.heap.size A0 (flatS l)) :
    Calls Tryd.prog 4 #[.int .u8 o, .slice A0 N C, K key] w fun e w' => e = .returned (.bool true) ∧ Below w.heap.size w w' := by
  have hd : ¬ ((100 : Int) < (N : Int)) := by omega
  obtain ⟨q, hq⟩ : ∃ q : Nat, 1 + o % 7 = q := ⟨_, rfl⟩
  have hq1 : 1 ≤ q := by omega
  have hq7 : q ≤ 7 := by omega
  have hmq : 1 + (o : Int) % 7 = (q : Int) := by omega
  clear hq
  have hs' := Lib.hid hs
  have hr' := Lib.hid hr
  have hl' := Lib.hid hl
  clear hs hr hl
  go_enter Tryd.func4, Tryd.ntmps4
  go_wp2
  go_loopw [7, 8, 9, 10] (fun v7 v8 v9 v10 wr => RoundK q key N w v7 v8 v9 v10 wr) (fun _ _ _ v10 _ => N - (intOf v10).toNat)
  case atStart => exact ⟨0, [], none, 0, 0, 0#64, false, Nat.zero_le _, Nat.zero_le _, rfl, rfl, rfl, rfl, ⟨rfl, by omega, by omega, fun _ => rfl, h0, hs'.out, Row.none_ _ _ _⟩, keep_nil hq1 hq7, Below.refl _ _⟩
  case round =>
    obtain ⟨k, r, A, n, c, v, t, hk, hnk, rfl, rfl, rfl, rfl, hh0, hkp0, hb0⟩ := hrel
    have hh := Lib.hid hh0
    have hkp := Lib.hid hkp0
    have b0 := Lib.hid hb0
    clear hh0 hkp0 hb0
    by_cases hlt : k < N
    · have hkl : k < l.length := by rw [hl'.out]; exact hlt
      obtain ⟨ad, rfl, _, g1, g2, g3⟩ := step_at (hr'.out.next b0.out) k hkl
      obtain ⟨xk, hxk⟩ : ∃ y, l[k].1.1 = y := ⟨_, rfl⟩
      obtain ⟨xv, hxv⟩ : ∃ y, l[k].1.2 = y := ⟨_, rfl⟩
      obtain ⟨d, hxd⟩ : ∃ y, l[k].2 = y := ⟨_, rfl⟩
      rw [hxk] at g1
      rw [hxv] at g2
      rw [hxd] at g3
      clear hxk hxv hxd
      obtain ⟨i, j, ha0⟩ : ∃ i j, At q r xk i j := ⟨_, _, at_of (mayB_parts hkp.out.may).2.2 xk⟩
      have ha := Lib.hid ha0
      clear ha0
      obtain ⟨wv, hwv0⟩ : ∃ y, valAt r i j = y := ⟨_, rfl⟩
      have hwv := Lib.hid hwv0
      clear hwv0
      have hlen := hh.out.len
      have hij := ha.out.le
      have hij1 := ha.out.one
      have hjl := ha.out.len
      have hle := Lib.hid (ha.out.len_drop)
      have hlp := Lib.hid (ha.out.len_put (p := 3) (x := (xk, xv)))
      have hsum0 : wrap64 (wv.toInt + xv.toInt) = (wv + xv).toInt := i_add wv xv
      obtain ⟨nv, hnv⟩ : ∃ y, wv + xv = y := ⟨_, rfl⟩
      rw [hnv] at hsum0
      have hsum' := Lib.hid hsum0
      clear hsum0
      have hk1 : k + 1 ≤ N := hlt
      have hnv' := Lib.hid hnv
      clear hnv
      by_cases hlt2 : i < j
      · have hst : Hid (decide (i < j) = true) := by show decide (i < j) = true; simp; omega
        cases d with
        | true =>
          go_wp2_with fail
          have x0 := Lib.hid (Has.new wr 24 #[K xk, K xv])
          have k0 := Lib.hid (below_new wr (.cells #[K xk, K xv] 24))
          refine (get_named hkp.out.may ha.out hst.out hwv.out (hh.out.next k0.out)).mono ?_
          rintro e w3 ⟨rfl, hb⟩
          have hh3 := Lib.hid ((hh.out.next k0.out).next hb)
          have b3 := Lib.hid (Below.after (Below.after b0.out k0.out) hb)
          have x3 := Lib.hid (x0.out.next hb)
          have z0 := x3.out.c0
          have z1 := x3.out.c1
          have g4 := keep_cell hb (keep_cell k0.out g3)
          clear hb x0 k0 g1 g2 g3
          obtain ⟨s, hsd⟩ : ∃ s, dropAt r i j = s := ⟨_, rfl⟩
          obtain ⟨m, hm⟩ : ∃ m, s.length = m := ⟨_, rfl⟩
          have hmn : m + 1 = n := by have := hle.out; rw [hsd, hm] at this; omega
          have h9 : m ≤ 900 := by omega
          have hmk : m ≤ k + 1 := by omega
          have hmi : wrap64 ((n : Int) - 1) = (n : Int) - 1 := IntWalk.wrap64_in _ ⟨by omega, by omega⟩
          have hmj : (m : Int) = (n : Int) - 1 := by omega
          have hsd' := Lib.hid hsd
          have hm' := Lib.hid hm
          clear hsd hm
          go_wp2_with fail
          refine (drop_named hkp.out.may ha.out hst.out hsd'.out hm'.out h9 hh3.out).mono ?_
          rintro e w4 ⟨A4, c4, rfl, hh4, hb⟩
          have hz := Lib.hid hh4
          have bz := Lib.hid (Below.after b3.out hb)
          have x4 := Lib.hid (x3.out.next hb)
          have y0 := x4.out.c0
          have y1 := x4.out.c1
          clear hb hh4 x3 z0 z1 g4
          by_cases he : xk = key
          · subst he
            have hn := Lib.hid (hsd'.out ▸ Keep.drop_same hkp.out ha.out : Keep q xk s v false)
            go_wp2_with fail
            refine (Keep.get_not hn.out hz.out).mono ?_
            rintro e w5 ⟨⟨gg, rfl⟩, hb⟩
            have hh5 := Lib.hid (hz.out.next hb)
            have b5 := Lib.hid (Below.after bz.out hb)
            clear hb
            go_wp2_with fail
            refine (rowMay_is hn.out.may hh5.out.len hh5.out.k hh5.out.pos hh5.out.steps hh5.out.row).mono ?_
            rintro e w6 ⟨rfl, hb⟩
            have hh6 := Lib.hid (hh5.out.next hb)
            have b6 := Lib.hid (Below.after b5.out hb)
            clear hb
            go_wp2
            go_roundw
            case rel => exact ⟨k + 1, _, _, _, _, _, _, hk1, hmk, rfl, rfl, rfl, by go_num, hh6.out, hn.out, b6.out⟩
            case measure => simp [intOf]; omega
          · have hbq : (xk.toInt == key.toInt) = false := by rw [i_beq]; exact decide_eq_false he
            have he' : Hid (xk ≠ key) := he
            clear he
            cases t with
            | false =>
              have hn := Lib.hid (hsd'.out ▸ Keep.drop_other hkp.out ha.out he'.out : Keep q key s v false)
              go_wp2_with fail
              refine (Keep.get_not hn.out hz.out).mono ?_
              rintro e w5 ⟨⟨gg, rfl⟩, hb⟩
              have hh5 := Lib.hid (hz.out.next hb)
              have b5 := Lib.hid (Below.after bz.out hb)
              clear hb
              go_wp2_with fail
              refine (rowMay_is hn.out.may hh5.out.len hh5.out.k hh5.out.pos hh5.out.steps hh5.out.row).mono ?_
              rintro e w6 ⟨rfl, hb⟩
              have hh6 := Lib.hid (hh5.out.next hb)
              have b6 := Lib.hid (Below.after b5.out hb)
              clear hb
              go_wp2
              go_roundw
              case rel => exact ⟨k + 1, _, _, _, _, _, _, hk1, hmk, rfl, rfl, rfl, by go_num, hh6.out, hn.out, b6.out⟩
              case measure => simp [intOf]; omega
            | true =>
              have hn := Lib.hid (hsd'.out ▸ Keep.drop_other hkp.out ha.out he'.out : Keep q key s v true)
              go_wp2_with fail
              refine (Keep.get_has hn.out hz.out).mono ?_
              rintro e w5 ⟨rfl, hb⟩
              have hh5 := Lib.hid (hz.out.next hb)
              have b5 := Lib.hid (Below.after bz.out hb)
              clear hb
              go_wp2_with fail
              refine (rowMay_is hn.out.may hh5.out.len hh5.out.k hh5.out.pos hh5.out.steps hh5.out.row).mono ?_
              rintro e w6 ⟨rfl, hb⟩
              have hh6 := Lib.hid (hh5.out.next hb)
              have b6 := Lib.hid (Below.after b5.out hb)
              clear hb
              go_wp2
              go_roundw
              case rel => exact ⟨k + 1, _, _, _, _, _, _, hk1, hmk, rfl, rfl, rfl, by go_num, hh6.out, hn.out, b6.out⟩
              case measure => simp [intOf]; omega
        | false =>
          go_wp2_with fail
          have x0 := Lib.hid (Has.new wr 24 #[K xk, K xv])
          have k0 := Lib.hid (below_new wr (.cells #[K xk, K xv] 24))
          refine (get_named hkp.out.may ha.out hst.out hwv.out (hh.out.next k0.out)).mono ?_
          rintro e w3 ⟨rfl, hb⟩
          have hh3 := Lib.hid ((hh.out.next k0.out).next hb)
          have b3 := Lib.hid (Below.after (Below.after b0.out k0.out) hb)
          have x3 := Lib.hid (x0.out.next hb)
          have z0 := x3.out.c0
          have z1 := x3.out.c1
          have g4 := keep_cell hb (keep_cell k0.out g3)
          clear hb x0 k0 g1 g2 g3
          obtain ⟨s, hsd⟩ : ∃ s, putAt 3 r (xk, xv) i j = s := ⟨_, rfl⟩
          obtain ⟨m, hm⟩ : ∃ m, s.length = m := ⟨_, rfl⟩
          obtain rfl : m = n := by have := hlp.out; rw [hsd, hm] at this; omega
          have h9 : m ≤ 900 := by omega
          have hmk : m ≤ k + 1 := by omega
          skip
          have hsd' := Lib.hid hsd
          have hm' := Lib.hid hm
          clear hsd hm
          go_wp2_with fail
          refine (put_named hkp.out.may ha.out hsd'.out hm'.out h9 hh3.out).mono ?_
          rintro e w4 ⟨A4, c4, rfl, hh4, hb⟩
          have hh4' := Lib.hid hh4
          have b4 := Lib.hid (Below.after b3.out hb)
          have x4 := Lib.hid (x3.out.next hb)
          have y0 := x4.out.c0
          have y1 := x4.out.c1
          clear hb hh4 x3 z0 z1 g4
          have hown := Lib.hid (hnv'.out ▸ hwv.out ▸ hsd'.out ▸ keep_put (x := xv) hkp.out.may ha.out : Keep q xk s nv true)
          go_wp2_with fail
          refine (Keep.get_has hown.out hh4'.out).mono ?_
          rintro e w5 ⟨rfl, hb⟩
          have hz := Lib.hid (hh4'.out.next hb)
          have bz := Lib.hid (Below.after b4.out hb)
          have x5 := Lib.hid (x4.out.next hb)
          clear y0 y1
          have y0 := x5.out.c0
          have y1 := x5.out.c1
          clear hb hh4' b4 x4
          have hsum := hsum'.out
          by_cases he : xk = key
          · subst he
            go_wp2_with fail
            refine (Keep.get_has hown.out hz.out).mono ?_
            rintro e w5 ⟨rfl, hb⟩
            have hh5 := Lib.hid (hz.out.next hb)
            have b5 := Lib.hid (Below.after bz.out hb)
            clear hb
            go_wp2_with fail
            refine (rowMay_is hown.out.may hh5.out.len hh5.out.k hh5.out.pos hh5.out.steps hh5.out.row).mono ?_
            rintro e w6 ⟨rfl, hb⟩
            have hh6 := Lib.hid (hh5.out.next hb)
            have b6 := Lib.hid (Below.after b5.out hb)
            clear hb
            go_wp2
            go_roundw
            case rel => exact ⟨k + 1, _, _, _, _, _, _, hk1, hmk, rfl, rfl, rfl, by go_num, hh6.out, hown.out, b6.out⟩
            case measure => simp [intOf]; omega
          · have hbq : (xk.toInt == key.toInt) = false := by rw [i_beq]; exact decide_eq_false he
            have he' : Hid (xk ≠ key) := he
            clear he
            cases t with
            | false =>
              have hn := Lib.hid (hsd'.out ▸ Keep.put_other hkp.out ha.out he'.out : Keep q key s v false)
              go_wp2_with fail
              refine (Keep.get_not hn.out hz.out).mono ?_
              rintro e w5 ⟨⟨gg, rfl⟩, hb⟩
              have hh5 := Lib.hid (hz.out.next hb)
              have b5 := Lib.hid (Below.after bz.out hb)
              clear hb
              go_wp2_with fail
              refine (rowMay_is hn.out.may hh5.out.len hh5.out.k hh5.out.pos hh5.out.steps hh5.out.row).mono ?_
              rintro e w6 ⟨rfl, hb⟩
              have hh6 := Lib.hid (hh5.out.next hb)
              have b6 := Lib.hid (Below.after b5.out hb)
              clear hb
              go_wp2
              go_roundw
              case rel => exact ⟨k + 1, _, _, _, _, _, _, hk1, hmk, rfl, rfl, rfl, by go_num, hh6.out, hn.out, b6.out⟩
              case measure => simp [intOf]; omega
            | true =>
              have hn := Lib.hid (hsd'.out ▸ Keep.put_other hkp.out ha.out he'.out : Keep q key s v true)
              go_wp2_with fail
              refine (Keep.get_has hn.out hz.out).mono ?_
              rintro e w5 ⟨rfl, hb⟩
              have hh5 := Lib.hid (hz.out.next hb)
              have b5 := Lib.hid (Below.after bz.out hb)
              clear hb
              go_wp2_with fail
              refine (rowMay_is hn.out.may hh5.out.len hh5.out.k hh5.out.pos hh5.out.steps hh5.out.row).mono ?_
              rintro e w6 ⟨rfl, hb⟩
              have hh6 := Lib.hid (hh5.out.next hb)
              have b6 := Lib.hid (Below.after b5.out hb)
              clear hb
              go_wp2
              go_roundw
              case rel => exact ⟨k + 1, _, _, _, _, _, _, hk1, hmk, rfl, rfl, rfl, by go_num, hh6.out, hn.out, b6.out⟩
              case measure => simp [intOf]; omega
      · have hst : Hid (decide (i < j) = false) := by show decide (i < j) = false; simp; omega
        cases d with
        | true =>
          go_wp2_with fail
          have x0 := Lib.hid (Has.new wr 24 #[K xk, K xv])
          have k0 := Lib.hid (below_new wr (.cells #[K xk, K xv] 24))
          refine (get_named hkp.out.may ha.out hst.out hwv.out (hh.out.next k0.out)).mono ?_
          rintro e w3 ⟨rfl, hb⟩
          have hh3 := Lib.hid ((hh.out.next k0.out).next hb)
          have b3 := Lib.hid (Below.after (Below.after b0.out k0.out) hb)
          have x3 := Lib.hid (x0.out.next hb)
          have z0 := x3.out.c0
          have z1 := x3.out.c1
          have g4 := keep_cell hb (keep_cell k0.out g3)
          clear hb x0 k0 g1 g2 g3
          obtain ⟨s, hsd⟩ : ∃ s, dropAt r i j = s := ⟨_, rfl⟩
          obtain ⟨m, hm⟩ : ∃ m, s.length = m := ⟨_, rfl⟩
          obtain rfl : m = n := by have := hle.out; rw [hsd, hm] at this; omega
          have h9 : m ≤ 900 := by omega
          have hmk : m ≤ k + 1 := by omega
          have hmi : wrap64 ((m : Int) - 1) = (m : Int) - 1 := IntWalk.wrap64_in _ ⟨by omega, by omega⟩
          skip
          have hsd' := Lib.hid hsd
          have hm' := Lib.hid hm
          clear hsd hm
          go_wp2_with fail
          refine (drop_named hkp.out.may ha.out hst.out hsd'.out hm'.out h9 hh3.out).mono ?_
          rintro e w4 ⟨A4, c4, rfl, hh4, hb⟩
          have hz := Lib.hid hh4
          have bz := Lib.hid (Below.after b3.out hb)
          have x4 := Lib.hid (x3.out.next hb)
          have y0 := x4.out.c0
          have y1 := x4.out.c1
          clear hb hh4 x3 z0 z1 g4
          by_cases he : xk = key
          · subst he
            have hn := Lib.hid (hsd'.out ▸ Keep.drop_same hkp.out ha.out : Keep q xk s v false)
            go_wp2_with fail
            refine (Keep.get_not hn.out hz.out).mono ?_
            rintro e w5 ⟨⟨gg, rfl⟩, hb⟩
            have hh5 := Lib.hid (hz.out.next hb)
            have b5 := Lib.hid (Below.after bz.out hb)
            clear hb
            go_wp2_with fail
            refine (rowMay_is hn.out.may hh5.out.len hh5.out.k hh5.out.pos hh5.out.steps hh5.out.row).mono ?_
            rintro e w6 ⟨rfl, hb⟩
            have hh6 := Lib.hid (hh5.out.next hb)
            have b6 := Lib.hid (Below.after b5.out hb)
            clear hb
            go_wp2
            go_roundw
            case rel => exact ⟨k + 1, _, _, _, _, _, _, hk1, hmk, rfl, rfl, rfl, by go_num, hh6.out, hn.out, b6.out⟩
            case measure => simp [intOf]; omega
          · have hbq : (xk.toInt == key.toInt) = false := by rw [i_beq]; exact decide_eq_false he
            have he' : Hid (xk ≠ key) := he
            clear he
            cases t with
            | false =>
              have hn := Lib.hid (hsd'.out ▸ Keep.drop_other hkp.out ha.out he'.out : Keep q key s v false)
              go_wp2_with fail
              refine (Keep.get_not hn.out hz.out).mono ?_
              rintro e w5 ⟨⟨gg, rfl⟩, hb⟩
              have hh5 := Lib.hid (hz.out.next hb)
              have b5 := Lib.hid (Below.after bz.out hb)
              clear hb
              go_wp2_with fail
              refine (rowMay_is hn.out.may hh5.out.len hh5.out.k hh5.out.pos hh5.out.steps hh5.out.row).mono ?_
              rintro e w6 ⟨rfl, hb⟩
              have hh6 := Lib.hid (hh5.out.next hb)
              have b6 := Lib.hid (Below.after b5.out hb)
              clear hb
              go_wp2
              go_roundw
              case rel => exact ⟨k + 1, _, _, _, _, _, _, hk1, hmk, rfl, rfl, rfl, by go_num, hh6.out, hn.out, b6.out⟩
              case measure => simp [intOf]; omega
            | true =>
              have hn := Lib.hid (hsd'.out ▸ Keep.drop_other hkp.out ha.out he'.out : Keep q key s v true)
              go_wp2_with fail
              refine (Keep.get_has hn.out hz.out).mono ?_
              rintro e w5 ⟨rfl, hb⟩
              have hh5 := Lib.hid (hz.out.next hb)
              have b5 := Lib.hid (Below.after bz.out hb)
              clear hb
              go_wp2_with fail
              refine (rowMay_is hn.out.may hh5.out.len hh5.out.k hh5.out.pos hh5.out.steps hh5.out.row).mono ?_
              rintro e w6 ⟨rfl, hb⟩
              have hh6 := Lib.hid (hh5.out.next hb)
              have b6 := Lib.hid (Below.after b5.out hb)
              clear hb
              go_wp2
              go_roundw
              case rel => exact ⟨k + 1, _, _, _, _, _, _, hk1, hmk, rfl, rfl, rfl, by go_num, hh6.out, hn.out, b6.out⟩
              case measure => simp [intOf]; omega
        | false =>
          go_wp2_with fail
          have x0 := Lib.hid (Has.new wr 24 #[K xk, K xv])
          have k0 := Lib.hid (below_new wr (.cells #[K xk, K xv] 24))
          refine (get_named hkp.out.may ha.out hst.out hwv.out (hh.out.next k0.out)).mono ?_
          rintro e w3 ⟨rfl, hb⟩
          have hh3 := Lib.hid ((hh.out.next k0.out).next hb)
          have b3 := Lib.hid (Below.after (Below.after b0.out k0.out) hb)
          have x3 := Lib.hid (x0.out.next hb)
          have z0 := x3.out.c0
          have z1 := x3.out.c1
          have g4 := keep_cell hb (keep_cell k0.out g3)
          clear hb x0 k0 g1 g2 g3
          obtain ⟨s, hsd⟩ : ∃ s, putAt 3 r (xk, xv) i j = s := ⟨_, rfl⟩
          obtain ⟨m, hm⟩ : ∃ m, s.length = m := ⟨_, rfl⟩
          have hmn : m = n + 1 := by have := hlp.out; rw [hsd, hm] at this; omega
          have h9 : m ≤ 900 := by omega
          have hmk : m ≤ k + 1 := by omega
          have hmj : (n : Int) + 1 = (m : Int) := by omega
          clear hmn
          have hsd' := Lib.hid hsd
          have hm' := Lib.hid hm
          clear hsd hm
          go_wp2_with fail
          refine (put_named hkp.out.may ha.out hsd'.out hm'.out h9 hh3.out).mono ?_
          rintro e w4 ⟨A4, c4, rfl, hh4, hb⟩
          have hh4' := Lib.hid hh4
          have b4 := Lib.hid (Below.after b3.out hb)
          have x4 := Lib.hid (x3.out.next hb)
          have y0 := x4.out.c0
          have y1 := x4.out.c1
          clear hb hh4 x3 z0 z1 g4
          have hown := Lib.hid (hnv'.out ▸ hwv.out ▸ hsd'.out ▸ keep_put (x := xv) hkp.out.may ha.out : Keep q xk s nv true)
          go_wp2_with fail
          refine (Keep.get_has hown.out hh4'.out).mono ?_
          rintro e w5 ⟨rfl, hb⟩
          have hz := Lib.hid (hh4'.out.next hb)
          have bz := Lib.hid (Below.after b4.out hb)
          have x5 := Lib.hid (x4.out.next hb)
          clear y0 y1
          have y0 := x5.out.c0
          have y1 := x5.out.c1
          clear hb hh4' b4 x4
          have hsum := hsum'.out
          by_cases he : xk = key
          · subst he
            go_wp2_with fail
            refine (Keep.get_has hown.out hz.out).mono ?_
            rintro e w5 ⟨rfl, hb⟩
            have hh5 := Lib.hid (hz.out.next hb)
            have b5 := Lib.hid (Below.after bz.out hb)
            clear hb
            go_wp2_with fail
            refine (rowMay_is hown.out.may hh5.out.len hh5.out.k hh5.out.pos hh5.out.steps hh5.out.row).mono ?_
            rintro e w6 ⟨rfl, hb⟩
            have hh6 := Lib.hid (hh5.out.next hb)
            have b6 := Lib.hid (Below.after b5.out hb)
            clear hb
            go_wp2
            go_roundw
            case rel => exact ⟨k + 1, _, _, _, _, _, _, hk1, hmk, rfl, rfl, rfl, by go_num, hh6.out, hown.out, b6.out⟩
            case measure => simp [intOf]; omega
          · have hbq : (xk.toInt == key.toInt) = false := by rw [i_beq]; exact decide_eq_false he
            have he' : Hid (xk ≠ key) := he
            clear he
            cases t with
            | false =>
              have hn := Lib.hid (hsd'.out ▸ Keep.put_other hkp.out ha.out he'.out : Keep q key s v false)
              go_wp2_with fail
              refine (Keep.get_not hn.out hz.out).mono ?_
              rintro e w5 ⟨⟨gg, rfl⟩, hb⟩
              have hh5 := Lib.hid (hz.out.next hb)
              have b5 := Lib.hid (Below.after bz.out hb)
              clear hb
              go_wp2_with fail
              refine (rowMay_is hn.out.may hh5.out.len hh5.out.k hh5.out.pos hh5.out.steps hh5.out.row).mono ?_
              rintro e w6 ⟨rfl, hb⟩
              have hh6 := Lib.hid (hh5.out.next hb)
              have b6 := Lib.hid (Below.after b5.out hb)
              clear hb
              go_wp2
              go_roundw
              case rel => exact ⟨k + 1, _, _, _, _, _, _, hk1, hmk, rfl, rfl, rfl, by go_num, hh6.out, hn.out, b6.out⟩
              case measure => simp [intOf]; omega
            | true =>
              have hn := Lib.hid (hsd'.out ▸ Keep.put_other hkp.out ha.out he'.out : Keep q key s v true)
              go_wp2_with fail
              refine (Keep.get_has hn.out hz.out).mono ?_
              rintro e w5 ⟨rfl, hb⟩
              have hh5 := Lib.hid (hz.out.next hb)
              have b5 := Lib.hid (Below.after bz.out hb)
              clear hb
              go_wp2_with fail
              refine (rowMay_is hn.out.may hh5.out.len hh5.out.k hh5.out.pos hh5.out.steps hh5.out.row).mono ?_
              rintro e w6 ⟨rfl, hb⟩
              have hh6 := Lib.hid (hh5.out.next hb)
              have b6 := Lib.hid (Below.after b5.out hb)
              clear hb
              go_wp2
              go_roundw
              case rel => exact ⟨k + 1, _, _, _, _, _, _, hk1, hmk, rfl, rfl, rfl, by go_num, hh6.out, hn.out, b6.out⟩
              case measure => simp [intOf]; omega
    · obtain rfl : k = N := by omega
      go_wp2_with fail
      refine (alive4_any _ hh.out.pos hh.out.steps).mono ?_
      rintro e w7 ⟨rfl, hb⟩
      have b7 := Lib.hid (Below.after b0.out hb)
      clear hb
      go_wp2
      go_ret
      exact ⟨rfl, b7.out⟩
end Go.Proofs.YtekggefokoaidaaDoor
