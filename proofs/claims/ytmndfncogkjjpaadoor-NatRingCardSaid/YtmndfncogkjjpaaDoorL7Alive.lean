/- The chapter's examples of layer 7 stand, if package nat answers as the document says. -/
import Derived.Test.YtmndfncogkjjpaaDoorL7Ok
namespace Go.Proofs.YtmndfncogkjjpaaDoor
open Go.RowKit Go.Proofs.Natm

theorem d_a : dig Wd 18446744073709551615 = [4294967295, 4294967295] := dig_is (by decide) (by decide +kernel) (by decide +kernel) (by decide +kernel)
theorem d_1 : dig Wd 1 = [1] := dig_is (by decide) (by decide +kernel) (by decide +kernel) (by decide +kernel)
theorem d_2 : dig Wd 2 = [2] := dig_is (by decide) (by decide +kernel) (by decide +kernel) (by decide +kernel)
theorem d_b : dig Wd 9223372036854775808 = [0, 2147483648] := dig_is (by decide) (by decide +kernel) (by decide +kernel) (by decide +kernel)
theorem d_c : dig Wd 4294967296 = [0, 1] := dig_is (by decide) (by decide +kernel) (by decide +kernel) (by decide +kernel)
theorem a_1 : addL [4294967295, 4294967295] [1] = [0, 0, 1] ∧ addE [4294967295, 4294967295] [1] = 0 := by
  unfold addL addE
  rw [if_pos (by decide +kernel), if_pos (by decide +kernel)]
  exact fit_is (by decide +kernel) (dig_is (by decide) (by decide +kernel) (by decide +kernel) (by decide +kernel))
theorem p_1 : powL [2] 100 = [0, 0, 0, 16] ∧ powE [2] 100 = 0 := by
  unfold powL powE
  rw [if_pos (by decide +kernel), if_pos (by decide +kernel)]
  exact fit_is (by decide +kernel) (dig_is (by decide) (by decide +kernel) (by decide +kernel) (by decide +kernel))
theorem p_2 : powL [0, 2147483648] 66 = [] ∧ powE [0, 2147483648] 66 = 5 := by
  unfold powL powE
  rw [if_pos (by decide +kernel), if_pos (by decide +kernel)]
  unfold fitL fitE
  rw [if_neg (by decide +kernel), if_neg (by decide +kernel)]
  exact ⟨rfl, rfl⟩
theorem f_1 : fibL 10 = [55] ∧ fibE 10 = 0 := by
  unfold fibL fibE
  rw [if_pos (by decide +kernel), if_pos (by decide +kernel)]
  exact fit_is (by decide +kernel) (dig_is (by decide) (by decide +kernel) (by decide +kernel) (by decide +kernel))
theorem text_is {l d : List Nat} {b : ByteArray} (hm : mayL l = true) (h0 : num l ≠ 0) (h : val 10 d = num l) (h1 : ∀ x ∈ d, x < 10) (h2 : d.getLast? ≠ some 0) (hb : chars d.reverse = b) : textL l = b := by
  unfold textL
  rw [if_pos hm]
  unfold ten
  rw [if_neg h0, dig_is (by decide) h h1 h2]
  exact hb
theorem t_1 : textL [0, 0, 0, 16] = ⟨#[49, 50, 54, 55, 54, 53, 48, 54, 48, 48, 50, 50, 56, 50, 50, 57, 52, 48, 49, 52, 57, 54, 55, 48, 51, 50, 48, 53, 51, 55, 54]⟩ :=
  text_is (d := [6, 7, 3, 5, 0, 2, 3, 0, 7, 6, 9, 4, 1, 0, 4, 9, 2, 2, 8, 2, 2, 0, 0, 6, 0, 5, 6, 7, 6, 2, 1]) (by decide +kernel) (by decide +kernel) (by decide +kernel) (by decide +kernel) (by decide +kernel) (by decide +kernel)
theorem t_2 : textL [55] = ⟨#[53, 53]⟩ := text_is (d := [5, 5]) (by decide +kernel) (by decide +kernel) (by decide +kernel) (by decide +kernel) (by decide +kernel) (by decide +kernel)
theorem t_3 : textL [] = ⟨#[48]⟩ := by decide +kernel
theorem LieW.of_has {W : World} {g n : Nat} {l : List Nat} (h : Has W g 42 (l.map U).toArray) (hn : l.length = n) (h3 : n ≤ 3000) (hw : ∀ d ∈ l, d < Wd) : LieW W (some ⟨g, 0, none⟩) n n l :=
  ⟨⟨by rw [List.length_map]; exact hn, h3, Nat.le_refl _, by unfold maxLen; omega, (fun e => by cases e), by have := h.row; simpa using this⟩, hw⟩

set_option maxRecDepth 100000 in
set_option maxHeartbeats 8000000 in
theorem alive7_any (hN : NatSays) (w : World) (hT : Tens w) : Calls Tryd.prog 7 #[] w fun e w' => e = .returned (.bool true) ∧ Below w.heap.size w w' := by
  have hT' := Lib.hid hT
  clear hT
  have cA := Lib.hid (fun W => hN.from_ 18446744073709551615 2 _ W (by decide) d_a rfl)
  have c1 := Lib.hid (fun W => hN.from_ 1 1 _ W (by decide) d_1 rfl)
  have c2 := Lib.hid (fun W => hN.from_ 2 1 _ W (by decide) d_2 rfl)
  have cB := Lib.hid (fun W => hN.from_ 9223372036854775808 2 _ W (by decide) d_b rfl)
  have cC := Lib.hid (fun W => hN.from_ 4294967296 2 _ W (by decide) d_c rfl)
  go_enter Tryd.func7, Tryd.ntmps7
  go_wp2_with fail
  refine (cA.out _).mono ?_
  rintro e w1 ⟨A1, k1, rfl, hh, hb⟩
  have l1 := Lib.hid hh
  have b1 := Lib.hid hb
  clear hh hb
  go_wp2_with fail
  refine (c1.out _).mono ?_
  rintro e w2 ⟨A2, k2, rfl, hh, hb⟩
  have l2 := Lib.hid (l1.out.next hb)
  have m2 := Lib.hid hh
  have b2 := Lib.hid (Below.after b1.out hb)
  clear hh hb
  go_wp2_with fail
  refine (hN.add A1 2 k1 _ A2 1 k2 _ _ 3 0 _ a_1.1 rfl a_1.2 l2.out m2.out).mono ?_
  rintro e w3 ⟨A3, k3, rfl, hh, hb⟩
  have a3 := Lib.hid hh
  have b3 := Lib.hid (Below.after b2.out hb)
  clear hh hb l1 l2 m2
  go_wp2_with fail
  refine (c2.out _).mono ?_
  rintro e w4 ⟨A4, k4, rfl, hh, hb⟩
  have a4 := Lib.hid (a3.out.next hb)
  have l4 := Lib.hid hh
  have b4 := Lib.hid (Below.after b3.out hb)
  clear hh hb
  go_wp2_with fail
  refine (hN.pow A4 1 k4 _ 100 _ 4 0 _ p_1.1 rfl p_1.2 l4.out).mono ?_
  rintro e w5 ⟨A5, k5, rfl, hh, hb⟩
  have a5 := Lib.hid (a4.out.next hb)
  have p5 := Lib.hid hh
  have b5 := Lib.hid (Below.after b4.out hb)
  clear hh hb l4
  go_wp2_with fail
  refine (hN.fib 10 _ 1 0 _ f_1.1 rfl f_1.2).mono ?_
  rintro e w6 ⟨A6, k6, rfl, hh, hb⟩
  have a6 := Lib.hid (a5.out.next hb)
  have p6 := Lib.hid (p5.out.next hb)
  have f6 := Lib.hid hh
  have b6 := Lib.hid (Below.after b5.out hb)
  clear hh hb
  go_wp2_with fail
  refine (cB.out _).mono ?_
  rintro e w7 ⟨A7, k7, rfl, hh, hb⟩
  have a7 := Lib.hid (a6.out.next hb)
  have p7 := Lib.hid (p6.out.next hb)
  have f7 := Lib.hid (f6.out.next hb)
  have l7 := Lib.hid hh
  have b7 := Lib.hid (Below.after b6.out hb)
  clear hh hb
  go_wp2_with fail
  refine (hN.pow A7 2 k7 _ 66 _ 0 5 _ p_2.1 rfl p_2.2 l7.out).mono ?_
  rintro e w8 ⟨A8, k8, rfl, _, hb⟩
  have a8 := Lib.hid (a7.out.next hb)
  have p8 := Lib.hid (p7.out.next hb)
  have f8 := Lib.hid (f7.out.next hb)
  have b8 := Lib.hid (Below.after b7.out hb)
  clear hb l7
  go_wp2_with fail
  refine (cC.out _).mono ?_
  rintro e w9 ⟨A9, k9, rfl, hh, hb⟩
  have a9 := Lib.hid (a8.out.next hb)
  have p9 := Lib.hid (p8.out.next hb)
  have f9 := Lib.hid (f8.out.next hb)
  have b9 := Lib.hid (Below.after b8.out hb)

  have l9 := Lib.hid hh
  clear hh hb
  go_wp2_with fail
  have n9 := (Below.refl w9.heap.size w9).alloc (Nat.le_refl _) (.cells #[.int .u32 0, .int .u32 1] 42)
  have q9 : LieW (w9.alloc (.cells #[.int .u32 0, .int .u32 1] 42)) (some ⟨w9.heap.size, 0, none⟩) 2 2 [0, 1] := LieW.of_has (Has.new w9 42 #[.int .u32 0, .int .u32 1]) rfl (by omega) (by decide)
  refine (same7_yes A9 _ 2 k9 2 [0, 1] _ (l9.out.next n9).lie q9.lie).mono ?_
  rintro e w10 ⟨rfl, hb⟩
  have hb2 := n9.trans (hb.mono n9.size)
  have a10 := Lib.hid (a9.out.next hb2)
  have p10 := Lib.hid (p9.out.next hb2)
  have f10 := Lib.hid (f9.out.next hb2)
  have b10 := Lib.hid (Below.after b9.out hb2)
  clear hb hb2 n9 q9 l9
  go_wp2_with fail
  have n10 := (Below.refl w10.heap.size w10).alloc (Nat.le_refl _) (.cells #[.int .u32 0, .int .u32 0, .int .u32 1] 42)
  have q10 : LieW (w10.alloc (.cells #[.int .u32 0, .int .u32 0, .int .u32 1] 42)) (some ⟨w10.heap.size, 0, none⟩) 3 3 [0, 0, 1] := LieW.of_has (Has.new w10 42 #[.int .u32 0, .int .u32 0, .int .u32 1]) rfl (by omega) (by decide)
  refine (same7_yes A3 _ 3 k3 3 [0, 0, 1] _ (a10.out.next n10).lie q10.lie).mono ?_
  rintro e w11 ⟨rfl, hb⟩
  have hb2 := n10.trans (hb.mono n10.size)
  have p11 := Lib.hid (p10.out.next hb2)
  have f11 := Lib.hid (f10.out.next hb2)
  have b11 := Lib.hid (Below.after b10.out hb2)
  clear hb hb2 n10 q10 a10
  go_wp2_with fail
  refine (hN.text A5 4 k5 _ _ _ t_1 (hT'.out.next b11.out) p11.out).mono ?_
  rintro e w12 ⟨rfl, hb⟩
  have f12 := Lib.hid (f11.out.next hb)
  have b12 := Lib.hid (Below.after b11.out hb)
  clear hb
  go_wp2_with fail
  refine (hN.text A6 1 k6 _ _ _ t_2 (hT'.out.next b12.out) f12.out).mono ?_
  rintro e w13 ⟨rfl, hb⟩
  have b13 := Lib.hid (Below.after b12.out hb)
  clear hb
  go_wp2_with fail
  refine (hN.text none 0 0 [] _ _ t_3 (hT'.out.next b13.out) ⟨LieV.empty _, fun _ h => by cases h⟩).mono ?_
  rintro e w14 ⟨rfl, hb⟩
  have b14 := Lib.hid (Below.after b13.out hb)
  clear hb
  go_wp2
  go_ret
  exact ⟨rfl, b14.out⟩
end Go.Proofs.YtmndfncogkjjpaaDoor
