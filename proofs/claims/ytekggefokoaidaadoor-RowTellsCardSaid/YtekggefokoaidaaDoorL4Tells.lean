/- The statement RowTells of layer 4, walked. -/
import Derived.Test.YtekggefokoaidaaDoorL4Ans
import Derived.Test.YtekggefokoaidaaDoorL4Alive
namespace Go.Proofs.YtekggefokoaidaaDoor
open Go.RowKit Go.Shelf Go.Proofs.Rowm

theorem rowSum_is {A : Option Addr} {n c : Nat} {l : List Pr} {t : BitVec 64} (h : Foldm.sum (l.map (·.2)) = t) (hl : l.length = n) (hn : n ≤ 1000) {w : World} (hr : Row w w.heap.size A (flat l)) :
    Calls Tryd.prog 23 #[.slice A n c] w fun e w' => e = .returned (K t) ∧ Below w.heap.size w w' := h ▸ rowSum_at A n c l hl hn w hr
theorem refSum4_is {A : Option Addr} {n c : Nat} {l : List Pr} {t : BitVec 64} (h : Foldm.sum (l.map (·.2)) = t) (hl : l.length = n) (hn : n ≤ 1000) {w : World} (hr : Row w w.heap.size A (flat l)) :
    Calls Tryd.prog 24 #[.slice A n c] w fun e w' => e = .returned (K t) ∧ w = w' := h ▸ refSum4_at A n c l hl hn w hr

set_option maxRecDepth 100000 in
set_option maxHeartbeats 4000000 in
theorem rowTells_many (o p : Nat) (A : Option Addr) (n c : Nat) (x : Pr) (hn : 200 < n) (hc : n ≤ maxLen) (w : World) (h0 : 0 < w.heap.size) (hs : Steps w) :
    Calls Tryd.prog 3 #[.int .u8 o, .int .u8 p, .slice A n c, pV x] w fun e w' => e = .returned (.bool true) ∧ Below w.heap.size w w' := by
  unfold maxLen at hc
  have hs' := Lib.hid hs
  clear hs
  have hd : (200 : Int) < (n : Int) := by omega
  go_enter Tryd.func3, Tryd.ntmps3
  go_wp2_with fail
  have b0 := Lib.hid (below_new w (.cells #[K x.1, K x.2] 24))
  refine (alive4_any _ (Nat.lt_of_lt_of_le h0 b0.out.size) (hs'.out.below h0 b0.out)).mono ?_
  rintro e w1 ⟨rfl, hb⟩
  have b1 := Lib.hid (Below.after b0.out hb)
  clear hb
  go_wp2
  go_ret
  exact ⟨rfl, b1.out⟩

set_option maxRecDepth 100000 in
set_option maxHeartbeats 8000000 in
theorem rowTells_few (o p : Nat) (A : Option Addr) (n c : Nat) (l : List Pr) (x : Pr) (hn : n ≤ 200) (w : World) (h : Here w A n c l) :
    Calls Tryd.prog 3 #[.int .u8 o, .int .u8 p, .slice A n c, pV x] w fun e w' => e = .returned (.bool true) ∧ Below w.heap.size w w' := by
  obtain ⟨fi, ft, gv, pl, pe, dl, fl, flt, cl, clt, ans⟩ := ans_of o p l (by rw [h.len]; omega) x
  have an := Lib.hid ans
  have hn0 : ¬ ((200 : Int) < (n : Int)) := by omega
  obtain ⟨mb, hmb⟩ : ∃ mb, mayB o l = mb := ⟨_, rfl⟩
  obtain ⟨sm, hsm⟩ : ∃ sm, Foldm.sum (l.map (·.2)) = sm := ⟨_, rfl⟩
  have mb' := Lib.hid hmb
  have sm' := Lib.hid hsm
  have r0 := Lib.hid (h.next (below_new w (.cells #[K x.1, K x.2] 24)))
  have k0 := Lib.hid (below_new w (.cells #[K x.1, K x.2] 24))
  have x0 := Lib.hid (Has.new w 24 #[K x.1, K x.2])
  clear ans h hmb hsm
  go_enter Tryd.func3, Tryd.ntmps3
  go_wp2_with fail
  refine (own4_any A n c l _ r0.out).mono ?_
  rintro e w1 ⟨A', c', rfl, hh, hb⟩
  have o1 := Lib.hid hh
  have r1 := Lib.hid (r0.out.next hb)
  have k1 := Lib.hid (Below.after k0.out hb)
  have x1 := Lib.hid (x0.out.next hb)
  have z1 := x1.out.c0
  clear hh hb r0 k0 x0
  go_wp2_with fail
  refine (an.out.find A' n c' _ o1.out).mono ?_
  rintro e w2 ⟨rfl, hb⟩
  have o2 := Lib.hid (o1.out.next hb)
  have r2 := Lib.hid (r1.out.next hb)
  have k2 := Lib.hid (Below.after k1.out hb)
  have x2 := Lib.hid (x1.out.next hb)
  have z2 := x2.out.c0
  clear hb o1 r1 k1 x1 z1
  go_wp2_with fail
  refine (an.out.rfind A n c _ r2.out).mono ?_
  rintro e w3 ⟨rfl, hb⟩
  have o3 := Lib.hid (o2.out.next hb)
  have r3 := Lib.hid (r2.out.next hb)
  have k3 := Lib.hid (Below.after k2.out hb)
  have x3 := Lib.hid (x2.out.next hb)
  have z3 := x3.out.c0
  clear hb o2 r2 k2 x2 z2
  go_wp2_with fail
  refine (an.out.get A' n c' _ o3.out).mono ?_
  rintro e w4 ⟨rfl, hb⟩
  have o4 := Lib.hid (o3.out.next hb)
  have r4 := Lib.hid (r3.out.next hb)
  have k4 := Lib.hid (Below.after k3.out hb)
  have x4 := Lib.hid (x3.out.next hb)
  have z4 := x4.out.c0
  clear hb o3 r3 k3 x3 z3
  go_wp2_with fail
  refine (an.out.rget A n c _ r4.out).mono ?_
  rintro e w5 ⟨rfl, hb⟩
  have o5 := Lib.hid (o4.out.next hb)
  have r5 := Lib.hid (r4.out.next hb)
  have k5 := Lib.hid (Below.after k4.out hb)
  have x5 := Lib.hid (x4.out.next hb)
  have z5 := x5.out.c0
  clear hb o4 r4 k4 x4 z4
  have zv := x5.out.c1
  go_wp2_with fail
  refine (an.out.put A' n c' _ o5.out).mono ?_
  rintro e w6 ⟨Aa, ca, rfl, _, _, _, hra, hb⟩
  have o6 := Lib.hid (o5.out.next hb)
  have r6 := Lib.hid (r5.out.next hb)
  have k6 := Lib.hid (Below.after k5.out hb)
  have x6 := Lib.hid (x5.out.next hb)
  have ma6 := Lib.hid hra
  have z6 := x6.out.c0
  clear hb o5 r5 k5 x5 z5 hra
  clear zv
  have zv := x6.out.c1
  go_wp2_with fail
  refine (an.out.rput A n c _ r6.out).mono ?_
  rintro e w7 ⟨Ab, cb, rfl, _, _, _, hrb, hb⟩
  have o7 := Lib.hid (o6.out.next hb)
  have r7 := Lib.hid (r6.out.next hb)
  have k7 := Lib.hid (Below.after k6.out hb)
  have x7 := Lib.hid (x6.out.next hb)
  have ma7 := Lib.hid (ma6.out.next hb)
  have mb7 := Lib.hid hrb
  have z7 := x7.out.c0
  clear hb o6 r6 k6 x6 z6 ma6 hrb
  clear zv
  go_wp2_with fail
  refine (an.out.drop A' n c' _ o7.out).mono ?_
  rintro e w8 ⟨Ac, cc, rfl, _, _, _, hrc, hb⟩
  have o8 := Lib.hid (o7.out.next hb)
  have r8 := Lib.hid (r7.out.next hb)
  have k8 := Lib.hid (Below.after k7.out hb)
  have x8 := Lib.hid (x7.out.next hb)
  have ma8 := Lib.hid (ma7.out.next hb)
  have mb8 := Lib.hid (mb7.out.next hb)
  have mc8 := Lib.hid hrc
  have z8 := x8.out.c0
  clear hb o7 r7 k7 x7 z7 ma7 mb7 hrc
  go_wp2_with fail
  refine (an.out.rdrop A n c _ r8.out).mono ?_
  rintro e w9 ⟨Ad, cd, rfl, _, _, _, hrd, hb⟩
  have o9 := Lib.hid (o8.out.next hb)
  have r9 := Lib.hid (r8.out.next hb)
  have k9 := Lib.hid (Below.after k8.out hb)
  have x9 := Lib.hid (x8.out.next hb)
  have ma9 := Lib.hid (ma8.out.next hb)
  have mb9 := Lib.hid (mb8.out.next hb)
  have mc9 := Lib.hid (mc8.out.next hb)
  have md9 := Lib.hid hrd
  have z9 := x9.out.c0
  clear hb o8 r8 k8 x8 z8 ma8 mb8 mc8 hrd
  go_wp2_with fail
  refine (an.out.floor A' n c' _ o9.out).mono ?_
  rintro e w10 ⟨rfl, hb⟩
  have hb2 := Below.after hb (below_new w10 (.cells #[K fl.1, K fl.2] 24))
  have o10 := Lib.hid (o9.out.next hb2)
  have r10 := Lib.hid (r9.out.next hb2)
  have k10 := Lib.hid (Below.after k9.out hb2)
  have x10 := Lib.hid (x9.out.next hb2)
  have ma10 := Lib.hid (ma9.out.next hb2)
  have mb10 := Lib.hid (mb9.out.next hb2)
  have mc10 := Lib.hid (mc9.out.next hb2)
  have md10 := Lib.hid (md9.out.next hb2)
  have yy10 := Lib.hid (Has.new w10 24 #[K fl.1, K fl.2])
  have z10 := x10.out.c0
  clear hb o9 r9 k9 x9 z9 ma9 mb9 mc9 md9 hb2
  go_wp2_with fail
  refine (an.out.rfloor A n c _ r10.out).mono ?_
  rintro e w11 ⟨rfl, hb⟩
  have hb2 := Below.after hb (below_new w11 (.cells #[K fl.1, K fl.2] 24))
  have o11 := Lib.hid (o10.out.next hb2)
  have r11 := Lib.hid (r10.out.next hb2)
  have k11 := Lib.hid (Below.after k10.out hb2)
  have x11 := Lib.hid (x10.out.next hb2)
  have ma11 := Lib.hid (ma10.out.next hb2)
  have mb11 := Lib.hid (mb10.out.next hb2)
  have mc11 := Lib.hid (mc10.out.next hb2)
  have md11 := Lib.hid (md10.out.next hb2)
  have yy11 := Lib.hid (yy10.out.next hb2)
  have yz11 := Lib.hid (Has.new w11 24 #[K fl.1, K fl.2])
  have z11 := x11.out.c0
  clear hb o10 r10 k10 x10 z10 ma10 mb10 mc10 md10 yy10 hb2
  go_wp2_with fail
  refine (an.out.ceil A' n c' _ o11.out).mono ?_
  rintro e w12 ⟨rfl, hb⟩
  have hb2 := Below.after hb (below_new w12 (.cells #[K cl.1, K cl.2] 24))
  have o12 := Lib.hid (o11.out.next hb2)
  have r12 := Lib.hid (r11.out.next hb2)
  have k12 := Lib.hid (Below.after k11.out hb2)
  have x12 := Lib.hid (x11.out.next hb2)
  have ma12 := Lib.hid (ma11.out.next hb2)
  have mb12 := Lib.hid (mb11.out.next hb2)
  have mc12 := Lib.hid (mc11.out.next hb2)
  have md12 := Lib.hid (md11.out.next hb2)
  have yy12 := Lib.hid (yy11.out.next hb2)
  have yz12 := Lib.hid (yz11.out.next hb2)
  have ys12 := Lib.hid (Has.new w12 24 #[K cl.1, K cl.2])
  have z12 := x12.out.c0
  clear hb o11 r11 k11 x11 z11 ma11 mb11 mc11 md11 yy11 yz11 hb2
  go_wp2_with fail
  refine (an.out.rceil A n c _ r12.out).mono ?_
  rintro e w13 ⟨rfl, hb⟩
  have hb2 := Below.after hb (below_new w13 (.cells #[K cl.1, K cl.2] 24))
  have o13 := Lib.hid (o12.out.next hb2)
  have r13 := Lib.hid (r12.out.next hb2)
  have k13 := Lib.hid (Below.after k12.out hb2)
  have x13 := Lib.hid (x12.out.next hb2)
  have ma13 := Lib.hid (ma12.out.next hb2)
  have mb13 := Lib.hid (mb12.out.next hb2)
  have mc13 := Lib.hid (mc12.out.next hb2)
  have md13 := Lib.hid (md12.out.next hb2)
  have yy13 := Lib.hid (yy12.out.next hb2)
  have yz13 := Lib.hid (yz12.out.next hb2)
  have ys13 := Lib.hid (ys12.out.next hb2)
  have yt13 := Lib.hid (Has.new w13 24 #[K cl.1, K cl.2])
  have z13 := x13.out.c0
  clear hb o12 r12 k12 x12 z12 ma12 mb12 mc12 md12 yy12 yz12 ys12 hb2
  have uy0 := yy13.out.c0
  have uy1 := yy13.out.c1
  have uz0 := yz13.out.c0
  have uz1 := yz13.out.c1
  have us0 := ys13.out.c0
  have us1 := ys13.out.c1
  have ut0 := yt13.out.c0
  have ut1 := yt13.out.c1
  clear yy13 yz13 ys13 yt13
  go_wp2_with fail
  refine (rowMay_is mb'.out o13.out.len o13.out.k o13.out.pos o13.out.steps o13.out.row).mono ?_
  rintro e w14 ⟨rfl, hb⟩
  have o14 := Lib.hid (o13.out.next hb)
  have r14 := Lib.hid (r13.out.next hb)
  have k14 := Lib.hid (Below.after k13.out hb)
  have x14 := Lib.hid (x13.out.next hb)
  have ma14 := Lib.hid (ma13.out.next hb)
  have mb14 := Lib.hid (mb13.out.next hb)
  have mc14 := Lib.hid (mc13.out.next hb)
  have md14 := Lib.hid (md13.out.next hb)
  have z14 := x14.out.c0
  clear hb o13 r13 k13 x13 z13 ma13 mb13 mc13 md13
  go_wp2_with fail
  refine (refMay4_is mb'.out r14.out.len r14.out.k r14.out.row).mono ?_
  rintro e w15 ⟨rfl, hb⟩
  have o15 := Lib.hid (o14.out.next hb)
  have r15 := Lib.hid (r14.out.next hb)
  have k15 := Lib.hid (Below.after k14.out hb)
  have x15 := Lib.hid (x14.out.next hb)
  have ma15 := Lib.hid (ma14.out.next hb)
  have mb15 := Lib.hid (mb14.out.next hb)
  have mc15 := Lib.hid (mc14.out.next hb)
  have md15 := Lib.hid (md14.out.next hb)
  have z15 := x15.out.c0
  clear hb o14 r14 k14 x14 z14 ma14 mb14 mc14 md14
  go_wp2_with fail
  refine (same4_yes _ _ pl.length _ _ pl rfl an.out.few.1 _ ma15.out mb15.out).mono ?_
  rintro e w16 ⟨rfl, hb⟩
  have o16 := Lib.hid (o15.out.next hb)
  have r16 := Lib.hid (r15.out.next hb)
  have k16 := Lib.hid (Below.after k15.out hb)
  have x16 := Lib.hid (x15.out.next hb)
  have ma16 := Lib.hid (ma15.out.next hb)
  have mb16 := Lib.hid (mb15.out.next hb)
  have mc16 := Lib.hid (mc15.out.next hb)
  have md16 := Lib.hid (md15.out.next hb)
  have z16 := x16.out.c0
  clear hb o15 r15 k15 x15 z15 ma15 mb15 mc15 md15
  go_wp2_with fail
  refine (same4_yes _ _ dl.length _ _ dl rfl an.out.few.2 _ mc16.out md16.out).mono ?_
  rintro e w17 ⟨rfl, hb⟩
  have o17 := Lib.hid (o16.out.next hb)
  have r17 := Lib.hid (r16.out.next hb)
  have k17 := Lib.hid (Below.after k16.out hb)
  have x17 := Lib.hid (x16.out.next hb)
  have ma17 := Lib.hid (ma16.out.next hb)
  have mb17 := Lib.hid (mb16.out.next hb)
  have mc17 := Lib.hid (mc16.out.next hb)
  have md17 := Lib.hid (md16.out.next hb)
  have z17 := x17.out.c0
  clear hb o16 r16 k16 x16 z16 ma16 mb16 mc16 md16
  go_wp2_with fail
  refine (rowSum_is sm'.out o17.out.len o17.out.k o17.out.row).mono ?_
  rintro e w18 ⟨rfl, hb⟩
  have o18 := Lib.hid (o17.out.next hb)
  have r18 := Lib.hid (r17.out.next hb)
  have k18 := Lib.hid (Below.after k17.out hb)
  have x18 := Lib.hid (x17.out.next hb)
  have ma18 := Lib.hid (ma17.out.next hb)
  have mb18 := Lib.hid (mb17.out.next hb)
  have mc18 := Lib.hid (mc17.out.next hb)
  have md18 := Lib.hid (md17.out.next hb)
  have z18 := x18.out.c0
  clear hb o17 r17 k17 x17 z17 ma17 mb17 mc17 md17
  go_wp2_with fail
  refine (still (refSum4_is sm'.out r18.out.len r18.out.k r18.out.row)).mono ?_
  rintro e w19 ⟨rfl, hb⟩
  have o19 := Lib.hid (o18.out.next hb)
  have r19 := Lib.hid (r18.out.next hb)
  have k19 := Lib.hid (Below.after k18.out hb)
  have x19 := Lib.hid (x18.out.next hb)
  have ma19 := Lib.hid (ma18.out.next hb)
  have mb19 := Lib.hid (mb18.out.next hb)
  have mc19 := Lib.hid (mc18.out.next hb)
  have md19 := Lib.hid (md18.out.next hb)
  have z19 := x19.out.c0
  clear hb o18 r18 k18 x18 z18 ma18 mb18 mc18 md18
  go_wp2_with fail
  refine (same4_yes _ _ n _ _ l o19.out.len o19.out.k _ o19.out.row r19.out.row).mono ?_
  rintro e w20 ⟨rfl, hb⟩
  have o20 := Lib.hid (o19.out.next hb)
  have r20 := Lib.hid (r19.out.next hb)
  have k20 := Lib.hid (Below.after k19.out hb)
  have x20 := Lib.hid (x19.out.next hb)
  have ma20 := Lib.hid (ma19.out.next hb)
  have mb20 := Lib.hid (mb19.out.next hb)
  have mc20 := Lib.hid (mc19.out.next hb)
  have md20 := Lib.hid (md19.out.next hb)
  have z20 := x20.out.c0
  clear hb o19 r19 k19 x19 z19 ma19 mb19 mc19 md19
  go_wp2_with fail
  refine (alive4_any _ o20.out.pos o20.out.steps).mono ?_
  rintro e w21 ⟨rfl, hb⟩
  have o21 := Lib.hid (o20.out.next hb)
  have r21 := Lib.hid (r20.out.next hb)
  have k21 := Lib.hid (Below.after k20.out hb)
  have x21 := Lib.hid (x20.out.next hb)
  have ma21 := Lib.hid (ma20.out.next hb)
  have mb21 := Lib.hid (mb20.out.next hb)
  have mc21 := Lib.hid (mc20.out.next hb)
  have md21 := Lib.hid (md20.out.next hb)
  have z21 := x21.out.c0
  clear hb o20 r20 k20 x20 z20 ma20 mb20 mc20 md20
  go_wp2
  go_ret
  exact ⟨rfl, k21.out⟩
end Go.Proofs.YtekggefokoaidaaDoor
