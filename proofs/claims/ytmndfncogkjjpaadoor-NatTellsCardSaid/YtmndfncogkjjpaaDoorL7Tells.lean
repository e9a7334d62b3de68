/- The statement NatTells of layer 7, walked. -/
import Derived.Test.YtmndfncogkjjpaaDoorL7Rules
namespace Go.Proofs.YtmndfncogkjjpaaDoor
open Go.RowKit Go.Proofs.Natm

set_option maxRecDepth 100000 in
set_option maxHeartbeats 2000000 in
theorem natTells_many1 (hN : NatSays) (A B : Option Addr) (n c m d x : Nat) (e : Int) (h : 200 < n) (hn : n ≤ maxLen) (w : World) (hT : Hid (Tens w)) : Calls Tryd.prog 3 #[.slice A n c, .slice B m d, .int .i64 e, .int .u64 x] w fun e w' => e = .returned (.bool true) ∧ Below w.heap.size w w' := by
  unfold maxLen at hn
  have d1 : decide ((200 : Int) < (n : Int)) = true := decide_eq_true (by omega)
  go_enter Tryd.func3, Tryd.ntmps3
  go_wp2_with (go_at_call 7; refine (alive7_any hN _ hT.out).mono ?_; rintro e w1 ⟨rfl, hb⟩; have k1 := Lib.hid hb; clear hb)
  go_ret
  exact ⟨rfl, k1.out⟩

set_option maxRecDepth 100000 in
set_option maxHeartbeats 2000000 in
theorem natTells_many2 (hN : NatSays) (A B : Option Addr) (n c m d x : Nat) (e : Int) (h0 : n ≤ 200) (h : 200 < m) (hn : m ≤ maxLen) (w : World) (hT : Hid (Tens w)) : Calls Tryd.prog 3 #[.slice A n c, .slice B m d, .int .i64 e, .int .u64 x] w fun e w' => e = .returned (.bool true) ∧ Below w.heap.size w w' := by
  unfold maxLen at hn
  have d1 : decide ((200 : Int) < (n : Int)) = false := decide_eq_false (by omega)
  have d2 : decide ((200 : Int) < (m : Int)) = true := decide_eq_true (by omega)
  go_enter Tryd.func3, Tryd.ntmps3
  go_wp2_with (go_at_call 7; refine (alive7_any hN _ hT.out).mono ?_; rintro e w1 ⟨rfl, hb⟩; have k1 := Lib.hid hb; clear hb)
  go_ret
  exact ⟨rfl, k1.out⟩

set_option maxRecDepth 100000 in
set_option maxHeartbeats 16000000 in
theorem natTells_few (hN : NatSays) (A B : Option Addr) (n c m d x : Nat) (e : Int) (a b : List Nat) (hn : n ≤ 200) (hm : m ≤ 200) (hx : x < 18446744073709551616) (w : World) (hT : Hid (Tens w)) (hA : LieW w A n c a) (hB : LieW w B m d b) : Calls Tryd.prog 3 #[.slice A n c, .slice B m d, .int .i64 e, .int .u64 x] w fun e w' => e = .returned (.bool true) ∧ Below w.heap.size w w' := by
  have d1 : decide ((200 : Int) < (n : Int)) = false := decide_eq_false (by omega)
  have d2 : decide ((200 : Int) < (m : Int)) = false := decide_eq_false (by omega)
  obtain ⟨sa, hsa⟩ : ∃ s, addL a b = s := ⟨_, rfl⟩
  obtain ⟨ksa, hksa⟩ : ∃ k, sa.length = k := ⟨_, rfl⟩
  obtain ⟨sm, hsm⟩ : ∃ s, mulL a b = s := ⟨_, rfl⟩
  obtain ⟨ksm, hksm⟩ : ∃ k, sm.length = k := ⟨_, rfl⟩
  obtain ⟨sp, hsp⟩ : ∃ s, powL a e = s := ⟨_, rfl⟩
  obtain ⟨ksp, hksp⟩ : ∃ k, sp.length = k := ⟨_, rfl⟩
  obtain ⟨fx, hfx⟩ : ∃ s, dig Wd x = s := ⟨_, rfl⟩
  obtain ⟨kfx, hkfx⟩ : ∃ k, fx.length = k := ⟨_, rfl⟩
  obtain ⟨ea, hea⟩ : ∃ s, addE a b = s := ⟨_, rfl⟩
  obtain ⟨em, hem⟩ : ∃ s, mulE a b = s := ⟨_, rfl⟩
  obtain ⟨ep, hep⟩ : ∃ s, powE a e = s := ⟨_, rfl⟩
  obtain ⟨ma, hma⟩ : ∃ s, mayL a = s := ⟨_, rfl⟩
  obtain ⟨cm, hcm⟩ : ∃ s, cmpL a b = s := ⟨_, rfl⟩
  obtain ⟨tx, htx⟩ : ∃ s, textL a = s := ⟨_, rfl⟩
  have cown := Lib.hid (fun A n c l W (h : LieW W A n c l) => own_w h)
  have c1 := Lib.hid (fun A n c B m d W => hN.add A n c a B m d b sa ksa ea W hsa hksa hea)
  have c2 := Lib.hid (fun A n c B m d W => ref_says.add A n c a B m d b sa ksa ea W hsa hksa hea)
  have c3 := Lib.hid (fun A n c B m d W => hN.mul A n c a B m d b sm ksm em W hsm hksm hem)
  have c4 := Lib.hid (fun A n c B m d W => ref_says.mul A n c a B m d b sm ksm em W hsm hksm hem)
  have c5 := Lib.hid (fun A n c W => hN.pow A n c a e sp ksp ep W hsp hksp hep)
  have c6 := Lib.hid (fun A n c W => ref_says.pow A n c a e sp ksp ep W hsp hksp hep)
  have c7 := Lib.hid (fun A n c W => hN.may A n c a ma W hma)
  have c8 := Lib.hid (fun A n c W => ref_says.may A n c a ma W hma)
  have c9 := Lib.hid (fun A n c B m d W => hN.cmp A n c a B m d b cm W hcm)
  have c10 := Lib.hid (fun A n c B m d W => ref_says.cmp A n c a B m d b cm W hcm)
  have c11 := Lib.hid (fun A n c W => hN.text A n c a tx W htx)
  have c12 := Lib.hid (fun A n c W => ref_says.text A n c a tx W htx trivial)
  have c13 := Lib.hid (fun W => hN.from_ x kfx fx W hx hfx hkfx)
  have c14 := Lib.hid (fun W => ref_says.from_ x kfx fx W hx hfx hkfx)
  have la0 := Lib.hid hA
  have lb0 := Lib.hid hB
  have k0 := Lib.hid (Below.refl w.heap.size w)
  clear hA hB hsa hksa hea hsm hksm hem hsp hksp hep hma hcm htx hfx hkfx hx
  go_enter Tryd.func3, Tryd.ntmps3
  go_wp2_with fail
  refine (cown.out A n c a _ la0.out).mono ?_
  rintro e w1 ⟨A1, q1, rfl, hh, hb⟩
  have la1 := Lib.hid (la0.out.next hb)
  have lb1 := Lib.hid (lb0.out.next hb)
  have k1 := Lib.hid (Below.after k0.out hb)
  have ua1 := Lib.hid hh
  clear hb hh la0 lb0 k0
  go_wp2_with fail
  refine (cown.out B m d b _ lb1.out).mono ?_
  rintro e w2 ⟨A2, q2, rfl, hh, hb⟩
  have la2 := Lib.hid (la1.out.next hb)
  have lb2 := Lib.hid (lb1.out.next hb)
  have ua2 := Lib.hid (ua1.out.next hb)
  have k2 := Lib.hid (Below.after k1.out hb)
  have ub2 := Lib.hid hh
  clear hb hh la1 lb1 ua1 k1
  go_wp2_with fail
  refine (c1.out A1 n q1 A2 m q2 _ ua2.out ub2.out).mono ?_
  rintro e w3 ⟨A3, q3, rfl, hh, hb⟩
  have la3 := Lib.hid (la2.out.next hb)
  have lb3 := Lib.hid (lb2.out.next hb)
  have ua3 := Lib.hid (ua2.out.next hb)
  have ub3 := Lib.hid (ub2.out.next hb)
  have k3 := Lib.hid (Below.after k2.out hb)
  have ra3 := Lib.hid hh
  clear hb hh la2 lb2 ua2 ub2 k2
  go_wp2_with fail
  refine (c2.out A n c B m d _ la3.out lb3.out).mono ?_
  rintro e w4 ⟨A4, q4, rfl, hh, hb⟩
  have la4 := Lib.hid (la3.out.next hb)
  have lb4 := Lib.hid (lb3.out.next hb)
  have ua4 := Lib.hid (ua3.out.next hb)
  have ub4 := Lib.hid (ub3.out.next hb)
  have ra4 := Lib.hid (ra3.out.next hb)
  have k4 := Lib.hid (Below.after k3.out hb)
  have rb4 := Lib.hid hh
  clear hb hh la3 lb3 ua3 ub3 ra3 k3
  go_wp2_with fail
  refine (c3.out A1 n q1 A2 m q2 _ ua4.out ub4.out).mono ?_
  rintro e w5 ⟨A5, q5, rfl, hh, hb⟩
  have la5 := Lib.hid (la4.out.next hb)
  have lb5 := Lib.hid (lb4.out.next hb)
  have ua5 := Lib.hid (ua4.out.next hb)
  have ub5 := Lib.hid (ub4.out.next hb)
  have ra5 := Lib.hid (ra4.out.next hb)
  have rb5 := Lib.hid (rb4.out.next hb)
  have k5 := Lib.hid (Below.after k4.out hb)
  have rc5 := Lib.hid hh
  clear hb hh la4 lb4 ua4 ub4 ra4 rb4 k4
  go_wp2_with fail
  refine (c4.out A n c B m d _ la5.out lb5.out).mono ?_
  rintro e w6 ⟨A6, q6, rfl, hh, hb⟩
  have la6 := Lib.hid (la5.out.next hb)
  have lb6 := Lib.hid (lb5.out.next hb)
  have ua6 := Lib.hid (ua5.out.next hb)
  have ub6 := Lib.hid (ub5.out.next hb)
  have ra6 := Lib.hid (ra5.out.next hb)
  have rb6 := Lib.hid (rb5.out.next hb)
  have rc6 := Lib.hid (rc5.out.next hb)
  have k6 := Lib.hid (Below.after k5.out hb)
  have rd6 := Lib.hid hh
  clear hb hh la5 lb5 ua5 ub5 ra5 rb5 rc5 k5
  go_wp2_with fail
  refine (c5.out A1 n q1 _ ua6.out).mono ?_
  rintro e w7 ⟨A7, q7, rfl, hh, hb⟩
  have la7 := Lib.hid (la6.out.next hb)
  have lb7 := Lib.hid (lb6.out.next hb)
  have ua7 := Lib.hid (ua6.out.next hb)
  have ub7 := Lib.hid (ub6.out.next hb)
  have ra7 := Lib.hid (ra6.out.next hb)
  have rb7 := Lib.hid (rb6.out.next hb)
  have rc7 := Lib.hid (rc6.out.next hb)
  have rd7 := Lib.hid (rd6.out.next hb)
  have k7 := Lib.hid (Below.after k6.out hb)
  have re7 := Lib.hid hh
  clear hb hh la6 lb6 ua6 ub6 ra6 rb6 rc6 rd6 k6
  go_wp2_with fail
  refine (c6.out A n c _ la7.out).mono ?_
  rintro e w8 ⟨A8, q8, rfl, hh, hb⟩
  have la8 := Lib.hid (la7.out.next hb)
  have lb8 := Lib.hid (lb7.out.next hb)
  have ua8 := Lib.hid (ua7.out.next hb)
  have ub8 := Lib.hid (ub7.out.next hb)
  have ra8 := Lib.hid (ra7.out.next hb)
  have rb8 := Lib.hid (rb7.out.next hb)
  have rc8 := Lib.hid (rc7.out.next hb)
  have rd8 := Lib.hid (rd7.out.next hb)
  have re8 := Lib.hid (re7.out.next hb)
  have k8 := Lib.hid (Below.after k7.out hb)
  have rf8 := Lib.hid hh
  clear hb hh la7 lb7 ua7 ub7 ra7 rb7 rc7 rd7 re7 k7
  go_wp2_with fail
  refine (same7_yes A3 A4 ksa q3 q4 sa _ ra8.out.lie rb8.out.lie).mono ?_
  rintro e w9 ⟨rfl, hb⟩
  have la9 := Lib.hid (la8.out.next hb)
  have lb9 := Lib.hid (lb8.out.next hb)
  have ua9 := Lib.hid (ua8.out.next hb)
  have ub9 := Lib.hid (ub8.out.next hb)
  have rc9 := Lib.hid (rc8.out.next hb)
  have rd9 := Lib.hid (rd8.out.next hb)
  have re9 := Lib.hid (re8.out.next hb)
  have rf9 := Lib.hid (rf8.out.next hb)
  have k9 := Lib.hid (Below.after k8.out hb)
  clear hb  la8 lb8 ua8 ub8 rc8 rd8 re8 rf8 k8
  go_wp2_with fail
  refine (same7_yes A5 A6 ksm q5 q6 sm _ rc9.out.lie rd9.out.lie).mono ?_
  rintro e w10 ⟨rfl, hb⟩
  have la10 := Lib.hid (la9.out.next hb)
  have lb10 := Lib.hid (lb9.out.next hb)
  have ua10 := Lib.hid (ua9.out.next hb)
  have ub10 := Lib.hid (ub9.out.next hb)
  have re10 := Lib.hid (re9.out.next hb)
  have rf10 := Lib.hid (rf9.out.next hb)
  have k10 := Lib.hid (Below.after k9.out hb)
  clear hb  la9 lb9 ua9 ub9 re9 rf9 k9
  go_wp2_with fail
  refine (same7_yes A7 A8 ksp q7 q8 sp _ re10.out.lie rf10.out.lie).mono ?_
  rintro e w11 ⟨rfl, hb⟩
  have la11 := Lib.hid (la10.out.next hb)
  have lb11 := Lib.hid (lb10.out.next hb)
  have ua11 := Lib.hid (ua10.out.next hb)
  have ub11 := Lib.hid (ub10.out.next hb)
  have k11 := Lib.hid (Below.after k10.out hb)
  clear hb  la10 lb10 ua10 ub10 k10
  go_wp2_with fail
  refine (same7_yes A1 A n q1 c a _ ua11.out.lie la11.out.lie).mono ?_
  rintro e w12 ⟨rfl, hb⟩
  have la12 := Lib.hid (la11.out.next hb)
  have lb12 := Lib.hid (lb11.out.next hb)
  have ua12 := Lib.hid (ua11.out.next hb)
  have ub12 := Lib.hid (ub11.out.next hb)
  have k12 := Lib.hid (Below.after k11.out hb)
  clear hb  la11 lb11 ua11 ub11 k11
  go_wp2_with fail
  refine (same7_yes A2 B m q2 d b _ ub12.out.lie lb12.out.lie).mono ?_
  rintro e w13 ⟨rfl, hb⟩
  have la13 := Lib.hid (la12.out.next hb)
  have lb13 := Lib.hid (lb12.out.next hb)
  have ua13 := Lib.hid (ua12.out.next hb)
  have ub13 := Lib.hid (ub12.out.next hb)
  have k13 := Lib.hid (Below.after k12.out hb)
  clear hb  la12 lb12 ua12 ub12 k12
  go_wp2_with fail
  refine (c7.out A1 n q1 _ ua13.out).mono ?_
  rintro e w14 ⟨rfl, hb⟩
  have la14 := Lib.hid (la13.out.next hb)
  have lb14 := Lib.hid (lb13.out.next hb)
  have ua14 := Lib.hid (ua13.out.next hb)
  have ub14 := Lib.hid (ub13.out.next hb)
  have k14 := Lib.hid (Below.after k13.out hb)
  clear hb  la13 lb13 ua13 ub13 k13
  go_wp2_with fail
  refine (c8.out A n c _ la14.out).mono ?_
  rintro e w15 ⟨rfl, hb⟩
  have la15 := Lib.hid (la14.out.next hb)
  have lb15 := Lib.hid (lb14.out.next hb)
  have ua15 := Lib.hid (ua14.out.next hb)
  have ub15 := Lib.hid (ub14.out.next hb)
  have k15 := Lib.hid (Below.after k14.out hb)
  clear hb  la14 lb14 ua14 ub14 k14
  go_wp2_with fail
  refine (c9.out A1 n q1 A2 m q2 _ ua15.out ub15.out).mono ?_
  rintro e w16 ⟨rfl, hb⟩
  have la16 := Lib.hid (la15.out.next hb)
  have lb16 := Lib.hid (lb15.out.next hb)
  have ua16 := Lib.hid (ua15.out.next hb)
  have k16 := Lib.hid (Below.after k15.out hb)
  clear hb  la15 lb15 ua15 k15
  go_wp2_with fail
  refine (c10.out A n c B m d _ la16.out lb16.out).mono ?_
  rintro e w17 ⟨rfl, hb⟩
  have la17 := Lib.hid (la16.out.next hb)
  have ua17 := Lib.hid (ua16.out.next hb)
  have k17 := Lib.hid (Below.after k16.out hb)
  clear hb  la16 ua16 k16
  go_wp2_with fail
  refine (c11.out A1 n q1 _ (hT.out.next k17.out) ua17.out).mono ?_
  rintro e w18 ⟨rfl, hb⟩
  have la18 := Lib.hid (la17.out.next hb)
  have k18 := Lib.hid (Below.after k17.out hb)
  clear hb  la17 k17
  go_wp2_with fail
  refine (c12.out A n c _ la18.out).mono ?_
  rintro e w19 ⟨rfl, hb⟩
  have k19 := Lib.hid (Below.after k18.out hb)
  clear hb  k18
  go_wp2_with fail
  refine (c13.out _).mono ?_
  rintro e w20 ⟨A9, q9, rfl, hh, hb⟩
  have k20 := Lib.hid (Below.after k19.out hb)
  have xa20 := Lib.hid hh
  clear hb hh k19
  go_wp2_with fail
  refine (c14.out _).mono ?_
  rintro e w21 ⟨A10, q10, rfl, hh, hb⟩
  have xa21 := Lib.hid (xa20.out.next hb)
  have k21 := Lib.hid (Below.after k20.out hb)
  have xb21 := Lib.hid hh
  clear hb hh xa20 k20
  go_wp2_with fail
  refine (same7_yes A9 A10 kfx q9 q10 fx _ xa21.out.lie xb21.out.lie).mono ?_
  rintro e w22 ⟨rfl, hb⟩
  have k22 := Lib.hid (Below.after k21.out hb)
  clear hb  k21
  go_wp2_with fail
  refine (alive7_any hN _ (hT.out.next k22.out)).mono ?_
  rintro e w23 ⟨rfl, hb⟩
  have k23 := Lib.hid (Below.after k22.out hb)
  clear hb  k22
  go_wp2
  go_ret
  exact ⟨rfl, k23.out⟩
end Go.Proofs.YtmndfncogkjjpaaDoor
