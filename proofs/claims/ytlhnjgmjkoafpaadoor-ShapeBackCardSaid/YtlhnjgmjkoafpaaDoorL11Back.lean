/- Layer 11: the statement ShapeBack, walked. Made by wip/gen/layer11laws.py. -/
import Derived.Test.YtlhnjgmjkoafpaaDoorL11Makes
import Derived.Test.YtlhnjgmjkoafpaaDoorL9Same
namespace Go.Proofs.YtlhnjgmjkoafpaaDoor
open Go.RowKit Go.Proofs.Treem
set_option maxRecDepth 100000
variable {Nd : NdP} {T : World → Prop}

set_option maxHeartbeats 2000000 in
theorem shapeBack_long1 (hN : NodeSays Nd) (hS : ShapeSays Nd T) (hX : TextSays T) (A A2 : Option Addr) (n c n2 c2 : Nat) (s : List UInt8) (w : World) (h : LongAt w A n c true) (hT : T w) : Calls Tryd.prog 6 #[.slice A n c, .slice A2 n2 c2, sV s] w fun e w' => e = .returned (.bool true) ∧ Below w.heap.size w w' := by
  have c0 := Lib.hid (h w (Below.refl _ _))
  clear h
  have c9 := Lib.hid (alive11_any hN hS hX w hT)
  clear hN hS hX hT
  go_enter Tryd.func6, Tryd.ntmps6
  go_wp2_with fail
  refine c0.out.mono ?_
  rintro e w' ⟨rfl, rfl⟩
  go_wp2_with fail
  refine c9.out.mono ?_
  rintro e w1 ⟨rfl, hb⟩
  have b1 := Lib.hid hb
  clear hb
  go_wp2
  go_ret
  exact ⟨rfl, b1.out⟩
set_option maxHeartbeats 2000000 in
theorem shapeBack_long2 (hN : NodeSays Nd) (hS : ShapeSays Nd T) (hX : TextSays T) (A A2 : Option Addr) (n c n2 c2 : Nat) (s : List UInt8) (w : World) (h : LongAt w A n c false) (h2 : 400 < n2) (hm : n2 ≤ maxLen) (hT : T w) : Calls Tryd.prog 6 #[.slice A n c, .slice A2 n2 c2, sV s] w fun e w' => e = .returned (.bool true) ∧ Below w.heap.size w w' := by
  have c0 := Lib.hid (h w (Below.refl _ _))
  unfold maxLen at hm
  have d2 : decide ((400 : Int) < (n2 : Int)) = true := decide_eq_true (by omega)
  clear h
  have c9 := Lib.hid (alive11_any hN hS hX w hT)
  clear hN hS hX hT
  go_enter Tryd.func6, Tryd.ntmps6
  go_wp2_with fail
  refine c0.out.mono ?_
  rintro e w' ⟨rfl, rfl⟩
  go_wp2_with fail
  refine c9.out.mono ?_
  rintro e w1 ⟨rfl, hb⟩
  have b1 := Lib.hid hb
  clear hb
  go_wp2
  go_ret
  exact ⟨rfl, b1.out⟩
set_option maxHeartbeats 2000000 in
theorem shapeBack_long3 (hN : NodeSays Nd) (hS : ShapeSays Nd T) (hX : TextSays T) (A A2 : Option Addr) (n c n2 c2 : Nat) (s : List UInt8) (w : World) (h : LongAt w A n c false) (h2 : n2 ≤ 400) (h3 : 4096 < s.length) (hm : s.length ≤ 9223372036854775807) (hT : T w) : Calls Tryd.prog 6 #[.slice A n c, .slice A2 n2 c2, sV s] w fun e w' => e = .returned (.bool true) ∧ Below w.heap.size w w' := by
  have c0 := Lib.hid (h w (Below.refl _ _))
  have d2 : decide ((400 : Int) < (n2 : Int)) = false := decide_eq_false (by omega)
  obtain ⟨k, hk⟩ : ∃ k, s.length = k := ⟨_, rfl⟩
  have hlen : (⟨s.toArray⟩ : ByteArray).size = k := by rw [← hk]; exact List.size_toArray
  have d3 : decide ((4096 : Int) < (k : Int)) = true := decide_eq_true (by omega)
  clear h hk hm
  have c9 := Lib.hid (alive11_any hN hS hX w hT)
  clear hN hS hX hT
  go_enter Tryd.func6, Tryd.ntmps6
  go_wp2_with fail
  refine c0.out.mono ?_
  rintro e w' ⟨rfl, rfl⟩
  go_wp2_with fail
  refine c9.out.mono ?_
  rintro e w1 ⟨rfl, hb⟩
  have b1 := Lib.hid hb
  clear hb
  go_wp2
  go_ret
  exact ⟨rfl, b1.out⟩
theorem strip_at {l m : List Bd} (h : l.map strip = m.map strip) (k : Nat) (h1 : k < l.length) (h2 : k < m.length) : l[k].key = m[k].key ∧ l[k].val = m[k].val ∧ l[k].tag = m[k].tag ∧ l[k].left = m[k].left ∧ l[k].right = m[k].right := by
  have e1 : (l.map strip)[k]? = some (strip l[k]) := by simp [h1]
  have e2 : (m.map strip)[k]? = some (strip m[k]) := by simp [h2]
  rw [h, e2] at e1
  have e3 := Option.some.inj e1
  simp only [strip, St.mk.injEq] at e3
  exact ⟨e3.1.symm, e3.2.1.symm, e3.2.2.1.symm, e3.2.2.2.1.symm, e3.2.2.2.2.symm⟩
set_option maxHeartbeats 8000000 in
theorem shapeBack_yes (hN : NodeSays Nd) (hS : ShapeSays Nd T) (hX : TextSays T) (A A2 : Option Addr) (n c n2 c2 : Nat) (l m : List Bd) (s : List UInt8) (t : Tr) (w : World) (h : LongAt w A n c false) (ht : TreeIn w A n c l t) (hm : LieB w w.heap.size A2 n2 c2 m) (h2 : n2 ≤ 400) (h3 : s.length ≤ 4096) (hT : T w) : Calls Tryd.prog 6 #[.slice A n c, .slice A2 n2 c2, sV s] w fun e w' => e = .returned (.bool true) ∧ Below w.heap.size w w' := by
  have c0 := Lib.hid (h w (Below.refl _ _))
  have d2 : decide ((400 : Int) < (n2 : Int)) = false := decide_eq_false (by omega)
  obtain ⟨k, hk⟩ : ∃ k, s.length = k := ⟨_, rfl⟩
  have hlen : (⟨s.toArray⟩ : ByteArray).size = k := by rw [← hk]; exact List.size_toArray
  have d3 : decide ((4096 : Int) < (k : Int)) = false := decide_eq_false (by omega)
  have cM := Lib.hid (ht.make hN)
  have hts : t.size ≤ 400 := by rw [ht.size]; exact ht.few
  have hth : t.high ≤ 4096 := by have := high_le t; omega
  have cL : Hid (∀ W p, TreeAt Nd W W.heap.size t p → Calls Tryd.prog 13 #[.pointer p] W fun e w' => ∃ A c, e = .returned (.slice A t.size c) ∧ LieB w' w'.heap.size A t.size c t.told ∧ Below W.heap.size W w') := fun W p hp => hS.list W t p hp (by omega)
  have cK : Hid (∀ W A c, LieB W W.heap.size A t.size c t.told → Calls Tryd.prog 17 #[.slice A t.size c] W (MadeTree Nd W (some t))) := fun W A c h => hS.make W A t.size c t.told (some t) h (by omega) ⟨(told_strip t).symm, hth⟩
  have cI : Hid (∀ W p, Below w.heap.size w W → TreeAt Nd W W.heap.size t p → Calls Tryd.prog 14 #[.pointer p] W fun e w' => e = .returned (sV t.line) ∧ Below W.heap.size W w') := fun W p hb hp => hS.line W t p (hX.next hT hb) hp (by omega)
  have cR : Hid (∀ W, Below w.heap.size w W → Calls Tryd.prog 20 #[sV t.line] W (MadeTree Nd W (some t))) := fun W hb => by
    have := hS.read W t.line (hX.next hT hb) (by have := line_len t; omega) (fun u e => by rw [line_inj e]; omega)
    rw [(readL_is t.line t).2 ⟨rfl, hth, by omega⟩] at this; exact this
  have cS : Hid (∀ W p q, TreeAt Nd W W.heap.size t p → TreeAt Nd W W.heap.size t q → Calls Tryd.prog 16 #[.pointer p, .pointer q] W fun e w' => e = .returned (.bool true) ∧ Below W.heap.size W w') := fun W p q h1 h2 => hS.same W t t p q true (by simp) h1 h2 (by omega) (by omega)
  obtain ⟨o, ho⟩ := makeIs_some (m.map strip)
  have cX : Hid (∀ W, Below w.heap.size w W → Calls Tryd.prog 17 #[.slice A2 n2 c2] W (MadeTree Nd W o)) := fun W hb => hS.make W A2 n2 c2 m o (hm.after hb) (by omega) ho
  have hox : Hid (∀ x, o = some x → x.told.map strip = m.map strip ∧ x.size = n2) := fun x e => by
    subst e
    obtain ⟨h1, _⟩ := ho
    exact ⟨by rw [told_strip, h1], by rw [← pre_len, h1, List.length_map, hm.len]⟩
  have cY : Hid (∀ W, Below w.heap.size w W → Calls Tryd.prog 20 #[sV s] W (MadeTree Nd W (readL s))) := fun W hb => hS.read W s (hX.next hT hb) (by omega) (few_line (by omega))
  obtain ⟨r, hr⟩ : ∃ r, readL s = r := ⟨_, rfl⟩
  rw [hr] at cY
  have hys : Hid (∀ y, r = some y → y.line = s ∧ y.size ≤ 5000) := fun y e => by
    rw [e] at hr
    have h1 := ((readL_is s y).1 hr).1
    have h4 := line_more y
    rw [h1] at h4
    exact ⟨h1, by omega⟩
  have cZ : Hid (∀ W y p, Below w.heap.size w W → TreeAt Nd W W.heap.size y p → y.line = s → y.size ≤ 5000 → Calls Tryd.prog 14 #[.pointer p] W fun e w' => e = .returned (sV s) ∧ Below W.heap.size W w') := fun W y p hb hp e h5 => by
    have := hS.line W y p (hX.next hT hb) hp h5
    rw [e] at this; exact this
  have cU : Hid (∀ W x p, TreeAt Nd W W.heap.size x p → x.size = n2 → Calls Tryd.prog 13 #[.pointer p] W fun e w' => ∃ A c, e = .returned (.slice A n2 c) ∧ LieB w' w'.heap.size A n2 c x.told ∧ Below W.heap.size W w') := fun W x p hp e => by
    have := hS.list W x p hp (by omega)
    rw [e] at this; exact this
  have cA : Hid (∀ W, Below w.heap.size w W → Calls Tryd.prog 9 #[] W fun e w' => e = .returned (.bool true) ∧ Below W.heap.size W w') := fun W hb => alive11_any hN hS hX W (hX.next hT hb)
  have hN' := Lib.hid hN
  have hm' := Lib.hid hm
  have b_0 := Lib.hid (Below.refl w.heap.size w)
  obtain ⟨z, hz⟩ : ∃ z, t.line = z := ⟨_, rfl⟩
  rw [hz] at cI cR
  obtain ⟨nt, hnt⟩ : ∃ n, t.size = n := ⟨_, rfl⟩
  rw [hnt] at cL cK
  clear hN hS hX hT h ht hm ho hts hth hz hr hnt hk h3
  go_enter Tryd.func6, Tryd.ntmps6
  go_wp2_with fail
  refine c0.out.mono ?_
  rintro e w' ⟨rfl, rfl⟩
  go_wp2_with fail
  refine (cM.out w b_0.out).mono ?_
  rintro e w_1 ⟨p, rfl, hP, hb⟩
  have P_1 := Lib.hid hP
  have b_1 := Lib.hid (Below.after b_0.out hb)
  clear hb b_0 hP
  go_wp2_with fail
  refine (cL.out w_1 _ P_1.out).mono ?_
  rintro e w_2 ⟨A5, c5, rfl, hz, hb⟩
  have P_2 := Lib.hid (P_1.out.after hN'.out hb)
  have Z_2 := Lib.hid hz
  have b_2 := Lib.hid (Below.after b_1.out hb)
  clear hb b_1 P_1 hz
  go_wp2_with fail
  refine (cK.out w_2 A5 c5 Z_2.out).mono ?_
  rintro e w_3 ⟨u, rfl, hU, hb⟩
  have P_3 := Lib.hid (P_2.out.after hN'.out hb)
  have U_3 := Lib.hid hU
  have b_3 := Lib.hid (Below.after b_2.out hb)
  clear hb b_2 P_2 hU
  go_wp2_with fail
  refine (cI.out w_3 _ b_3.out P_3.out).mono ?_
  rintro e w_4 ⟨rfl, hb⟩
  have P_4 := Lib.hid (P_3.out.after hN'.out hb)
  have U_4 := Lib.hid (U_3.out.after hN'.out hb)
  have b_4 := Lib.hid (Below.after b_3.out hb)
  clear hb b_3 P_3 U_3
  go_wp2_with fail
  refine (cR.out w_4 b_4.out).mono ?_
  rintro e w_5 ⟨v, rfl, hV, hb⟩
  have P_5 := Lib.hid (P_4.out.after hN'.out hb)
  have U_5 := Lib.hid (U_4.out.after hN'.out hb)
  have V_5 := Lib.hid hV
  have b_5 := Lib.hid (Below.after b_4.out hb)
  clear hb b_4 P_4 U_4 hV
  go_wp2_with fail
  refine (cS.out w_5 _ _ P_5.out U_5.out).mono ?_
  rintro e w_6 ⟨rfl, hb⟩
  have P_6 := Lib.hid (P_5.out.after hN'.out hb)
  have V_6 := Lib.hid (V_5.out.after hN'.out hb)
  have b_6 := Lib.hid (Below.after b_5.out hb)
  clear hb b_5 P_5 V_5
  go_wp2_with fail
  refine (cS.out w_6 _ _ P_6.out V_6.out).mono ?_
  rintro e w_7 ⟨rfl, hb⟩
  have b_7 := Lib.hid (Below.after b_6.out hb)
  clear hb b_6
  go_wp2_with fail
  refine (cX.out w_7 b_7.out).mono ?_
  clear cM cL cK cI cR cS cX c0
  cases o with
  | none =>
    rintro e w_8 ⟨rfl, hb⟩
    have b_8 := Lib.hid (Below.after b_7.out hb)
    clear hb b_7
    go_wp2_with fail
    refine (cY.out w_8 b_8.out).mono ?_
    clear cY
    cases r with
    | none =>
      rintro e w_9 ⟨rfl, hb⟩
      have b_9 := Lib.hid (Below.after b_8.out hb)
      clear hb b_8
      go_wp2_with fail
      refine (cA.out w_9 b_9.out).mono ?_
      rintro e w_10 ⟨rfl, hb⟩
      have b_10 := Lib.hid (Below.after b_9.out hb)
      clear hb b_9
      go_wp2
      go_ret
      exact ⟨rfl, b_10.out⟩
    | some y =>
      obtain ⟨hy1, hy2⟩ := hys.out y rfl
      rintro e w_9 ⟨py, rfl, hY, hb⟩
      have Y_9 := Lib.hid hY
      have b_9 := Lib.hid (Below.after b_8.out hb)
      clear hb hY b_8
      have hy1 := Lib.hid hy1
      go_wp2_with fail
      refine (cZ.out w_9 y py b_9.out Y_9.out hy1.out hy2).mono ?_
      rintro e w_10 ⟨rfl, hb⟩
      have b_10 := Lib.hid (Below.after b_9.out hb)
      clear hb b_9
      go_wp2_with fail
      refine (cA.out w_10 b_10.out).mono ?_
      rintro e w_11 ⟨rfl, hb⟩
      have b_11 := Lib.hid (Below.after b_10.out hb)
      clear hb b_10
      go_wp2
      go_ret
      exact ⟨rfl, b_11.out⟩
  | some x =>
    obtain ⟨hx1, hx2⟩ := hox.out x rfl
    have hx1 := Lib.hid hx1
    rintro e w_8 ⟨px, rfl, hx, hb⟩
    have X_8 := Lib.hid hx
    have b_8 := Lib.hid (Below.after b_7.out hb)
    clear hb hx b_7
    go_wp2_with fail
    refine (cU.out w_8 x px X_8.out hx2).mono ?_
    rintro e w_9 ⟨A6, c6, rfl, hl, hb⟩
    have L_9 := Lib.hid hl
    have b_9 := Lib.hid (Below.after b_8.out hb)
    clear hb b_8 hl
    go_wp2
    go_loopw [15] (fun i wr => ∃ k : Nat, k ≤ n2 ∧ i = .int .i64 k ∧ Below w_9.heap.size w_9 wr) (fun i _ => n2 - (intOf i).toNat)
    case atStart => exact ⟨0, Nat.zero_le _, rfl, Below.refl _ _⟩
    case round =>
      obtain ⟨k, hk, rfl, hbw⟩ := hrel
      have hbw' := Lib.hid hbw
      clear hbw
      by_cases hlt : k < n2
      · have hxl : x.told.length = n2 := L_9.out.len
        have hml : m.length = n2 := hm'.out.len
        have h1 : k < x.told.length := by rw [hxl]; exact hlt
        have h9 : k < m.length := by rw [hml]; exact hlt
        obtain ⟨e1, e2, e3, e4, e5⟩ := strip_at hx1.out k h1 h9
        obtain ⟨ad, rfl, hb2, g0, g1, g2, g3, g4, g5, g6⟩ := bead_at (L_9.out.next hbw'.out) k h1
        obtain ⟨ad', rfl, hb3, f0, f1, f2, f3, f4, f5, f6⟩ := bead_at ((hm'.out.next b_9.out).next (hbw'.out.mono b_9.out.size)) k h9
        rw [e1] at g0
        rw [e2] at g1
        rw [e3] at g4
        rw [e4] at g5
        rw [e5] at g6
        clear e1 e2 e3 e4 e5 hb2 hb3 g2 g3 f2 f3
        go_wp2
        go_quiet (fail)
        go_wp2
        go_roundw
        case rel => exact ⟨k + 1, by omega, by go_num, below_drewN hbw'.out _⟩
        case measure => simp [intOf]; omega
      · have b9 := Lib.hid (Below.after b_9.out hbw'.out)
        clear b_9 hbw'
        go_wp2_with fail
        refine (cY.out wr b9.out).mono ?_
        clear cY
        cases r with
        | none =>
          rintro e w_10 ⟨rfl, hb⟩
          have b_10 := Lib.hid (Below.after b9.out hb)
          clear hb b9
          go_wp2_with fail
          refine (cA.out w_10 b_10.out).mono ?_
          rintro e w_11 ⟨rfl, hb⟩
          have b_11 := Lib.hid (Below.after b_10.out hb)
          clear hb b_10
          go_wp2
          go_ret
          exact ⟨rfl, b_11.out⟩
        | some y =>
          obtain ⟨hy1, hy2⟩ := hys.out y rfl
          rintro e w_10 ⟨py, rfl, hY, hb⟩
          have Y_10 := Lib.hid hY
          have b_10 := Lib.hid (Below.after b9.out hb)
          clear hb hY b9
          have hy1 := Lib.hid hy1
          go_wp2_with fail
          refine (cZ.out w_10 y py b_10.out Y_10.out hy1.out hy2).mono ?_
          rintro e w_11 ⟨rfl, hb⟩
          have b_11 := Lib.hid (Below.after b_10.out hb)
          clear hb b_10
          go_wp2_with fail
          refine (cA.out w_11 b_11.out).mono ?_
          rintro e w_12 ⟨rfl, hb⟩
          have b_12 := Lib.hid (Below.after b_11.out hb)
          clear hb b_11
          go_wp2
          go_ret
          exact ⟨rfl, b_12.out⟩
end Go.Proofs.YtlhnjgmjkoafpaaDoor
