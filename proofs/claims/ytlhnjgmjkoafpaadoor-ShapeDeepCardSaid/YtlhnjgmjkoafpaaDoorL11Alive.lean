/- Layer 11: the chapter's examples (alive). -/
import Derived.Test.YtlhnjgmjkoafpaaDoorL11Read
import Derived.Test.YtlhnjgmjkoafpaaDoorL9Rules
namespace Go.Proofs.YtlhnjgmjkoafpaaDoor
open Go.RowKit Go.Proofs.Treem
set_option maxRecDepth 100000
variable {Nd : NdP} {T : World → Prop}

abbrev line5 : List UInt8 := [40, 46, 32, 53, 58, 45, 55, 35, 51, 32, 46, 41]
abbrev line05 : List UInt8 := [40, 46, 32, 48, 53, 58, 55, 32, 46, 41]
abbrev tr5 : Tr := .n .e 5#64 18446744073709551609#64 3#64 .e
theorem num5 : num 5#64 = [53] := by
  rw [num, Lib.itoa, if_neg (by decide), show (5#64 : BitVec 64).toInt.toNat = 5 by decide, Lib.decDigits_one (by decide)]; rfl
theorem num7 : num 7#64 = [55] := by
  rw [num, Lib.itoa, if_neg (by decide), show (7#64 : BitVec 64).toInt.toNat = 7 by decide, Lib.decDigits_one (by decide)]; rfl
theorem num7m : num 18446744073709551609#64 = [45, 55] := by
  rw [num, Lib.itoa, if_pos (by decide), show (18446744073709551609#64 : BitVec 64).toInt.natAbs = 7 by decide, Lib.decDigits_one (by decide)]; rfl
theorem unum3 : unum 3#64 = [51] := by
  rw [unum, show (3#64 : BitVec 64).toNat = 3 by decide, Lib.decDigits_one (by decide)]; rfl
theorem tr5_line : tr5.line = line5 := by
  simp only [Tr.line, num5, num7m, tagL, unum3]
  rfl
theorem read5 : readL line5 = some tr5 := (readL_is _ _).2 ⟨tr5_line, by decide, by decide⟩
theorem tk05 : tk 4096 line05 = some (.n .e 5#64 7#64 0#64 .e, []) := by
  have h : tk (4095 + 1) (40 :: [46, 32, 48, 53, 58, 55, 32, 46, 41]) = _ := tk_deep 4095 _
  rw [show line05 = 40 :: [46, 32, 48, 53, 58, 55, 32, 46, 41] from rfl, show (4096 : Nat) = 4095 + 1 from rfl, h, tk_dot]
  have e1 : wordL [48, 53, 58, 55, 32, 46, 41] = [48, 53] := by decide
  have e2 : wordL [55, 32, 46, 41] = [55] := by decide
  have e3 : tagOf [32, 46, 41] = ([48], [32, 46, 41]) := rfl
  have p1 : pI [48, 53] = 5#64 := by decide
  have p2 : pI [55] = 7#64 := by decide
  have p3 : pU [48] = 0#64 := by decide
  simp only [tk0, tk1, if_true, e1, List.length_cons, List.length_nil, List.drop_succ_cons, List.drop_zero, tk2, e2, e3, tk3, tk_dot, tk4, p1, p2, p3, Nat.reduceAdd]
theorem read05 : readL line05 = none := by
  unfold readL
  rw [tk05]
  refine if_neg fun h => ?_
  have h1 := h.2
  simp only [Tr.line, num5, num7, tagL, if_true] at h1
  exact absurd h1 (by decide)
theorem a5 : K 5#64 = .int .i64 5 := rfl
theorem a7 : K 18446744073709551609#64 = .int .i64 (-7) := by show Value.int .i64 (BitVec.toInt 18446744073709551609#64) = _; rw [show (BitVec.toInt 18446744073709551609#64) = -7 by decide]
theorem a3 : G64 3#64 = .int .u64 3 := rfl
set_option maxHeartbeats 4000000 in
theorem alive11_any (hN : NodeSays Nd) (hS : ShapeSays Nd T) (hX : TextSays T) (w : World) (hT : T w) : Calls Tryd.prog 9 #[] w fun e w' => e = .returned (.bool true) ∧ Below w.heap.size w w' := by
  have c1 := Lib.hid (hN.new w w.heap.size none none 5#64 18446744073709551609#64 3#64 0#64 0#64 0#64 0#64 (Nat.le_refl _) (.inl ⟨rfl, rfl, rfl⟩) (.inl ⟨rfl, rfl, rfl⟩))
  rw [a5, a7, a3] at c1
  have c2 : Hid (∀ W, Below w.heap.size w W → Calls Tryd.prog 20 #[sV line5] W (MadeTree Nd W (some tr5))) := fun W hb => by
    have := hS.read W line5 (hX.next hT hb) (by decide) (few_line (by decide))
    rw [read5] at this; exact this
  have c3 : Hid (∀ W, Below w.heap.size w W → Calls Tryd.prog 20 #[sV line05] W (MadeTree Nd W none)) := fun W hb => by
    have := hS.read W line05 (hX.next hT hb) (by decide) (few_line (by decide))
    rw [read05] at this; exact this
  have c4 : Hid (∀ W p, Below w.heap.size w W → TreeAt Nd W W.heap.size tr5 p → Calls Tryd.prog 14 #[.pointer p] W fun e w' => e = .returned (sV line5) ∧ Below W.heap.size W w') := fun W p hb h => by
    have := hS.line W tr5 p (hX.next hT hb) h (by decide)
    rw [tr5_line] at this; exact this
  have c5 : Hid (∀ W p q, TreeAt Nd W W.heap.size tr5 p → TreeAt Nd W W.heap.size tr5 q → Calls Tryd.prog 16 #[.pointer p, .pointer q] W fun e w' => e = .returned (.bool true) ∧ Below W.heap.size W w') := fun W p q h1 h2 => hS.same W tr5 tr5 p q true (by simp) h1 h2 (by decide) (by decide)
  have c6 : Hid (∀ W p, TreeAt Nd W W.heap.size tr5 p → Calls Tryd.prog 13 #[.pointer p] W fun e w' => ∃ A c, e = .returned (.slice A 1 c) ∧ Below W.heap.size W w') := fun W p h => (hS.list W tr5 p h (by decide)).mono fun e w' ⟨A, c, h1, _, h3⟩ => ⟨A, c, h1, h3⟩
  have c7 : Hid (∀ W, Below w.heap.size w W → Calls Tryd.prog 14 #[.pointer none] W fun e w' => e = .returned (sV [46]) ∧ Below W.heap.size W w') := fun W hb => hS.line W .e none (hX.next hT hb) rfl (by decide)
  have hN' := Lib.hid hN
  have e1 : (0#64 + 0#64 + 1#64 : BitVec 64) = BitVec.ofNat 64 (1 + 0 + 0) := by decide
  have e2 : (0#64 + 18446744073709551609#64 + 0#64 : BitVec 64) = 0#64 + 18446744073709551609#64 + 0#64 := rfl
  rw [e1] at c1
  clear hN hS hX hT e1 e2
  go_enter Tryd.func9, Tryd.ntmps9
  go_wp2_with fail
  refine c1.out.mono ?_
  rintro e w1 ⟨a, rfl, ha, hn, hb⟩
  have T1 : Hid (TreeAt Nd w1 w1.heap.size tr5 (some a)) := ⟨a, none, none, rfl, hn, rfl, rfl⟩
  have b1 := Lib.hid hb
  clear hb ha hn c1
  go_wp2_with fail
  refine (c2.out w1 b1.out).mono ?_
  rintro e w2 ⟨p, rfl, hp, hb⟩
  have P2 := Lib.hid hp
  have T2 := Lib.hid (T1.out.after hN'.out hb)
  have b2 := Lib.hid (Below.after b1.out hb)
  clear hb hp T1 b1 c2
  go_wp2_with fail
  refine (c3.out w2 b2.out).mono ?_
  rintro e w3 ⟨rfl, hb⟩
  have P3 := Lib.hid (P2.out.after hN'.out hb)
  have T3 := Lib.hid (T2.out.after hN'.out hb)
  have b3 := Lib.hid (Below.after b2.out hb)
  clear hb P2 T2 b2 c3
  go_wp2_with fail
  refine (c4.out w3 _ b3.out T3.out).mono ?_
  rintro e w4 ⟨rfl, hb⟩
  have P4 := Lib.hid (P3.out.after hN'.out hb)
  have T4 := Lib.hid (T3.out.after hN'.out hb)
  have b4 := Lib.hid (Below.after b3.out hb)
  clear hb P3 T3 b3 c4
  go_wp2_with fail
  refine (c5.out w4 _ _ T4.out P4.out).mono ?_
  rintro e w5 ⟨rfl, hb⟩
  have T5 := Lib.hid (T4.out.after hN'.out hb)
  have b5 := Lib.hid (Below.after b4.out hb)
  clear hb P4 T4 b4 c5
  go_wp2_with fail
  refine (c6.out w5 _ T5.out).mono ?_
  rintro e w6 ⟨A, c, rfl, hb⟩
  have b6 := Lib.hid (Below.after b5.out hb)
  clear hb T5 b5 c6
  go_wp2_with fail
  refine (c7.out w6 b6.out).mono ?_
  rintro e w7 ⟨rfl, hb⟩
  have b7 := Lib.hid (Below.after b6.out hb)
  clear hb b6 c7
  go_wp2
  go_ret
  exact ⟨rfl, b7.out⟩
end Go.Proofs.YtlhnjgmjkoafpaaDoor
