/- Layer 18: the statement WbLikes, walked. Made by wip/gen/layer18laws.py. -/
import Derived.Test.YtifhnaelkjfmdaaL18Alive
namespace Go.Proofs.Ytifhnaelkjfmdaa
open Go.RowKit Go.Proofs.Treem
set_option maxRecDepth 100000
variable {Nd : NdP}

set_option maxHeartbeats 4000000 in
theorem wbLikes_any (hN : NodeSays Nd) (hS : WbSays Nd) (a b : BitVec 64) (w : World) : Calls Try.prog 4 #[K a, K b] w fun e w' => e = .returned (.bool true) ∧ Below w.heap.size w w' := by
  have a1 := BitVec.le_toInt a
  have a2 := BitVec.toInt_lt (x := a)
  have b1 := BitVec.le_toInt b
  have b2 := BitVec.toInt_lt (x := b)
  show Calls _ _ #[.int .i64 a.toInt, .int .i64 b.toInt] _ _
  have cA : Hid (∀ W, Calls Try.prog 16 #[] W fun e w' => e = .returned (.bool true) ∧ Below W.heap.size W w') := fun W => alive18_any hN hS W
  have c1 : Hid (∀ W, Calls Try.prog 25 #[.int .i64 a.toInt, .int .i64 b.toInt] W fun e w' => e = .returned (.bool (likeI a.toInt b.toInt)) ∧ Below W.heap.size W w') := fun W => hS.like W _ _ (by omega) (by omega) (by omega) (by omega)
  have c2 : Hid (∀ W, Calls Try.prog 25 #[.int .i64 b.toInt, .int .i64 a.toInt] W fun e w' => e = .returned (.bool (likeI a.toInt b.toInt)) ∧ Below W.heap.size W w') := fun W => by
    have := hS.like W b.toInt a.toInt (by omega) (by omega) (by omega) (by omega)
    rw [like_turn] at this
    exact this
  have c3 : Hid (∀ W, Calls Try.prog 25 #[.int .i64 a.toInt, .int .i64 a.toInt] W fun e w' => e = .returned (.bool (decide (1 ≤ a.toInt ∧ a.toInt ≤ 1099511627776))) ∧ Below W.heap.size W w') := fun W => by
    have := hS.like W a.toInt a.toInt (by omega) (by omega) (by omega) (by omega)
    rw [like_own] at this
    exact this
  have c4 : Hid (∀ W, Calls Try.prog 26 #[.int .i64 a.toInt, .int .i64 b.toInt] W fun e w' => e = .returned (.bool (likeI a.toInt b.toInt)) ∧ W = w') := fun W => refLike18 _ _ W
  obtain ⟨x, hx⟩ : ∃ x, a.toInt = x := ⟨_, rfl⟩
  obtain ⟨y, hy⟩ : ∃ x, b.toInt = x := ⟨_, rfl⟩
  rw [hx, hy] at c1 c2 c4 ⊢
  rw [hx] at c3
  obtain ⟨z, hz⟩ : ∃ v, likeI x y = v := ⟨_, rfl⟩
  rw [hz] at c1 c2 c4
  have hN' := Lib.hid hN
  clear hx hy hz a1 a2 b1 b2 hN hS
  by_cases h1 : 1 ≤ x
  · by_cases h2 : x ≤ 1099511627776
    · rw [show decide (1 ≤ x ∧ x ≤ 1099511627776) = true from decide_eq_true ⟨h1, h2⟩] at c3
      have d1 : decide (1 ≤ x) = true := decide_eq_true h1
      have d2 : decide (x ≤ 1099511627776) = true := decide_eq_true h2
      have B_0 := Lib.hid (Below.refl w.heap.size w)
      go_enter Try.func4, Try.ntmps4
      go_wp2_with fail
      refine (c1.out w).mono ?_
      rintro e w1 ⟨rfl, hb⟩
      have B_1 := Lib.hid (Below.after B_0.out hb)
      clear B_0
      clear hb
      go_wp2_with fail
      refine (c4.out w1).mono ?_
      rintro e w' ⟨rfl, rfl⟩
      go_wp2_with fail
      refine (c1.out w1).mono ?_
      rintro e w2 ⟨rfl, hb⟩
      have B_2 := Lib.hid (Below.after B_1.out hb)
      clear B_1
      clear hb
      go_wp2_with fail
      refine (c2.out w2).mono ?_
      rintro e w3 ⟨rfl, hb⟩
      have B_3 := Lib.hid (Below.after B_2.out hb)
      clear B_2
      clear hb
      go_wp2_with fail
      refine (c3.out w3).mono ?_
      rintro e w4 ⟨rfl, hb⟩
      have B_4 := Lib.hid (Below.after B_3.out hb)
      clear B_3
      clear hb
      go_wp2_with fail
      refine (cA.out w4).mono ?_
      rintro e w5 ⟨rfl, hb⟩
      have B_5 := Lib.hid (Below.after B_4.out hb)
      clear B_4
      clear hb
      go_wp2
      go_ret
      exact ⟨rfl, B_5.out⟩
    · rw [show decide (1 ≤ x ∧ x ≤ 1099511627776) = false from decide_eq_false (fun h => h2 h.2)] at c3
      have d1 : decide (1 ≤ x) = true := decide_eq_true h1
      have d2 : decide (x ≤ 1099511627776) = false := decide_eq_false h2
      have B_0 := Lib.hid (Below.refl w.heap.size w)
      go_enter Try.func4, Try.ntmps4
      go_wp2_with fail
      refine (c1.out w).mono ?_
      rintro e w1 ⟨rfl, hb⟩
      have B_1 := Lib.hid (Below.after B_0.out hb)
      clear B_0
      clear hb
      go_wp2_with fail
      refine (c4.out w1).mono ?_
      rintro e w' ⟨rfl, rfl⟩
      go_wp2_with fail
      refine (c1.out w1).mono ?_
      rintro e w2 ⟨rfl, hb⟩
      have B_2 := Lib.hid (Below.after B_1.out hb)
      clear B_1
      clear hb
      go_wp2_with fail
      refine (c2.out w2).mono ?_
      rintro e w3 ⟨rfl, hb⟩
      have B_3 := Lib.hid (Below.after B_2.out hb)
      clear B_2
      clear hb
      go_wp2_with fail
      refine (c3.out w3).mono ?_
      rintro e w4 ⟨rfl, hb⟩
      have B_4 := Lib.hid (Below.after B_3.out hb)
      clear B_3
      clear hb
      go_wp2_with fail
      refine (cA.out w4).mono ?_
      rintro e w5 ⟨rfl, hb⟩
      have B_5 := Lib.hid (Below.after B_4.out hb)
      clear B_4
      clear hb
      go_wp2
      go_ret
      exact ⟨rfl, B_5.out⟩
  · rw [show decide (1 ≤ x ∧ x ≤ 1099511627776) = false from decide_eq_false (fun h => h1 h.1)] at c3
    have d1 : decide (1 ≤ x) = false := decide_eq_false h1
    have B_0 := Lib.hid (Below.refl w.heap.size w)
    go_enter Try.func4, Try.ntmps4
    go_wp2_with fail
    refine (c1.out w).mono ?_
    rintro e w1 ⟨rfl, hb⟩
    have B_1 := Lib.hid (Below.after B_0.out hb)
    clear B_0
    clear hb
    go_wp2_with fail
    refine (c4.out w1).mono ?_
    rintro e w' ⟨rfl, rfl⟩
    go_wp2_with fail
    refine (c1.out w1).mono ?_
    rintro e w2 ⟨rfl, hb⟩
    have B_2 := Lib.hid (Below.after B_1.out hb)
    clear B_1
    clear hb
    go_wp2_with fail
    refine (c2.out w2).mono ?_
    rintro e w3 ⟨rfl, hb⟩
    have B_3 := Lib.hid (Below.after B_2.out hb)
    clear B_2
    clear hb
    go_wp2_with fail
    refine (c3.out w3).mono ?_
    rintro e w4 ⟨rfl, hb⟩
    have B_4 := Lib.hid (Below.after B_3.out hb)
    clear B_3
    clear hb
    go_wp2_with fail
    refine (cA.out w4).mono ?_
    rintro e w5 ⟨rfl, hb⟩
    have B_5 := Lib.hid (Below.after B_4.out hb)
    clear B_4
    clear hb
    go_wp2
    go_ret
    exact ⟨rfl, B_5.out⟩
end Go.Proofs.Ytifhnaelkjfmdaa
