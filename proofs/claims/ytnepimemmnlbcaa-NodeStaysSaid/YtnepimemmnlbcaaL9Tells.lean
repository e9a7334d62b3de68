/- Layer 9: the statement NodeTells, walked; which arguments make trees. -/
import Derived.Test.YtnepimemmnlbcaaL9Rules
namespace Go.Proofs.Ytnepimemmnlbcaa
open Go.RowKit Go.Proofs.Treem
variable {Nd : NdP}

/-- what Long says of a slice, now and later -/
def LongAt (w : World) (A : Option Addr) (n c : Nat) (b : Bool) : Prop := ∀ W : World, Below w.heap.size w W → Calls Try.prog 7 #[.slice A n c] W fun e w' => e = .returned (.bool b) ∧ W = w'
/-- beads that came in and are those of a tree -/
structure TreeIn (w : World) (A : Option Addr) (n c : Nat) (l : List Bd) (t : Tr) : Prop where
  lie : LieB w w.heap.size A n c l
  pre : l.map strip = t.pre
  size : t.size = n
  few : n ≤ 400
theorem long_or {w : World} {A : Option Addr} {n c : Nat} {l : List Bd} (hl : l.length = n) (hn : n ≤ c) (hc : c ≤ maxLen) (hz : A = none → c = 0) (hr : Row w w.heap.size A (flat7 l)) :
    LongAt w A n c true ∨ (LongAt w A n c false ∧ ∃ t, TreeIn w A n c l t) := by
  by_cases h : 400 < n
  · exact .inl fun W _ => long9_many A n c h (Nat.le_trans hn hc) W
  · have hlie : LieB w w.heap.size A n c l := ⟨hl, by omega, hn, hc, hz, hr⟩
    cases hm : mayB (l.map strip) with
    | false => exact .inl fun W hW => long9_few A n c _ l false (by omega) W (hlie.next hW) hm
    | true =>
      obtain ⟨t, ht⟩ := may_tree hm
      refine .inr ⟨fun W hW => long9_few A n c _ l true (by omega) W (hlie.next hW) hm, t, hlie, ht.symm, ?_, by omega⟩
      rw [← pre_len, ht, List.length_map, hl]
/-- Make, Of of what came in, at any later world -/
theorem TreeIn.make {w : World} {A : Option Addr} {n c : Nat} {l : List Bd} {t : Tr} (h : TreeIn w A n c l t) (hN : NodeSays Nd) (W : World) (hW : Below w.heap.size w W) :
    Calls Try.prog 10 #[.slice A n c] W fun e w' => ∃ p, e = .returned (.pointer p) ∧ TreeAt Nd w' w'.heap.size t p ∧ Below W.heap.size W w' :=
  make9 hN t A n c w.heap.size l h.pre h.size (Nat.le_trans h.few (by decide)) W hW.size (h.lie.next hW)
theorem TreeIn.of {w : World} {A : Option Addr} {n c : Nat} {l : List Bd} {t : Tr} (h : TreeIn w A n c l t) (W : World) (hW : Below w.heap.size w W) :
    Calls Try.prog 11 #[.slice A n c] W fun e w' => ∃ A' c', e = .returned (.slice A' n c') ∧ LieB w' w'.heap.size A' n c' t.told ∧ Below W.heap.size W w' := by
  refine (of9 t A n c w.heap.size l h.pre h.size (Nat.le_trans h.few (by decide)) W hW.size (h.lie.next hW)).mono ?_
  rintro e w' ⟨v, rfl, ho, hb⟩
  have hf := h.few
  obtain ⟨A', c', rfl, k⟩ := LieB.of_own (by rw [told_len, h.size]) (by omega) ho
  exact ⟨A', c', rfl, k, hb⟩
theorem LieB.after {w w' : World} {A : Option Addr} {n c : Nat} {l : List Bd} (h : LieB w w.heap.size A n c l) (hb : Below w.heap.size w w') : LieB w' w'.heap.size A n c l := (h.next hb).more hb.size

set_option maxHeartbeats 2000000 in
theorem nodeTells_long (hN : NodeSays Nd) (A : Option Addr) (n c : Nat) (w : World) (h : LongAt w A n c true) : Calls Try.prog 3 #[.slice A n c] w fun e w' => e = .returned (.bool true) ∧ Below w.heap.size w w' := by
  have c0 := Lib.hid (h w (Below.refl _ _))
  have c1 := Lib.hid (alive9_any hN)
  clear h hN
  go_enter Try.func3, Try.ntmps3
  go_wp2_with (first
    | (go_at_call 7; (with_reducible refine c0.out.mono ?_); rintro e w' ⟨rfl, rfl⟩)
    | (go_at_call 8; refine (c1.out _).mono ?_; rintro e w1 ⟨rfl, hb⟩; have b1 := Lib.hid hb; clear hb)
    | fail)
  go_ret
  exact ⟨rfl, b1.out⟩

set_option maxHeartbeats 4000000 in
theorem nodeTells_yes (hN : NodeSays Nd) (A : Option Addr) (n c : Nat) (l : List Bd) (t : Tr) (w : World) (h : LongAt w A n c false) (ht : TreeIn w A n c l t) : Calls Try.prog 3 #[.slice A n c] w fun e w' => e = .returned (.bool true) ∧ Below w.heap.size w w' := by
  have c0 := Lib.hid (h w (Below.refl _ _))
  have c1 := Lib.hid (alive9_any hN)
  have cM := Lib.hid (ht.make hN)
  have cO := Lib.hid ht.of
  have h4 := ht.few
  have cI := Lib.hid (fun p A c W hT hl => Is9 hN t p (by rw [ht.size]; omega) A n c ht.size W hT hl)
  have hN' := Lib.hid hN
  clear h hN ht
  go_enter Try.func3, Try.ntmps3
  go_wp2_with (first
    | (go_at_call 7; (with_reducible refine c0.out.mono ?_); rintro e w' ⟨rfl, rfl⟩)
    | fail)
  refine (cM.out w (Below.refl _ _)).mono ?_
  rintro e w1 ⟨p, rfl, ht1, hb1⟩
  have t1 := Lib.hid ht1
  have b1 := Lib.hid hb1
  clear ht1 hb1
  go_wp2_with fail
  refine (cO.out w1 b1.out).mono ?_
  rintro e w2 ⟨A2, c2, rfl, hl2, hb2⟩
  have t2 := Lib.hid (t1.out.after hN'.out hb2)
  have l2 := Lib.hid hl2
  have b2 := Lib.hid (Below.after b1.out hb2)
  clear hl2 hb2 t1 b1
  go_wp2_with fail
  refine (cI.out p A2 c2 w2 t2.out l2.out).mono ?_
  rintro e w3 ⟨rfl, hb3⟩
  have b3 := Lib.hid (Below.after b2.out hb3)
  clear hb3
  go_wp2_with (go_at_call 8; refine (c1.out _).mono ?_; rintro e w4 ⟨rfl, hb⟩; have b4 := Lib.hid (Below.after b3.out hb); clear hb)
  go_ret
  exact ⟨rfl, b4.out⟩
end Go.Proofs.Ytnepimemmnlbcaa
