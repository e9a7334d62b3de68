/- The document's own answers of layer 11: May, Make, Read. -/
import Derived.Test.YtlhnjgmjkoafpaaDoorL11Says
import Derived.Test.YtlhnjgmjkoafpaaDoorL9High
namespace Go.Proofs.YtlhnjgmjkoafpaaDoor
open Go.RowKit Go.Proofs.Treem
set_option maxRecDepth 100000

set_option maxHeartbeats 1000000 in
theorem refDeep11 (t : Tr) (A : Option Addr) (n c : Nat) (l : List Bd) (hl : l.map strip = t.pre) (hn : t.size = n) (h5 : n ≤ 1000) (w : World) (h : LieB w w.heap.size A n c l) :
    Calls Tryd.prog 56 #[.slice A n c] w fun e w' => e = .returned (nI t.high) ∧ Below w.heap.size w w' := by
  have c0 := Lib.hid (refHeight9 t A n c w.heap.size l hl hn (Nat.le_trans h5 (by decide)) w (Nat.le_refl _) h)
  clear hl h
  go_enter Tryd.func56, Tryd.ntmps56
  go_wp2_with fail
  refine c0.out.mono ?_
  rintro e w1 ⟨rfl, hb⟩
  have b1 := Lib.hid hb
  clear hb
  go_wp2
  go_ret
  exact ⟨rfl, b1.out⟩
set_option maxHeartbeats 1000000 in
theorem refMay11_no (A : Option Addr) (n c : Nat) (l : List Bd) (h5 : n ≤ 1000) (w : World) (h : LieB w w.heap.size A n c l) (hm : mayB (l.map strip) = false) :
    Calls Tryd.prog 38 #[.slice A n c] w fun e w' => e = .returned (.bool false) ∧ Below w.heap.size w w' := by
  have c0 := Lib.hid (refMay9_any A n c w.heap.size l w h (by omega))
  rw [hm] at c0
  clear hm h
  go_enter Tryd.func38, Tryd.ntmps38
  go_wp2_with (go_at_call 24; (with_reducible refine c0.out.mono ?_); rintro e w' ⟨rfl, rfl⟩)
  go_ret
  exact ⟨rfl, Below.refl _ _⟩
set_option maxHeartbeats 1000000 in
theorem refMay11_yes (t : Tr) (A : Option Addr) (n c : Nat) (l : List Bd) (hl : l.map strip = t.pre) (hn : t.size = n) (h5 : n ≤ 1000) (w : World) (h : LieB w w.heap.size A n c l) :
    Calls Tryd.prog 38 #[.slice A n c] w fun e w' => e = .returned (.bool true) ∧ Below w.heap.size w w' := by
  have hm : mayB (l.map strip) = true := by rw [hl]; exact tree_may t
  have c0 := Lib.hid (refMay9_any A n c w.heap.size l w h (by omega))
  rw [hm] at c0
  have c1 := Lib.hid (refDeep11 t A n c l hl hn h5 w h)
  have hh := high_le t
  obtain ⟨x, hx⟩ : ∃ x, t.high = x := ⟨_, rfl⟩
  rw [hx] at c1 hh
  have hx9 : x ≤ 4096 := by omega
  have d1 : decide ((x : Int) ≤ 4096) = true := decide_eq_true (by omega)
  clear hm h hl hx hh hn
  go_enter Tryd.func38, Tryd.ntmps38
  go_wp2_with (go_at_call 24; (with_reducible refine c0.out.mono ?_); rintro e w' ⟨rfl, rfl⟩)
  refine c1.out.mono ?_
  rintro e w1 ⟨rfl, hb⟩
  have b1 := Lib.hid hb
  clear hb
  go_wp2
  go_ret
  exact ⟨rfl, b1.out⟩
theorem madeBeads_none {w w' : World} {o : Option Tr} (h : o = none) (hb : Below w.heap.size w w') : MadeBeads w o (.returned (.tuple #[.slice none 0 0, .int .i64 7])) w' := by subst h; exact ⟨rfl, hb⟩
set_option maxHeartbeats 1000000 in
theorem refMake11 (A : Option Addr) (n c : Nat) (l : List Bd) (o : Option Tr) (h5 : n ≤ 1000) (w : World) (h : LieB w w.heap.size A n c l) (ho : MakeIs (l.map strip) o) :
    Calls Tryd.prog 18 #[.slice A n c] w (MadeBeads w o) := by
  have d1 : decide ((65536 : Int) < (n : Int)) = false := decide_eq_false (by omega)
  cases hm : mayB (l.map strip) with
  | false =>
    have hon : Hid (o = none) := by
      cases o with
      | none => rfl
      | some t => obtain ⟨h1, _⟩ := ho; rw [← h1, tree_may t] at hm; cases hm
    have c0 := Lib.hid (refMay11_no A n c l h5 w h hm)
    clear h ho hm
    go_enter Tryd.func18, Tryd.ntmps18
    go_wp2_with fail
    refine c0.out.mono ?_
    rintro e w1 ⟨rfl, hb⟩
    have b1 := Lib.hid hb
    clear hb
    go_wp2
    go_ret2
    exact madeBeads_none hon.out b1.out
  | true =>
    obtain ⟨t, ht⟩ := may_tree hm
    have hn : t.size = n := by rw [← pre_len, ht, List.length_map, h.len]
    have hot : Hid (o = some t) := by
      have hh : t.high ≤ 4096 := by have := high_le t; omega
      cases o with
      | none => exact absurd hh (ho t ht)
      | some u => obtain ⟨h1, _⟩ := ho; show some u = some t; rw [pre_inj (h1.trans ht.symm)]
    have c0 := Lib.hid (refMay11_yes t A n c l ht.symm hn h5 w h)
    have c1 := Lib.hid (fun W (hb : Below w.heap.size w W) => of9 t A n c w.heap.size l ht.symm hn (by omega) W hb.size (h.next hb))
    have hn' := Lib.hid hn
    clear h ho hm ht hn
    go_enter Tryd.func18, Tryd.ntmps18
    go_wp2_with fail
    refine c0.out.mono ?_
    rintro e w1 ⟨rfl, hb⟩
    have b1 := Lib.hid hb
    clear hb
    go_wp2_with fail
    refine (c1.out w1 b1.out).mono ?_
    rintro e w2 ⟨v, rfl, ho, hb⟩
    have b2 := Lib.hid (Below.after b1.out hb)
    obtain ⟨A', c', rfl, k⟩ := LieB.of_own (by rw [told_len, hn'.out]) (by omega) ho
    have k' := Lib.hid k
    clear ho hb k
    go_wp2
    go_ret2
    rw [hot.out, ← hn'.out]
    exact ⟨A', c', rfl, hn'.out ▸ k'.out, b2.out⟩
end Go.Proofs.YtlhnjgmjkoafpaaDoor
