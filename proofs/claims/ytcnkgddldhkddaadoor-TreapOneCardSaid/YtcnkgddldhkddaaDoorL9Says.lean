/- Layer 9: what the program's own package node answers. -/
import Derived.Test.YtcnkgddldhkddaaDoorN9Get
import Derived.StillTailTactics
namespace Go.Proofs.YtcnkgddldhkddaaDoor
open Go.RowKit Go.Proofs.Treem
set_option maxRecDepth 100000

set_option maxHeartbeats 2000000 in
theorem newS (w : World) (B : Nat) (pl pr : Option Addr) (k v g sl ml sr mr : BitVec 64) (hB : B ≤ w.heap.size) (h1 : Look NdS w B pl sl ml) (h2 : Look NdS w B pr sr mr) :
    Calls Tryd.prog 19 #[.pointer pl, K k, K v, G64 g, .pointer pr] w (Born NdS w ⟨pl, pr, k, v, g, sl + sr + 1#64, ml + v + mr⟩) := by
  have hn := Lib.hid (look_not h1 h2)
  have c1 : Hid (∀ W, Below w.heap.size w W → Calls Tryd.prog 33 #[.pointer pl] W fun e w' => e = .returned (K sl) ∧ Below W.heap.size W w') := fun W hb => lookS_size (lookS_next h1 (hb.mono hB))
  have c2 : Hid (∀ W, Below w.heap.size w W → Calls Tryd.prog 33 #[.pointer pr] W fun e w' => e = .returned (K sr) ∧ Below W.heap.size W w') := fun W hb => lookS_size (lookS_next h2 (hb.mono hB))
  have c3 : Hid (∀ W, Below w.heap.size w W → Calls Tryd.prog 40 #[.pointer pl] W fun e w' => e = .returned (K ml) ∧ Below W.heap.size W w') := fun W hb => lookS_sum (lookS_next h1 (hb.mono hB))
  have c4 : Hid (∀ W, Below w.heap.size w W → Calls Tryd.prog 40 #[.pointer pr] W fun e w' => e = .returned (K mr) ∧ Below W.heap.size W w') := fun W hb => lookS_sum (lookS_next h2 (hb.mono hB))
  have e1 := sizes_in sl sr
  have e2 := sums_in ml v mr
  obtain ⟨S, hS⟩ : ∃ S, sl + sr + 1#64 = S := ⟨_, rfl⟩
  obtain ⟨M, hM⟩ : ∃ M, ml + v + mr = M := ⟨_, rfl⟩
  rw [hS] at e1 hn ⊢
  rw [hM] at e2 ⊢
  clear h1 h2 hS hM hB
  go_enter Tryd.func19, Tryd.ntmps19
  go_wp2_with fail
  refine (c1.out w (Below.refl _ _)).mono ?_
  rintro e w1 ⟨rfl, hb1⟩
  have b1 := Lib.hid hb1
  clear hb1 c1
  go_wp2_with fail
  refine (c2.out w1 b1.out).mono ?_
  rintro e w2 ⟨rfl, hb2⟩
  have b2 := Lib.hid (Below.after b1.out hb2)
  clear hb2 c2 b1
  go_wp2_with fail
  refine (c3.out w2 b2.out).mono ?_
  rintro e w3 ⟨rfl, hb3⟩
  have b3 := Lib.hid (Below.after b2.out hb3)
  clear hb3 c3 b2
  go_wp2_with fail
  refine (c4.out w3 b3.out).mono ?_
  rintro e w4 ⟨rfl, hb4⟩
  have b4 := Lib.hid (Below.after b3.out hb4)
  clear hb4 c4 b3
  go_wp2
  go_ret
  exact ⟨_, rfl, b4.out.size, ⟨_, rfl, by simp, Has.new w4 _ _, hn.out⟩, b4.out.alloc b4.out.size _⟩
/-- what lies at one place is one node -/
theorem node_uniq {W : World} {B B' : Nat} {a : Addr} {x y : No} (h : NdS W B a x) (k : NdS W B' a y) : x = y := by
  obtain ⟨g, e, _, hh, _⟩ := h
  obtain ⟨g', e', _, hh', _⟩ := k
  rw [e] at e'
  cases e'
  have h := (show W.heap[g]? = _ from hh).symm.trans hh'
  simp only [Option.some.injEq, Obj.cells.injEq, Array.mk.injEq, List.cons.injEq, Value.int.injEq, Value.pointer.injEq, true_and, and_true] at h
  obtain ⟨h1, h2, h3, h4, h5, h6, h7⟩ := h
  obtain ⟨l, r, k, v, g, s, m⟩ := x
  obtain ⟨l', r', k', v', g', s', m'⟩ := y
  simp only at h1 h2 h3 h4 h5 h6 h7
  rw [BitVec.eq_of_toInt_eq h1, BitVec.eq_of_toInt_eq h2, BitVec.eq_of_toNat_eq (by omega : g.toNat = g'.toNat), BitVec.eq_of_toInt_eq h4, BitVec.eq_of_toInt_eq h5, h6, h7]
theorem node_says : NodeSays NdS where
  next := nextS
  more := fun ⟨g, e, hg, hh⟩ hb => ⟨g, e, Nat.lt_of_lt_of_le hg hb, hh⟩
  lt := fun ⟨g, e, hg, _⟩ => by rw [e]; exact hg
  only := fun ⟨g, e, hg, hh, hz⟩ hk => ⟨g, e, hg, (by subst e; exact hk.trans hh), hz⟩
  kind := fun ⟨g, e, _, hh, _⟩ => by subst e; exact ⟨_, hh⟩
  uniq := node_uniq
  lies := fun ⟨g, e, _, hh, _⟩ => by rw [e]; exact ⟨_, _, hh⟩
  new := newS
  left := leftS
  left0 := leftS0
  right := rightS
  right0 := rightS0
  key := keyS
  key0 := keyS0
  val := valS
  val0 := valS0
  tag := tagS
  tag0 := tagS0
  size := sizeS
  size0 := sizeS0
  sum := sumS
  sum0 := sumS0
end Go.Proofs.YtcnkgddldhkddaaDoor
