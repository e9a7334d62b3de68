/- Layer 9: what the program's own package node answers. -/
import Derived.Test.YtlhnjgmjkoafpaaDoorN9Get
import Derived.StillTailTactics
namespace Go.Proofs.YtlhnjgmjkoafpaaDoor
open Go.RowKit Go.Proofs.Treem
set_option maxRecDepth 100000

set_option maxHeartbeats 2000000 in
theorem newS (w : World) (B : Nat) (pl pr : Option Addr) (k v g sl ml sr mr : BitVec 64) (hB : B ≤ w.heap.size) (h1 : Look NdS w B pl sl ml) (h2 : Look NdS w B pr sr mr) :
    Calls Tryd.prog 25 #[.pointer pl, K k, K v, G64 g, .pointer pr] w (Born NdS w ⟨pl, pr, k, v, g, sl + sr + 1#64, ml + v + mr⟩) := by
  have hn := Lib.hid (look_not h1 h2)
  have c1 : Hid (∀ W, Below w.heap.size w W → Calls Tryd.prog 23 #[.pointer pl] W fun e w' => e = .returned (K sl) ∧ Below W.heap.size W w') := fun W hb => lookS_size (lookS_next h1 (hb.mono hB))
  have c2 : Hid (∀ W, Below w.heap.size w W → Calls Tryd.prog 23 #[.pointer pr] W fun e w' => e = .returned (K sr) ∧ Below W.heap.size W w') := fun W hb => lookS_size (lookS_next h2 (hb.mono hB))
  have c3 : Hid (∀ W, Below w.heap.size w W → Calls Tryd.prog 45 #[.pointer pl] W fun e w' => e = .returned (K ml) ∧ Below W.heap.size W w') := fun W hb => lookS_sum (lookS_next h1 (hb.mono hB))
  have c4 : Hid (∀ W, Below w.heap.size w W → Calls Tryd.prog 45 #[.pointer pr] W fun e w' => e = .returned (K mr) ∧ Below W.heap.size W w') := fun W hb => lookS_sum (lookS_next h2 (hb.mono hB))
  have e1 := sizes_in sl sr
  have e2 := sums_in ml v mr
  obtain ⟨S, hS⟩ : ∃ S, sl + sr + 1#64 = S := ⟨_, rfl⟩
  obtain ⟨M, hM⟩ : ∃ M, ml + v + mr = M := ⟨_, rfl⟩
  rw [hS] at e1 hn ⊢
  rw [hM] at e2 ⊢
  clear h1 h2 hS hM hB
  go_enter Tryd.func25, Tryd.ntmps25
  go_wp2_with fail
  refine (c1.out w (Below.refl _ _)).mono ?_
  rintro e w1 ⟨rfl, hb1⟩
  have b1 := Lib.hid hb1
  clear hb1 c1
  go_wp2_with fail
  refine (c2.out w1 b1.out).mono ?_
  rintro e w2 ⟨rfl, hb2⟩
  have b2 := Lib.hid (Below.after b1.out hb2)
  clear hb2 c2 b1
  go_wp2_with fail
  refine (c3.out w2 b2.out).mono ?_
  rintro e w3 ⟨rfl, hb3⟩
  have b3 := Lib.hid (Below.after b2.out hb3)
  clear hb3 c3 b2
  go_wp2_with fail
  refine (c4.out w3 b3.out).mono ?_
  rintro e w4 ⟨rfl, hb4⟩
  have b4 := Lib.hid (Below.after b3.out hb4)
  clear hb4 c4 b3
  go_wp2
  go_ret
  exact ⟨_, rfl, b4.out.size, ⟨_, rfl, by simp, Has.new w4 _ _, hn.out⟩, b4.out.alloc b4.out.size _⟩
theorem node_says : NodeSays NdS where
  next := nextS
  more := fun ⟨g, e, hg, hh⟩ hb => ⟨g, e, Nat.lt_of_lt_of_le hg hb, hh⟩
  lt := fun ⟨g, e, hg, _⟩ => by rw [e]; exact hg
  lies := fun ⟨g, e, _, hh, _⟩ => by rw [e]; exact ⟨_, _, hh⟩
  new := newS
  left := leftS
  left0 := leftS0
  right := rightS
  right0 := rightS0
  key := keyS
  key0 := keyS0
  val := valS
  val0 := valS0
  tag := tagS
  tag0 := tagS0
  size := sizeS
  size0 := sizeS0
  sum := sumS
  sum0 := sumS0
end Go.Proofs.YtlhnjgmjkoafpaaDoor
