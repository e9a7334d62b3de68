/- The contracts of the fourteen functions of package order's rules, and of cmp.Compare: each returns what the plain mathematics says. -/
import Derived.Test.YtjnnfineebabaaaDoorL2Math
import Derived.Test.YtjnnfineebabaaaDoorL1Turn
import Derived.Test.YtjnnfineebabaaaDoorL1Bwd
namespace Go.Proofs.YtjnnfineebabaaaDoor
open Go.RowKit Go.Proofs.Mixm

theorem k_u (b : BitVec 64) : IntKind.u64.wrap b.toInt = (b.toNat : Int) := g64 b _ (BitVec.ofInt_toInt)
theorem w_i (c : BitVec 64) : wrap64 (c.toNat : Int) = c.toInt := by
  have := c.isLt
  rw [BitVec.toInt_eq_toNat_cond]
  unfold wrap64
  split
  · omega
  · simp; omega
theorem addMid (a : BitVec 64) : IntKind.u64.wrap ((a.toNat : Int) + (9223372036854775808 : Int)) = ((Ordm.up a).toNat : Int) := v_add a 0x8000000000000000#64
theorem subMid (a : BitVec 64) : IntKind.u64.wrap ((a.toNat : Int) - (9223372036854775808 : Int)) = ((Ordm.unUp a).toNat : Int) := v_sub a 0x8000000000000000#64
theorem sar63 (b : BitVec 64) : IntKind.u64.wrap (b.toInt / (9223372036854775808 : Int)) = ((b.sshiftRight 63).toNat : Int) := by
  rcases Ordm.msb_or b with ⟨h, l⟩ | ⟨h, l⟩
  · obtain ⟨e, m⟩ := Ordm.toInt_pos b h
    rw [Ordm.sar_pos b h, show b.toInt / (9223372036854775808 : Int) = 0 by omega]; rfl
  · obtain ⟨e, m⟩ := Ordm.toInt_neg b h
    have := b.isLt
    rw [Ordm.sar_neg b h, show b.toInt / (9223372036854775808 : Int) = -1 by omega]; rfl
theorem negW (a : BitVec 64) : IntKind.u64.wrap (-(a.toNat : Int)) = ((0#64 - a).toNat : Int) := by
  have h := v_sub 0#64 a
  rw [show ((0#64).toNat : Int) - (a.toNat : Int) = -(a.toNat : Int) by simp] at h
  exact h
theorem and1 (a : BitVec 64) : bits .and .u64 (a.toNat : Int) (1 : Int) = ((a &&& 1#64).toNat : Int) := v_and a 1#64
theorem notW (a : BitVec 64) : bits .xor .u64 IntKind.u64.max (a.toNat : Int) = ((~~~ a).toNat : Int) := by
  have h := v_xor (BitVec.allOnes 64) a
  rw [BitVec.allOnes_xor] at h
  exact h

set_option maxHeartbeats 400000 in
theorem up_any (b : BitVec 64) (w : World) : Calls Tryd.prog 69 #[K b] w fun e w' => e = .returned (V (Ordm.up b)) ∧ w = w' := by
  go_enter Tryd.func69, Tryd.ntmps69
  go_wp2
  go_ret
  exact ⟨ret_int (by rw [k_u, addMid]), rfl⟩

set_option maxHeartbeats 400000 in
theorem fromUp_any (b : BitVec 64) (w : World) : Calls Tryd.prog 70 #[V b] w fun e w' => e = .returned (K (Ordm.unUp b)) ∧ w = w' := by
  go_enter Tryd.func70, Tryd.ntmps70
  go_wp2
  go_ret
  exact ⟨ret_int (by rw [subMid, w_i]), rfl⟩

set_option maxHeartbeats 400000 in
theorem down_any (b : BitVec 64) (w : World) : Calls Tryd.prog 71 #[K b] w fun e w' => e = .returned (V (Ordm.down b)) ∧ w = w' := by
  go_enter Tryd.func71, Tryd.ntmps71
  go_wp2_with (first | (go_at_call 69; refine (up_any _ _).mono ?_; rintro e w' ⟨rfl, rfl⟩))
  go_ret
  exact ⟨ret_int (notW _), rfl⟩

set_option maxHeartbeats 400000 in
theorem fromDown_any (b : BitVec 64) (w : World) : Calls Tryd.prog 72 #[V b] w fun e w' => e = .returned (K (Ordm.unDown b)) ∧ w = w' := by
  go_enter Tryd.func72, Tryd.ntmps72
  go_wp2_with (first | (go_at_call 70; rw [notW]; refine (fromUp_any _ _).mono ?_; rintro e w' ⟨rfl, rfl⟩))
  go_ret
  exact ⟨rfl, rfl⟩

set_option maxHeartbeats 400000 in
theorem size_any (b : BitVec 64) (w : World) : Calls Tryd.prog 73 #[K b] w fun e w' => e = .returned (V (Ordm.size b)) ∧ w = w' := by
  go_enter Tryd.func73, Tryd.ntmps73
  go_wp2
  go_ret
  exact ⟨ret_int (by rw [k_u, p1, sar63, v_xor]; rfl), rfl⟩

set_option maxHeartbeats 400000 in
theorem fromSize_any (b : BitVec 64) (w : World) : Calls Tryd.prog 74 #[V b] w fun e w' => e = .returned (K (Ordm.unSize b)) ∧ w = w' := by
  go_enter Tryd.func74, Tryd.ntmps74
  go_wp2
  go_ret
  exact ⟨ret_int (by rw [q1, and1, negW, v_xor, w_i]; rfl), rfl⟩

set_option maxHeartbeats 400000 in
theorem bits_any (b : BitVec 64) (w : World) : Calls Tryd.prog 75 #[K b] w fun e w' => e = .returned (V (flip b)) ∧ w = w' := by
  go_enter Tryd.func75, Tryd.ntmps75
  go_wp2_with (first | (go_at_call 89; rw [k_u]; refine (flip_any _ _).mono ?_; rintro e w' ⟨rfl, rfl⟩))
  go_ret
  exact ⟨rfl, rfl⟩

set_option maxHeartbeats 400000 in
theorem fromBits_any (b : BitVec 64) (w : World) : Calls Tryd.prog 76 #[V b] w fun e w' => e = .returned (K (flip b)) ∧ w = w' := by
  go_enter Tryd.func76, Tryd.ntmps76
  go_wp2_with (first | (go_at_call 89; refine (flip_any _ _).mono ?_; rintro e w' ⟨rfl, rfl⟩))
  go_ret
  exact ⟨ret_int (w_i _), rfl⟩

set_option maxHeartbeats 400000 in
theorem even_any (b : BitVec 64) (w : World) : Calls Tryd.prog 77 #[K b] w fun e w' => e = .returned (V (Ordm.even b)) ∧ w = w' := by
  go_enter Tryd.func77, Tryd.ntmps77
  go_wp2_with (first | (go_at_call 69; refine (up_any _ _).mono ?_; rintro e w' ⟨rfl, rfl⟩) | (go_at_call 90; refine (turn_any _ _ _).mono ?_; rintro e w' ⟨rfl, rfl⟩))
  go_ret
  exact ⟨rfl, rfl⟩

set_option maxHeartbeats 400000 in
theorem fromEven_any (b : BitVec 64) (w : World) : Calls Tryd.prog 78 #[V b] w fun e w' => e = .returned (K (Ordm.unEven b)) ∧ w = w' := by
  go_enter Tryd.func78, Tryd.ntmps78
  go_wp2_with (first | (go_at_call 90; refine (turn_any _ _ _).mono ?_; rintro e w' ⟨rfl, rfl⟩) | (go_at_call 70; refine (fromUp_any _ _).mono ?_; rintro e w' ⟨rfl, rfl⟩))
  go_ret
  exact ⟨rfl, rfl⟩

set_option maxHeartbeats 400000 in
theorem low_any (b : BitVec 64) (w : World) : Calls Tryd.prog 79 #[K b] w fun e w' => e = .returned (V (Ordm.low b)) ∧ w = w' := by
  go_enter Tryd.func79, Tryd.ntmps79
  go_wp2_with (first | (go_at_call 69; refine (up_any _ _).mono ?_; rintro e w' ⟨rfl, rfl⟩) | (go_at_call 90; refine (turn_any _ _ _).mono ?_; rintro e w' ⟨rfl, rfl⟩))
  go_ret
  exact ⟨rfl, rfl⟩

set_option maxHeartbeats 400000 in
theorem fromLow_any (b : BitVec 64) (w : World) : Calls Tryd.prog 80 #[V b] w fun e w' => e = .returned (K (Ordm.unLow b)) ∧ w = w' := by
  go_enter Tryd.func80, Tryd.ntmps80
  go_wp2_with (first | (go_at_call 90; refine (turn_any _ _ _).mono ?_; rintro e w' ⟨rfl, rfl⟩) | (go_at_call 70; refine (fromUp_any _ _).mono ?_; rintro e w' ⟨rfl, rfl⟩))
  go_ret
  exact ⟨rfl, rfl⟩

set_option maxHeartbeats 400000 in
theorem mixed_any (b : BitVec 64) (w : World) (h0 : 0 < w.heap.size) (hs : Steps w) : Calls Tryd.prog 81 #[K b] w fun e w' => e = .returned (V (mix b)) ∧ Below w.heap.size w w' := by
  have hs' := Lib.hid hs
  clear hs
  go_enter Tryd.func81, Tryd.ntmps81
  go_wp2_with fail
  rw [k_u]
  refine (mix_any _ _ h0 hs'.out).mono ?_
  rintro e w' ⟨rfl, hb⟩
  go_wp2
  go_ret
  exact ⟨rfl, hb⟩

set_option maxHeartbeats 400000 in
theorem fromMixed_any (b : BitVec 64) (w : World) (h0 : 0 < w.heap.size) (hs : Steps w) : Calls Tryd.prog 82 #[V b] w fun e w' => e = .returned (K (unmix b)) ∧ Below w.heap.size w w' := by
  have hs' := Lib.hid hs
  clear hs
  go_enter Tryd.func82, Tryd.ntmps82
  go_wp2_with fail
  refine (unmix_any _ _ h0 hs'.out).mono ?_
  rintro e w' ⟨rfl, hb⟩
  go_wp2
  go_ret
  exact ⟨ret_int (w_i _), hb⟩

set_option maxHeartbeats 400000 in
theorem isNaN_any (a : BitVec 64) (w : World) : Calls Tryd.prog 63 #[V a] w fun e w' => e = .returned (.bool false) ∧ w = w' := by
  go_enter Tryd.func63, Tryd.ntmps63
  go_wp2
  go_ret
  exact ⟨by simp, rfl⟩

set_option maxHeartbeats 400000 in
theorem cmp_any (a b : BitVec 64) (w : World) : Calls Tryd.prog 51 #[V a, V b] w fun e w' => e = .returned (.int .i64 (Ordm.cmp a b)) ∧ w = w' := by
  rcases Ordm.cmp_cases a b with ⟨h, hc⟩ | ⟨h, hc⟩ | ⟨h, hc⟩
  · rw [hc]; clear hc
    go_enter Tryd.func51, Tryd.ntmps51
    go_wp2_with (go_at_call 63; refine (isNaN_any _ _).mono ?_; rintro e w' ⟨rfl, rfl⟩)
    go_ret
    exact ⟨rfl, rfl⟩
  · rw [hc]; clear hc
    have h' : ¬ a.toNat < b.toNat := by omega
    go_enter Tryd.func51, Tryd.ntmps51
    go_wp2_with (go_at_call 63; refine (isNaN_any _ _).mono ?_; rintro e w' ⟨rfl, rfl⟩)
    go_ret
    exact ⟨rfl, rfl⟩
  · rw [hc]; clear hc
    subst h
    go_enter Tryd.func51, Tryd.ntmps51
    go_wp2_with (go_at_call 63; refine (isNaN_any _ _).mono ?_; rintro e w' ⟨rfl, rfl⟩)
    go_ret
    exact ⟨rfl, rfl⟩

end Go.Proofs.YtjnnfineebabaaaDoor
