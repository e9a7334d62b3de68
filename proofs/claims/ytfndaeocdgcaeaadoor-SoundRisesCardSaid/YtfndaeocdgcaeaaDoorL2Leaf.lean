/- The contracts of the fourteen functions of package order's rules, and of cmp.Compare: each returns what the plain mathematics says. -/
import Derived.Test.YtfndaeocdgcaeaaDoorL2Math
import Derived.Test.YtfndaeocdgcaeaaDoorL1Turn
import Derived.Test.YtfndaeocdgcaeaaDoorL1Bwd
namespace Go.Proofs.YtfndaeocdgcaeaaDoor
open Go.RowKit Go.Proofs.Mixm

theorem k_u (b : BitVec 64) : IntKind.u64.wrap b.toInt = (b.toNat : Int) := g64 b _ (BitVec.ofInt_toInt)
theorem w_i (c : BitVec 64) : wrap64 (c.toNat : Int) = c.toInt := by
  have := c.isLt
  rw [BitVec.toInt_eq_toNat_cond]
  unfold wrap64
  split
  · omega
  · simp; omega
theorem addMid (a : BitVec 64) : IntKind.u64.wrap ((a.toNat : Int) + (9223372036854775808 : Int)) = ((Ordm.up a).toNat : Int) := v_add a 0x8000000000000000#64
theorem subMid (a : BitVec 64) : IntKind.u64.wrap ((a.toNat : Int) - (9223372036854775808 : Int)) = ((Ordm.unUp a).toNat : Int) := v_sub a 0x8000000000000000#64
theorem sar63 (b : BitVec 64) : IntKind.u64.wrap (b.toInt / (9223372036854775808 : Int)) = ((b.sshiftRight 63).toNat : Int) := by
  rcases Ordm.msb_or b with ⟨h, l⟩ | ⟨h, l⟩
  · obtain ⟨e, m⟩ := Ordm.toInt_pos b h
    rw [Ordm.sar_pos b h, show b.toInt / (9223372036854775808 : Int) = 0 by omega]; rfl
  · obtain ⟨e, m⟩ := Ordm.toInt_neg b h
    have := b.isLt
    rw [Ordm.sar_neg b h, show b.toInt / (9223372036854775808 : Int) = -1 by omega]; rfl
theorem negW (a : BitVec 64) : IntKind.u64.wrap (-(a.toNat : Int)) = ((0#64 - a).toNat : Int) := by
  have h := v_sub 0#64 a
  rw [show ((0#64).toNat : Int) - (a.toNat : Int) = -(a.toNat : Int) by simp] at h
  exact h
theorem and1 (a : BitVec 64) : bits .and .u64 (a.toNat : Int) (1 : Int) = ((a &&& 1#64).toNat : Int) := v_and a 1#64
theorem notW (a : BitVec 64) : bits .xor .u64 IntKind.u64.max (a.toNat : Int) = ((~~~ a).toNat : Int) := by
  have h := v_xor (BitVec.allOnes 64) a
  rw [BitVec.allOnes_xor] at h
  exact h

set_option maxHeartbeats 400000 in
theorem up_any (b : BitVec 64) (w : World) : Calls Tryd.prog 50 #[K b] w fun e w' => e = .returned (V (Ordm.up b)) ∧ w = w' := by
  go_enter Tryd.func50, Tryd.ntmps50
  go_wp2
  go_ret
  exact ⟨ret_int (by rw [k_u, addMid]), rfl⟩

set_option maxHeartbeats 400000 in
theorem fromUp_any (b : BitVec 64) (w : World) : Calls Tryd.prog 51 #[V b] w fun e w' => e = .returned (K (Ordm.unUp b)) ∧ w = w' := by
  go_enter Tryd.func51, Tryd.ntmps51
  go_wp2
  go_ret
  exact ⟨ret_int (by rw [subMid, w_i]), rfl⟩

set_option maxHeartbeats 400000 in
theorem down_any (b : BitVec 64) (w : World) : Calls Tryd.prog 52 #[K b] w fun e w' => e = .returned (V (Ordm.down b)) ∧ w = w' := by
  go_enter Tryd.func52, Tryd.ntmps52
  go_wp2_with (first | (go_at_call 50; refine (up_any _ _).mono ?_; rintro e w' ⟨rfl, rfl⟩))
  go_ret
  exact ⟨ret_int (notW _), rfl⟩

set_option maxHeartbeats 400000 in
theorem fromDown_any (b : BitVec 64) (w : World) : Calls Tryd.prog 53 #[V b] w fun e w' => e = .returned (K (Ordm.unDown b)) ∧ w = w' := by
  go_enter Tryd.func53, Tryd.ntmps53
  go_wp2_with (first | (go_at_call 51; rw [notW]; refine (fromUp_any _ _).mono ?_; rintro e w' ⟨rfl, rfl⟩))
  go_ret
  exact ⟨rfl, rfl⟩

set_option maxHeartbeats 400000 in
theorem size_any (b : BitVec 64) (w : World) : Calls Tryd.prog 54 #[K b] w fun e w' => e = .returned (V (Ordm.size b)) ∧ w = w' := by
  go_enter Tryd.func54, Tryd.ntmps54
  go_wp2
  go_ret
  exact ⟨ret_int (by rw [k_u, p1, sar63, v_xor]; rfl), rfl⟩

set_option maxHeartbeats 400000 in
theorem fromSize_any (b : BitVec 64) (w : World) : Calls Tryd.prog 55 #[V b] w fun e w' => e = .returned (K (Ordm.unSize b)) ∧ w = w' := by
  go_enter Tryd.func55, Tryd.ntmps55
  go_wp2
  go_ret
  exact ⟨ret_int (by rw [q1, and1, negW, v_xor, w_i]; rfl), rfl⟩

set_option maxHeartbeats 400000 in
theorem bits_any (b : BitVec 64) (w : World) : Calls Tryd.prog 56 #[K b] w fun e w' => e = .returned (V (flip b)) ∧ w = w' := by
  go_enter Tryd.func56, Tryd.ntmps56
  go_wp2_with (first | (go_at_call 68; rw [k_u]; refine (flip_any _ _).mono ?_; rintro e w' ⟨rfl, rfl⟩))
  go_ret
  exact ⟨rfl, rfl⟩

set_option maxHeartbeats 400000 in
theorem fromBits_any (b : BitVec 64) (w : World) : Calls Tryd.prog 57 #[V b] w fun e w' => e = .returned (K (flip b)) ∧ w = w' := by
  go_enter Tryd.func57, Tryd.ntmps57
  go_wp2_with (first | (go_at_call 68; refine (flip_any _ _).mono ?_; rintro e w' ⟨rfl, rfl⟩))
  go_ret
  exact ⟨ret_int (w_i _), rfl⟩

set_option maxHeartbeats 400000 in
theorem even_any (b : BitVec 64) (w : World) : Calls Tryd.prog 58 #[K b] w fun e w' => e = .returned (V (Ordm.even b)) ∧ w = w' := by
  go_enter Tryd.func58, Tryd.ntmps58
  go_wp2_with (first | (go_at_call 50; refine (up_any _ _).mono ?_; rintro e w' ⟨rfl, rfl⟩) | (go_at_call 69; refine (turn_any _ _ _).mono ?_; rintro e w' ⟨rfl, rfl⟩))
  go_ret
  exact ⟨rfl, rfl⟩

set_option maxHeartbeats 400000 in
theorem fromEven_any (b : BitVec 64) (w : World) : Calls Tryd.prog 59 #[V b] w fun e w' => e = .returned (K (Ordm.unEven b)) ∧ w = w' := by
  go_enter Tryd.func59, Tryd.ntmps59
  go_wp2_with (first | (go_at_call 69; refine (turn_any _ _ _).mono ?_; rintro e w' ⟨rfl, rfl⟩) | (go_at_call 51; refine (fromUp_any _ _).mono ?_; rintro e w' ⟨rfl, rfl⟩))
  go_ret
  exact ⟨rfl, rfl⟩

set_option maxHeartbeats 400000 in
theorem low_any (b : BitVec 64) (w : World) : Calls Tryd.prog 60 #[K b] w fun e w' => e = .returned (V (Ordm.low b)) ∧ w = w' := by
  go_enter Tryd.func60, Tryd.ntmps60
  go_wp2_with (first | (go_at_call 50; refine (up_any _ _).mono ?_; rintro e w' ⟨rfl, rfl⟩) | (go_at_call 69; refine (turn_any _ _ _).mono ?_; rintro e w' ⟨rfl, rfl⟩))
  go_ret
  exact ⟨rfl, rfl⟩

set_option maxHeartbeats 400000 in
theorem fromLow_any (b : BitVec 64) (w : World) : Calls Tryd.prog 61 #[V b] w fun e w' => e = .returned (K (Ordm.unLow b)) ∧ w = w' := by
  go_enter Tryd.func61, Tryd.ntmps61
  go_wp2_with (first | (go_at_call 69; refine (turn_any _ _ _).mono ?_; rintro e w' ⟨rfl, rfl⟩) | (go_at_call 51; refine (fromUp_any _ _).mono ?_; rintro e w' ⟨rfl, rfl⟩))
  go_ret
  exact ⟨rfl, rfl⟩

set_option maxHeartbeats 400000 in
theorem mixed_any (b : BitVec 64) (w : World) (h0 : 0 < w.heap.size) (hs : Steps w) : Calls Tryd.prog 62 #[K b] w fun e w' => e = .returned (V (mix b)) ∧ Below w.heap.size w w' := by
  have hs' := Lib.hid hs
  clear hs
  go_enter Tryd.func62, Tryd.ntmps62
  go_wp2_with fail
  rw [k_u]
  refine (mix_any _ _ h0 hs'.out).mono ?_
  rintro e w' ⟨rfl, hb⟩
  go_wp2
  go_ret
  exact ⟨rfl, hb⟩

set_option maxHeartbeats 400000 in
theorem fromMixed_any (b : BitVec 64) (w : World) (h0 : 0 < w.heap.size) (hs : Steps w) : Calls Tryd.prog 63 #[V b] w fun e w' => e = .returned (K (unmix b)) ∧ Below w.heap.size w w' := by
  have hs' := Lib.hid hs
  clear hs
  go_enter Tryd.func63, Tryd.ntmps63
  go_wp2_with fail
  refine (unmix_any _ _ h0 hs'.out).mono ?_
  rintro e w' ⟨rfl, hb⟩
  go_wp2
  go_ret
  exact ⟨ret_int (w_i _), hb⟩

set_option maxHeartbeats 400000 in
theorem isNaN_any (a : BitVec 64) (w : World) : Calls Tryd.prog 64 #[V a] w fun e w' => e = .returned (.bool false) ∧ w = w' := by
  go_enter Tryd.func64, Tryd.ntmps64
  go_wp2
  go_ret
  exact ⟨by simp, rfl⟩

set_option maxHeartbeats 400000 in
theorem cmp_any (a b : BitVec 64) (w : World) : Calls Tryd.prog 35 #[V a, V b] w fun e w' => e = .returned (.int .i64 (Ordm.cmp a b)) ∧ w = w' := by
  rcases Ordm.cmp_cases a b with ⟨h, hc⟩ | ⟨h, hc⟩ | ⟨h, hc⟩
  · rw [hc]; clear hc
    go_enter Tryd.func35, Tryd.ntmps35
    go_wp2_with (go_at_call 64; refine (isNaN_any _ _).mono ?_; rintro e w' ⟨rfl, rfl⟩)
    go_ret
    exact ⟨rfl, rfl⟩
  · rw [hc]; clear hc
    have h' : ¬ a.toNat < b.toNat := by omega
    go_enter Tryd.func35, Tryd.ntmps35
    go_wp2_with (go_at_call 64; refine (isNaN_any _ _).mono ?_; rintro e w' ⟨rfl, rfl⟩)
    go_ret
    exact ⟨rfl, rfl⟩
  · rw [hc]; clear hc
    subst h
    go_enter Tryd.func35, Tryd.ntmps35
    go_wp2_with (go_at_call 64; refine (isNaN_any _ _).mono ?_; rintro e w' ⟨rfl, rfl⟩)
    go_ret
    exact ⟨rfl, rfl⟩

end Go.Proofs.YtfndaeocdgcaeaaDoor
