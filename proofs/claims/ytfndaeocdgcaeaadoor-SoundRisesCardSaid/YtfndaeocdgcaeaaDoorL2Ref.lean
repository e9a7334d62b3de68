/- The contracts of the document's answers for layer 2 (codes): each returns what the plain mathematics says. -/
import Derived.Test.YtfndaeocdgcaeaaDoorL2Leaf
import Derived.Test.YtfndaeocdgcaeaaDoorL1Ref
namespace Go.Proofs.YtfndaeocdgcaeaaDoor
open Go.RowKit Go.Proofs.Mixm

theorem notSub (a : BitVec 64) : (18446744073709551615 : Int) - (a.toNat : Int) = ((~~~ a).toNat : Int) := by
  have := a.isLt
  rw [BitVec.toNat_not]; omega
theorem sizeNeg (b : BitVec 64) (h : b.toInt < 0) : IntKind.u64.wrap (IntKind.u64.wrap (IntKind.u64.wrap (wrap64 (-wrap64 (b.toInt + 1))) * 2) + 1) = ((Ordm.size b).toNat : Int) := by
  have e := Ordm.size_toNat b
  rw [if_pos h] at e
  have lo := BitVec.le_toInt b
  simp only [Nat.reduceSub, Int.reducePow, Int.reduceNeg] at lo
  rw [e]
  have e1 : wrap64 (b.toInt + 1) = b.toInt + 1 := IntWalk.wrap64_in _ ⟨by omega, by omega⟩
  have e2 : wrap64 (-(b.toInt + 1)) = -(b.toInt + 1) := IntWalk.wrap64_in _ ⟨by omega, by omega⟩
  rw [e1, e2]
  simp only [IntKind.wrap_u64]
  omega
theorem sizePos (b : BitVec 64) (h : 0 ≤ b.toInt) : IntKind.u64.wrap (IntKind.u64.wrap b.toInt * 2) = ((Ordm.size b).toNat : Int) := by
  have e := Ordm.size_toNat b
  rw [if_neg (by omega)] at e
  have hi := BitVec.toInt_lt (x := b)
  simp only [Nat.reduceSub, Int.reducePow] at hi
  rw [e]
  simp only [IntKind.wrap_u64]
  omega
theorem up_odd (b : BitVec 64) : (Ordm.up b).toNat % 2 = b.toNat % 2 := by
  unfold Ordm.up
  rw [BitVec.toNat_add, show (0x8000000000000000#64).toNat = 2 ^ 63 from rfl]; omega
theorem evenOdd (b : BitVec 64) (h : ((IntKind.u64.wrap b.toInt).tmod 2 == 1) = true) : ((Ordm.up b).toNat : Int) / 2 + (9223372036854775808 : Int) = ((Ordm.even b).toNat : Int) := by
  have e := Ordm.rot63 (Ordm.up b)
  have o := up_odd b
  rw [k_u, Int.tmod_eq_emod_of_nonneg (by omega)] at h
  have h1 : b.toNat % 2 = 1 := by simp at h; omega
  unfold Ordm.even
  rw [e, o, h1]; omega
theorem evenEven (b : BitVec 64) (h : ((IntKind.u64.wrap b.toInt).tmod 2 == 1) = false) : ((Ordm.up b).toNat : Int) / 2 = ((Ordm.even b).toNat : Int) := by
  have e := Ordm.rot63 (Ordm.up b)
  have o := up_odd b
  rw [k_u, Int.tmod_eq_emod_of_nonneg (by omega)] at h
  have h1 : b.toNat % 2 = 0 := by simp at h; omega
  unfold Ordm.even
  rw [e, o, h1]; omega

set_option maxHeartbeats 400000 in
theorem refUp_any (b : BitVec 64) (w : World) : Calls Tryd.prog 72 #[K b] w fun e w' => e = .returned (V (Ordm.up b)) ∧ w = w' := by
  go_enter Tryd.func72, Tryd.ntmps72
  go_wp2
  go_ret
  exact ⟨ret_int (by rw [k_u, addMid]), rfl⟩

set_option maxHeartbeats 400000 in
theorem refCode_1 (b : BitVec 64) (w : World) : Calls Tryd.prog 67 #[.int .u8 1, K b] w fun e w' => e = .returned (V (Ordm.code 1 b)) ∧ w = w' := by
  go_enter Tryd.func67, Tryd.ntmps67
  go_wp2_with (first | (go_at_call 72; refine (refUp_any _ _).mono ?_; rintro e w' ⟨rfl, rfl⟩) | (go_at_call 73; rw [k_u]; refine (refFlip_any _ _).mono ?_; rintro e w' ⟨rfl, rfl⟩) | (go_at_call 74; refine (refTurn_any _ _ _).mono ?_; rintro e w' ⟨rfl, rfl⟩) | (go_at_call 75; rw [k_u]; refine (refMix_any _ _).mono ?_; rintro e w' ⟨rfl, rfl⟩))
  go_ret
  exact ⟨rfl, rfl⟩

set_option maxHeartbeats 400000 in
theorem refCode_2 (b : BitVec 64) (w : World) : Calls Tryd.prog 67 #[.int .u8 2, K b] w fun e w' => e = .returned (V (Ordm.code 2 b)) ∧ w = w' := by
  go_enter Tryd.func67, Tryd.ntmps67
  go_wp2_with (first | (go_at_call 72; refine (refUp_any _ _).mono ?_; rintro e w' ⟨rfl, rfl⟩) | (go_at_call 73; rw [k_u]; refine (refFlip_any _ _).mono ?_; rintro e w' ⟨rfl, rfl⟩) | (go_at_call 74; refine (refTurn_any _ _ _).mono ?_; rintro e w' ⟨rfl, rfl⟩) | (go_at_call 75; rw [k_u]; refine (refMix_any _ _).mono ?_; rintro e w' ⟨rfl, rfl⟩))
  go_ret
  refine ⟨ret_int ?_, rfl⟩
  rw [notSub]
  rfl

set_option maxHeartbeats 400000 in
theorem refCode_3 (b : BitVec 64) (w : World) : Calls Tryd.prog 67 #[.int .u8 3, K b] w fun e w' => e = .returned (V (Ordm.code 3 b)) ∧ w = w' := by
  go_enter Tryd.func67, Tryd.ntmps67
  go_wp2_with (first | (go_at_call 72; refine (refUp_any _ _).mono ?_; rintro e w' ⟨rfl, rfl⟩) | (go_at_call 73; rw [k_u]; refine (refFlip_any _ _).mono ?_; rintro e w' ⟨rfl, rfl⟩) | (go_at_call 74; refine (refTurn_any _ _ _).mono ?_; rintro e w' ⟨rfl, rfl⟩) | (go_at_call 75; rw [k_u]; refine (refMix_any _ _).mono ?_; rintro e w' ⟨rfl, rfl⟩))
  · rename_i h
    go_ret
    exact ⟨ret_int (sizeNeg b h), rfl⟩
  · rename_i h
    go_ret
    exact ⟨ret_int (sizePos b h), rfl⟩

set_option maxHeartbeats 400000 in
theorem refCode_4 (b : BitVec 64) (w : World) : Calls Tryd.prog 67 #[.int .u8 4, K b] w fun e w' => e = .returned (V (Ordm.code 4 b)) ∧ w = w' := by
  go_enter Tryd.func67, Tryd.ntmps67
  go_wp2_with (first | (go_at_call 72; refine (refUp_any _ _).mono ?_; rintro e w' ⟨rfl, rfl⟩) | (go_at_call 73; rw [k_u]; refine (refFlip_any _ _).mono ?_; rintro e w' ⟨rfl, rfl⟩) | (go_at_call 74; refine (refTurn_any _ _ _).mono ?_; rintro e w' ⟨rfl, rfl⟩) | (go_at_call 75; rw [k_u]; refine (refMix_any _ _).mono ?_; rintro e w' ⟨rfl, rfl⟩))
  go_ret
  exact ⟨rfl, rfl⟩

set_option maxHeartbeats 400000 in
theorem refCode_5 (b : BitVec 64) (w : World) : Calls Tryd.prog 67 #[.int .u8 5, K b] w fun e w' => e = .returned (V (Ordm.code 5 b)) ∧ w = w' := by
  go_enter Tryd.func67, Tryd.ntmps67
  go_wp2_with (first | (go_at_call 72; refine (refUp_any _ _).mono ?_; rintro e w' ⟨rfl, rfl⟩) | (go_at_call 73; rw [k_u]; refine (refFlip_any _ _).mono ?_; rintro e w' ⟨rfl, rfl⟩) | (go_at_call 74; refine (refTurn_any _ _ _).mono ?_; rintro e w' ⟨rfl, rfl⟩) | (go_at_call 75; rw [k_u]; refine (refMix_any _ _).mono ?_; rintro e w' ⟨rfl, rfl⟩))
  · rename_i h
    go_ret
    exact ⟨ret_int (evenOdd b h), rfl⟩
  · rename_i h
    go_ret
    exact ⟨ret_int (evenEven b h), rfl⟩

set_option maxHeartbeats 400000 in
theorem refCode_6 (b : BitVec 64) (w : World) : Calls Tryd.prog 67 #[.int .u8 6, K b] w fun e w' => e = .returned (V (Ordm.code 6 b)) ∧ w = w' := by
  go_enter Tryd.func67, Tryd.ntmps67
  go_wp2_with (first | (go_at_call 72; refine (refUp_any _ _).mono ?_; rintro e w' ⟨rfl, rfl⟩) | (go_at_call 73; rw [k_u]; refine (refFlip_any _ _).mono ?_; rintro e w' ⟨rfl, rfl⟩) | (go_at_call 74; refine (refTurn_any _ _ _).mono ?_; rintro e w' ⟨rfl, rfl⟩) | (go_at_call 75; rw [k_u]; refine (refMix_any _ _).mono ?_; rintro e w' ⟨rfl, rfl⟩))
  go_ret
  exact ⟨rfl, rfl⟩

set_option maxHeartbeats 400000 in
theorem refCode_7 (b : BitVec 64) (w : World) : Calls Tryd.prog 67 #[.int .u8 7, K b] w fun e w' => e = .returned (V (Ordm.code 7 b)) ∧ w = w' := by
  go_enter Tryd.func67, Tryd.ntmps67
  go_wp2_with (first | (go_at_call 72; refine (refUp_any _ _).mono ?_; rintro e w' ⟨rfl, rfl⟩) | (go_at_call 73; rw [k_u]; refine (refFlip_any _ _).mono ?_; rintro e w' ⟨rfl, rfl⟩) | (go_at_call 74; refine (refTurn_any _ _ _).mono ?_; rintro e w' ⟨rfl, rfl⟩) | (go_at_call 75; rw [k_u]; refine (refMix_any _ _).mono ?_; rintro e w' ⟨rfl, rfl⟩))
  go_ret
  exact ⟨rfl, rfl⟩

theorem refCode_at (o : Nat) (h1 : 1 ≤ o) (h7 : o ≤ 7) (b : BitVec 64) (w : World) : Calls Tryd.prog 67 #[.int .u8 o, K b] w fun e w' => e = .returned (V (Ordm.code o b)) ∧ w = w' := by
  have : o = 1 ∨ o = 2 ∨ o = 3 ∨ o = 4 ∨ o = 5 ∨ o = 6 ∨ o = 7 := by omega
  rcases this with rfl | rfl | rfl | rfl | rfl | rfl | rfl
  · exact refCode_1 b w
  · exact refCode_2 b w
  · exact refCode_3 b w
  · exact refCode_4 b w
  · exact refCode_5 b w
  · exact refCode_6 b w
  · exact refCode_7 b w

set_option maxHeartbeats 400000 in
theorem refIs_yes (o : Nat) (h1 : 1 ≤ o) (h7 : o ≤ 7) (w : World) : Calls Tryd.prog 45 #[.int .u8 o] w fun e w' => e = .returned (.bool true) ∧ w = w' := by
  have hd : decide ((o : Int) ≤ 7) = true := by simp; omega
  go_enter Tryd.func45, Tryd.ntmps45
  go_wp2
  go_ret
  exact ⟨rfl, rfl⟩

set_option maxHeartbeats 400000 in
theorem refIs_no (o : Int) (h : ¬ (1 ≤ o ∧ o ≤ 7)) (w : World) : Calls Tryd.prog 45 #[.int .u8 o] w fun e w' => e = .returned (.bool false) ∧ w = w' := by
  by_cases h1 : 1 ≤ o
  · have h2 : ¬ o ≤ 7 := fun h' => h ⟨h1, h'⟩
    clear h
    go_enter Tryd.func45, Tryd.ntmps45
    go_wp2
    go_ret
    exact ⟨rfl, rfl⟩
  · clear h
    go_enter Tryd.func45, Tryd.ntmps45
    go_wp2
    go_ret
    exact ⟨rfl, rfl⟩

set_option maxHeartbeats 400000 in
theorem refCompare_none (o : Int) (h : ¬ (1 ≤ o ∧ o ≤ 7)) (a b : BitVec 64) (w : World) : Calls Tryd.prog 49 #[.int .u8 o, K a, K b] w fun e w' => e = .returned (.int .i64 0) ∧ w = w' := by
  have h' := Lib.hid h
  clear h
  go_enter Tryd.func49, Tryd.ntmps49
  go_wp2_with (go_at_call 45; refine (refIs_no _ h'.out _).mono ?_; rintro e w' ⟨rfl, rfl⟩)
  go_ret
  exact ⟨rfl, rfl⟩

set_option maxHeartbeats 400000 in
theorem refCompare_at (o : Nat) (h1 : 1 ≤ o) (h7 : o ≤ 7) (a b : BitVec 64) (w : World) : Calls Tryd.prog 49 #[.int .u8 o, K a, K b] w fun e w' => e = .returned (.int .i64 (Ordm.stand o a b)) ∧ w = w' := by
  unfold Ordm.stand
  have ca := Lib.hid fun w => refCode_at o h1 h7 a w
  have cb := Lib.hid fun w => refCode_at o h1 h7 b w
  generalize Ordm.code o a = x at ca ⊢
  generalize Ordm.code o b = y at cb ⊢
  rcases Ordm.cmp_cases x y with ⟨h, hc⟩ | ⟨h, hc⟩ | ⟨h, hc⟩
  · rw [hc]; clear hc
    have hn : ((x.toNat : Int) == (y.toNat : Int)) = false := by simp; omega
    go_enter Tryd.func49, Tryd.ntmps49
    go_wp2_with (first | (go_at_call 45; refine (refIs_yes _ h1 h7 _).mono ?_; rintro e w' ⟨rfl, rfl⟩) | (go_at_call 67; (with_reducible refine (ca.out _).mono ?_); rintro e w' ⟨rfl, rfl⟩) | (go_at_call 67; (with_reducible refine (cb.out _).mono ?_); rintro e w' ⟨rfl, rfl⟩))
    go_ret
    exact ⟨rfl, rfl⟩
  · rw [hc]; clear hc
    have hn : ((x.toNat : Int) == (y.toNat : Int)) = false := by simp; omega
    have h' : ¬ x.toNat < y.toNat := by omega
    go_enter Tryd.func49, Tryd.ntmps49
    go_wp2_with (first | (go_at_call 45; refine (refIs_yes _ h1 h7 _).mono ?_; rintro e w' ⟨rfl, rfl⟩) | (go_at_call 67; (with_reducible refine (ca.out _).mono ?_); rintro e w' ⟨rfl, rfl⟩) | (go_at_call 67; (with_reducible refine (cb.out _).mono ?_); rintro e w' ⟨rfl, rfl⟩))
    go_ret
    exact ⟨rfl, rfl⟩
  · rw [hc]; clear hc
    subst h
    go_enter Tryd.func49, Tryd.ntmps49
    go_wp2_with (first | (go_at_call 45; refine (refIs_yes _ h1 h7 _).mono ?_; rintro e w' ⟨rfl, rfl⟩) | (go_at_call 67; (with_reducible refine (ca.out _).mono ?_); rintro e w' ⟨rfl, rfl⟩) | (go_at_call 67; (with_reducible refine (cb.out _).mono ?_); rintro e w' ⟨rfl, rfl⟩))
    go_ret
    exact ⟨rfl, rfl⟩

end Go.Proofs.YtfndaeocdgcaeaaDoor
