/- Package wb, as landed: together, Weight, Like, Make, Rank. Made by wip/gen/layer18wb.py. -/
import Derived.Test.YtifhnaelkjfmdaaL18Says
import Derived.Test.YtifhnaelkjfmdaaGRet
import Derived.Test.YtifhnaelkjfmdaaGRow
import Derived.Test.YtifhnaelkjfmdaaS14Nodes
import Derived.IntWalk
namespace Go.Proofs.Ytifhnaelkjfmdaa
open Go.RowKit Go.Proofs.Treem
set_option maxRecDepth 100000
variable {Nd : NdP}

set_option maxHeartbeats 4000000 in
/-- what two numbers come to -/
theorem togetherI_any (w : World) (g : Nat) (x y z : Int) (h : Has w g 3 #[.int .i64 x, .int .i64 y]) (x0 : 0 ≤ x) (x1 : x ≤ 1099511627776) (y0 : 0 ≤ y) (y1 : y ≤ 1099511627776) (hz : x + y = z) : Calls Try.prog 78 #[.slice (some ⟨g, 0, none⟩) 2 2] w fun e w' => e = .returned (.int .i64 z) ∧ w = w' := by
  have c0 := h.cell 0
  have c1 := h.cell 1
  simp only [List.getElem?_toArray, List.getElem?_cons_zero, List.getElem?_cons_succ] at c0 c1
  have e1 : IntKind.i64.wrap (0 + x) = x := by rw [Int.zero_add]; exact IntWalk.i64_in _ (by omega)
  have e2 : IntKind.i64.wrap (x + y) = z := by rw [hz]; exact IntWalk.i64_in _ (by omega)
  have e4 : Hid (wrap64 x = x) := by
    show wrap64 x = x; unfold wrap64; omega
  clear h x0 x1 y0 y1 hz
  go_enter Try.func78, Try.ntmps78
  go_wp2
  go_loop [3, 8] (fun s i => (s = .int .i64 0 ∧ i = .int .i64 0) ∨ (s = .int .i64 x ∧ i = .int .i64 1) ∨ (s = .int .i64 z ∧ i = .int .i64 2)) (fun _ i => 2 - (intOf i).toNat)
  case atStart => exact .inl ⟨rfl, rfl⟩
  case round =>
    rcases hrel with ⟨rfl, rfl⟩ | ⟨rfl, rfl⟩ | ⟨rfl, rfl⟩
    · clear c1 e2
      go_wp2
      go_round
      case rel => exact .inr (.inl ⟨by simp; exact e4.out, rfl⟩)
      case measure => simp [intOf]
    · clear c0 e1
      go_wp2
      go_round
      case rel => exact .inr (.inr ⟨by simp, rfl⟩)
      case measure => simp [intOf]
    · clear c0 c1 e1 e2
      go_wp2
      go_ret
      exact ⟨rfl, rfl⟩
set_option maxHeartbeats 4000000 in
/-- what two numbers come to -/
theorem togetherU_any (w : World) (g : Nat) (x y z : Int) (h : Has w g 38 #[.int .u64 x, .int .u64 y]) (x0 : 0 ≤ x) (x1 : x ≤ 1099511627776) (y0 : 0 ≤ y) (y1 : y ≤ 1099511627776) (hz : x + y = z) : Calls Try.prog 79 #[.slice (some ⟨g, 0, none⟩) 2 2] w fun e w' => e = .returned (.int .u64 z) ∧ w = w' := by
  have c0 := h.cell 0
  have c1 := h.cell 1
  simp only [List.getElem?_toArray, List.getElem?_cons_zero, List.getElem?_cons_succ] at c0 c1
  have e1 : IntKind.u64.wrap (0 + x) = x := by rw [Int.zero_add]; exact IntWalk.u64_in _ (by omega)
  have e2 : IntKind.u64.wrap (x + y) = z := by rw [hz]; exact IntWalk.u64_in _ (by omega)
  have e4 : Hid (IntKind.u64.wrap x = x) := by
    exact IntWalk.u64_in _ (by omega)
  clear h x0 x1 y0 y1 hz
  go_enter Try.func79, Try.ntmps79
  go_wp2
  go_loop [3, 8] (fun s i => (s = .int .u64 0 ∧ i = .int .i64 0) ∨ (s = .int .u64 x ∧ i = .int .i64 1) ∨ (s = .int .u64 z ∧ i = .int .i64 2)) (fun _ i => 2 - (intOf i).toNat)
  case atStart => exact .inl ⟨rfl, rfl⟩
  case round =>
    rcases hrel with ⟨rfl, rfl⟩ | ⟨rfl, rfl⟩ | ⟨rfl, rfl⟩
    · clear c1 e2
      go_wp2
      go_round
      case rel => exact .inr (.inl ⟨by simp; exact e4.out, rfl⟩)
      case measure => simp [intOf]
    · clear c0 e1
      go_wp2
      go_round
      case rel => exact .inr (.inr ⟨by simp, rfl⟩)
      case measure => simp [intOf]
    · clear c0 c1 e1 e2
      go_wp2
      go_ret
      exact ⟨rfl, rfl⟩
set_option maxHeartbeats 8000000 in
theorem wbLike_any (w : World) (a b : Int) (a0 : -9223372036854775808 ≤ a) (a1 : a ≤ 9223372036854775807) (b0 : -9223372036854775808 ≤ b) (b1 : b ≤ 9223372036854775807) : Calls Try.prog 25 #[.int .i64 a, .int .i64 b] w fun e w' => e = .returned (.bool (likeI a b)) ∧ Below w.heap.size w w' := by
  rcases Int.lt_trichotomy a b with hab | rfl | hab
  · by_cases hl : 1 ≤ a
    · have d1 : decide (1 ≤ a) = true := decide_eq_true hl
      by_cases hh : b ≤ 1099511627776
      · have d2 : decide (b ≤ 1099511627776) = true := decide_eq_true hh
        obtain ⟨s, hs⟩ : ∃ s, a + b = s := ⟨_, rfl⟩
        obtain ⟨c, hc⟩ : ∃ c, decide (29 * s ≤ 100 * a) = c := ⟨_, rfl⟩
        have e1 : IntKind.i64.wrap (29 * s) = 29 * s := IntWalk.i64_in _ (by omega)
        have e2 : IntKind.i64.wrap (100 * a) = 100 * a := IntWalk.i64_in _ (by omega)
        have hv : likeI a b = c := by
          rw [← hc]
          exact decide_eq_decide.2 (by omega)
        rw [hv]
        obtain ⟨gS, hgS⟩ : ∃ g, w.heap.size = g := ⟨_, rfl⟩
        obtain ⟨W, hW⟩ : ∃ W, w.alloc (.cells #[.int .i64 a, .int .i64 b] 3) = W := ⟨_, rfl⟩
        have bW : Hid (Below w.heap.size w W) := hW ▸ (Below.refl _ w).alloc (Nat.le_refl _) _
        have cT : Hid (Calls Try.prog 78 #[.slice (some ⟨gS, 0, none⟩) 2 2] W fun e w' => e = .returned (.int .i64 s) ∧ W = w') := togetherI_any W gS a b s (hgS ▸ hW ▸ Has.new w _ _) (by omega) (by omega) (by omega) (by omega) hs
        have HS := Lib.hid hgS
        have HW := Lib.hid hW
        have HC := Lib.hid hc
        clear hs hv hgS hW hl hh hc a0 a1 b0 b1
        go_enter Try.func25, Try.ntmps25
        go_wp2_with fail
        all_goals first
          | (exfalso; omega)
          | (rw [HS.out, HW.out]
             refine cT.out.mono ?_
             rintro e w1 ⟨rfl, rfl⟩
             have d3 := HC.out
             go_wp2
             go_ret
             exact ⟨rfl, bW.out⟩)
      · have d2 : decide (b ≤ 1099511627776) = false := decide_eq_false hh
        have hv : likeI a b = false := by
          rw [Bool.eq_false_iff]; intro h; rw [like_iff] at h; omega
        rw [hv]
        clear hv
        go_enter Try.func25, Try.ntmps25
        go_wp2
        all_goals first
          | (exfalso; omega)
          | (go_ret; exact ⟨rfl, Below.refl _ _⟩)
    · have d1 : decide (1 ≤ a) = false := decide_eq_false hl
      have hv : likeI a b = false := by
        rw [Bool.eq_false_iff]; intro h; rw [like_iff] at h; omega
      rw [hv]
      clear hv
      go_enter Try.func25, Try.ntmps25
      go_wp2
      all_goals first
        | (exfalso; omega)
        | (go_ret; exact ⟨rfl, Below.refl _ _⟩)
  · by_cases hl : 1 ≤ a
    · have d1 : decide (1 ≤ a) = true := decide_eq_true hl
      by_cases hh : a ≤ 1099511627776
      · have d2 : decide (a ≤ 1099511627776) = true := decide_eq_true hh
        obtain ⟨s, hs⟩ : ∃ s, a + a = s := ⟨_, rfl⟩
        obtain ⟨c, hc⟩ : ∃ c, decide (29 * s ≤ 100 * a) = c := ⟨_, rfl⟩
        have e1 : IntKind.i64.wrap (29 * s) = 29 * s := IntWalk.i64_in _ (by omega)
        have e2 : IntKind.i64.wrap (100 * a) = 100 * a := IntWalk.i64_in _ (by omega)
        have hv : likeI a a = c := by
          rw [← hc]
          exact decide_eq_decide.2 (by omega)
        rw [hv]
        obtain ⟨gS, hgS⟩ : ∃ g, w.heap.size = g := ⟨_, rfl⟩
        obtain ⟨W, hW⟩ : ∃ W, w.alloc (.cells #[.int .i64 a, .int .i64 a] 3) = W := ⟨_, rfl⟩
        have bW : Hid (Below w.heap.size w W) := hW ▸ (Below.refl _ w).alloc (Nat.le_refl _) _
        have cT : Hid (Calls Try.prog 78 #[.slice (some ⟨gS, 0, none⟩) 2 2] W fun e w' => e = .returned (.int .i64 s) ∧ W = w') := togetherI_any W gS a a s (hgS ▸ hW ▸ Has.new w _ _) (by omega) (by omega) (by omega) (by omega) hs
        have HS := Lib.hid hgS
        have HW := Lib.hid hW
        have HC := Lib.hid hc
        clear hs hv hgS hW hl hh hc a0 a1
        go_enter Try.func25, Try.ntmps25
        go_wp2_with fail
        all_goals first
          | (exfalso; omega)
          | (rw [HS.out, HW.out]
             refine cT.out.mono ?_
             rintro e w1 ⟨rfl, rfl⟩
             have d3 := HC.out
             go_wp2
             go_ret
             exact ⟨rfl, bW.out⟩)
      · have d2 : decide (a ≤ 1099511627776) = false := decide_eq_false hh
        have hv : likeI a a = false := by
          rw [Bool.eq_false_iff]; intro h; rw [like_iff] at h; omega
        rw [hv]
        clear hv
        go_enter Try.func25, Try.ntmps25
        go_wp2
        all_goals first
          | (exfalso; omega)
          | (go_ret; exact ⟨rfl, Below.refl _ _⟩)
    · have d1 : decide (1 ≤ a) = false := decide_eq_false hl
      have hv : likeI a a = false := by
        rw [Bool.eq_false_iff]; intro h; rw [like_iff] at h; omega
      rw [hv]
      clear hv
      go_enter Try.func25, Try.ntmps25
      go_wp2
      all_goals first
        | (exfalso; omega)
        | (go_ret; exact ⟨rfl, Below.refl _ _⟩)
  · by_cases hl : 1 ≤ b
    · have d1 : decide (1 ≤ b) = true := decide_eq_true hl
      by_cases hh : a ≤ 1099511627776
      · have d2 : decide (a ≤ 1099511627776) = true := decide_eq_true hh
        obtain ⟨s, hs⟩ : ∃ s, b + a = s := ⟨_, rfl⟩
        obtain ⟨c, hc⟩ : ∃ c, decide (29 * s ≤ 100 * b) = c := ⟨_, rfl⟩
        have e1 : IntKind.i64.wrap (29 * s) = 29 * s := IntWalk.i64_in _ (by omega)
        have e2 : IntKind.i64.wrap (100 * b) = 100 * b := IntWalk.i64_in _ (by omega)
        have hv : likeI a b = c := by
          rw [← hc]
          exact decide_eq_decide.2 (by omega)
        rw [hv]
        obtain ⟨gS, hgS⟩ : ∃ g, w.heap.size = g := ⟨_, rfl⟩
        obtain ⟨W, hW⟩ : ∃ W, w.alloc (.cells #[.int .i64 b, .int .i64 a] 3) = W := ⟨_, rfl⟩
        have bW : Hid (Below w.heap.size w W) := hW ▸ (Below.refl _ w).alloc (Nat.le_refl _) _
        have cT : Hid (Calls Try.prog 78 #[.slice (some ⟨gS, 0, none⟩) 2 2] W fun e w' => e = .returned (.int .i64 s) ∧ W = w') := togetherI_any W gS b a s (hgS ▸ hW ▸ Has.new w _ _) (by omega) (by omega) (by omega) (by omega) hs
        have HS := Lib.hid hgS
        have HW := Lib.hid hW
        have HC := Lib.hid hc
        clear hs hv hgS hW hl hh hc a0 a1 b0 b1
        go_enter Try.func25, Try.ntmps25
        go_wp2_with fail
        all_goals first
          | (exfalso; omega)
          | (rw [HS.out, HW.out]
             refine cT.out.mono ?_
             rintro e w1 ⟨rfl, rfl⟩
             have d3 := HC.out
             go_wp2
             go_ret
             exact ⟨rfl, bW.out⟩)
      · have d2 : decide (a ≤ 1099511627776) = false := decide_eq_false hh
        have hv : likeI a b = false := by
          rw [Bool.eq_false_iff]; intro h; rw [like_iff] at h; omega
        rw [hv]
        clear hv
        go_enter Try.func25, Try.ntmps25
        go_wp2
        all_goals first
          | (exfalso; omega)
          | (go_ret; exact ⟨rfl, Below.refl _ _⟩)
    · have d1 : decide (1 ≤ b) = false := decide_eq_false hl
      have hv : likeI a b = false := by
        rw [Bool.eq_false_iff]; intro h; rw [like_iff] at h; omega
      rw [hv]
      clear hv
      go_enter Try.func25, Try.ntmps25
      go_wp2
      all_goals first
        | (exfalso; omega)
        | (go_ret; exact ⟨rfl, Below.refl _ _⟩)
set_option maxHeartbeats 4000000 in
theorem wbWeight_any (hN : NodeSays Nd) (w : World) (t : Tr) (p : Option Addr) (ht : TreeAt Nd w w.heap.size t p) (h5 : t.size ≤ 5000) : Calls Try.prog 22 #[.pointer p] w fun e w' => e = .returned (nI (t.size + 1)) ∧ Below w.heap.size w w' := by
  have cZ := Lib.hid (size_any14 hN ht h5)
  obtain ⟨sz, hsz⟩ : ∃ s, t.size = s := ⟨_, rfl⟩
  obtain ⟨z, hz⟩ : ∃ z : Int, ((sz : Nat) : Int) + 1 = z := ⟨_, rfl⟩
  rw [hsz] at cZ h5 ⊢
  rw [show nI (sz + 1) = .int .i64 z from by rw [← hz]; rfl]
  have cT := Lib.hid (fun (W : World) (g : Nat) (h : Has W g 3 #[.int .i64 (sz : Int), .int .i64 1]) => togetherI_any W g (sz : Int) 1 z h (by omega) (by omega) (by omega) (by omega) hz)
  clear ht h5 hsz hz hN
  go_enter Try.func22, Try.ntmps22
  go_wp2_with fail
  refine cZ.out.mono ?_
  rintro e w1 ⟨rfl, hb⟩
  have b1 := Lib.hid hb
  clear hb cZ
  go_wp2_with fail
  refine (cT.out _ _ (Has.new w1 _ _)).mono ?_
  rintro e w2 ⟨rfl, rfl⟩
  go_wp2
  go_ret
  exact ⟨rfl, b1.out.alloc b1.out.size _⟩
set_option maxHeartbeats 4000000 in
theorem wbMake_any (hN : NodeSays Nd) (w : World) (L R : AT) (k v : BitVec 64) (hl : Stand Nd w L) (hr : Stand Nd w R) : Calls Try.prog 27 #[.pointer L.ptr, K k, K v, .pointer R.ptr] w (Made13 Nd L R k v 0#64 w) := by
  have cN : Hid (Calls Try.prog 74 #[.pointer L.ptr, K k, K v, .int .u64 0, .pointer R.ptr] w (Made13 Nd L R k v 0#64 w)) := new13 hN w L R k v 0#64 hl hr
  obtain ⟨pl, hpl⟩ : ∃ p, L.ptr = p := ⟨_, rfl⟩
  obtain ⟨pr, hpr⟩ : ∃ p, R.ptr = p := ⟨_, rfl⟩
  rw [hpl, hpr] at cN
  rw [hpl, hpr]
  clear hl hr hN hpl hpr
  go_enter Try.func27, Try.ntmps27
  go_wp2_with fail
  refine cN.out.mono ?_
  rintro e w3 ⟨a, x, rfl, hx, hs, ha, hb⟩
  have B3 := Lib.hid hb
  have HX := Lib.hid hx
  have HS := Lib.hid hs
  have HA := Lib.hid ha
  clear hb hx hs ha cN
  go_wp2
  go_ret
  exact ⟨a, x, rfl, HX.out, HS.out, HA.out, B3.out⟩
set_option maxHeartbeats 4000000 in
theorem wbRank_any (hN : NodeSays Nd) (w : World) (t : Tr) (p : Option Addr) (ht : TreeAt Nd w w.heap.size t p) (h5 : t.size ≤ 5000) : Calls Try.prog 23 #[.pointer p] w fun e w' => e = .returned (nI (rankN t.size)) ∧ Below w.heap.size w w' := by
  have cZ := Lib.hid (size_any14 hN ht h5)
  obtain ⟨sz, hsz⟩ : ∃ s, t.size = s := ⟨_, rfl⟩
  rw [hsz] at cZ h5 ⊢
  obtain ⟨m, hm⟩ : ∃ m, sz + 1 = m := ⟨_, rfl⟩
  obtain ⟨R, hR⟩ : ∃ R, rankN sz = R := ⟨_, rfl⟩
  have lo : 2 ^ R ≤ m := by rw [← hR, ← hm, rankN]; exact Nat.log2_self_le (by omega)
  have hi : m < 2 ^ (R + 1) := by rw [← hR, ← hm, rankN]; exact Nat.lt_log2_self
  have R13 : R < 13 := by
    rcases Nat.lt_or_ge R 13 with h | h
    · exact h
    · have := Nat.pow_le_pow_right (n := 2) (by omega) h
      have : (2 : Nat) ^ 13 = 8192 := by decide
      omega
  have hdiv : Hid (∀ q, q ≤ R → m / 2 ^ q ≠ 0) := fun q hq h => by
    have h1 := Nat.pow_le_pow_right (n := 2) (by omega) hq
    have h2 : 0 < 2 ^ q := Nat.pow_pos (by omega)
    have h3 := Nat.div_pos (Nat.le_trans h1 lo) h2
    omega
  have hend : Hid (m / 2 ^ (R + 1) = 0) := Nat.div_eq_of_lt hi
  rw [hR]
  have cT := Lib.hid (fun (W : World) (g : Nat) (h : Has W g 38 #[.int .u64 (sz : Int), .int .u64 1]) => togetherU_any W g (sz : Int) 1 (m : Int) h (by omega) (by omega) (by omega) (by omega) (by omega))
  have e1 : IntKind.u64.wrap (sz : Int) = (sz : Int) := IntWalk.u64_in _ (by omega)
  have s0 : Hid (∀ q, q ≤ 14 → ((m : Int) / 2 ^ q = ((m / 2 ^ q : Nat) : Int))) := fun q _ => by simp
  have hm5 : m ≤ 5001 := by omega
  clear ht h5 hsz hN lo hi hR hm
  go_enter Try.func23, Try.ntmps23
  go_wp2_with fail
  refine cZ.out.mono ?_
  rintro e w1 ⟨rfl, hb⟩
  have b1 := Lib.hid hb
  clear hb cZ
  go_wp2_with fail
  refine (cT.out _ _ (Has.new w1 _ _)).mono ?_
  rintro e w2 ⟨rfl, rfl⟩
  have b2 : Hid (Below w.heap.size w (w1.alloc (.cells #[.int .u64 (sz : Int), .int .u64 1] 38))) := b1.out.alloc b1.out.size _
  obtain ⟨W2, hW2⟩ : ∃ W, w1.alloc (.cells #[.int .u64 (sz : Int), .int .u64 1] 38) = W := ⟨_, rfl⟩
  rw [hW2] at b2 ⊢
  clear hW2 cT e1 b1
  go_wp2
  go_loop [3, 11] (fun k i => ∃ q : Nat, q ≤ R + 1 ∧ k = nI (q - 1) ∧ i = nI q) (fun _ i => 20 - (intOf i).toNat)
  case atStart => exact ⟨0, by omega, rfl, rfl⟩
  case round =>
    obtain ⟨q, hq, rfl, rfl⟩ := hrel
    have hq14 : q ≤ 14 := by omega
    obtain ⟨d, hd⟩ : ∃ d, m / 2 ^ q = d := ⟨_, rfl⟩
    have s1 := s0.out q hq14
    rw [hd] at s1
    by_cases hlt : q ≤ R
    · have hne := hdiv.out q hlt
      rw [hd] at hne
      have d1 : ((d : Int) == 0) = false := by rw [beq_eq_false_iff_ne]; omega
      clear hd
      go_wp2
      go_round
      case rel => exact ⟨q + 1, by omega, by simp [nI], by simp [nI]⟩
      case measure => simp [intOf]; omega
    · obtain rfl : q = R + 1 := by omega
      obtain rfl : d = 0 := by rw [← hd]; exact hend.out
      clear hd
      go_wp2
      go_ret
      exact ⟨by simp, b2.out⟩
end Go.Proofs.Ytifhnaelkjfmdaa
