/- The statement FoldParts of layer 3, walked. -/
import Derived.Test.YtbjfoopiicppeaaL3Tells
import Derived.Deep.RegionHeld3
import Derived.Outline
namespace Go.Proofs.Ytbjfoopiicppeaa
open Go.RowKit Go.Proofs.Foldm

theorem combine_is {p : Nat} (h1 : 1 ≤ p) (h3 : p ≤ 3) {a b t : BitVec 64} (h : cmb p a b = t) (w : World) : Calls Try.prog 7 #[.int .u8 p, K a, K b] w fun e w' => e = .returned (.tuple #[K t, .int .i64 0]) ∧ Below w.heap.size w w' := h ▸ combine_at p h1 h3 a b w
theorem run_is {p : Nat} (h1 : 1 ≤ p) (h3 : p ≤ 3) {A : Option Addr} {n c : Nat} {l : List (BitVec 64)} {t : BitVec 64} (h : run p l = t) (hl : l.length = n) (h0 : 0 < n) (hn : n ≤ c) (hc : c ≤ maxLen) {w : World} (hr : Row w w.heap.size A (l.map K)) :
    Calls Try.prog 8 #[.int .u8 p, .slice A n c] w fun e w' => e = .returned (.tuple #[K t, .int .i64 0]) ∧ Below w.heap.size w w' := h ▸ run_at p h1 h3 A n c l hl h0 hn hc w hr
theorem sum_is {A : Option Addr} {n c : Nat} {l : List (BitVec 64)} {t : BitVec 64} (h : sum l = t) (hl : l.length = n) (hn : n ≤ c) (hc : c ≤ maxLen) {w : World} (hr : Row w w.heap.size A (l.map K)) :
    Calls Try.prog 13 #[.slice A n c] w fun e w' => e = .returned (K t) ∧ Below w.heap.size w w' := h ▸ sum_at A n c l hl hn hc w hr
theorem wrap_kind (n : Int) : IntKind.i64.wrap n = wrap64 n := by rw [IntKind.wrap_i64]; unfold wrap64; rfl
/-- values in three parts, at a policy -/
theorem three (p : Nat) (l : List (BitVec 64)) (i k : Nat) (h0 : 0 < i) (h1 : i < k) (h2 : k < l.length) :
    cmb p (cmb p (run p (l.take i)) (run p ((l.take k).drop i))) (run p (l.drop k)) = run p l ∧ sum (l.take k) + sum (l.drop k) = sum l := by
  have e1 : l.take i ++ (l.take k).drop i = l.take k := by
    have := List.take_append_drop i (l.take k)
    rw [List.take_take, Nat.min_eq_left (by omega)] at this
    exact this
  have ne : ∀ m : List (BitVec 64), 0 < m.length → m ≠ [] := fun m h e => by subst e; simp at h
  refine ⟨?_, ?_⟩
  · rw [← run_append p _ _ (ne _ (by rw [List.length_take]; omega)) (ne _ (by rw [List.length_drop, List.length_take]; omega)), e1,
      ← run_append p _ _ (ne _ (by rw [List.length_take]; omega)) (ne _ (by rw [List.length_drop]; omega)), List.take_append_drop]
  · rw [← sum_append, List.take_append_drop]

set_option maxRecDepth 100000 in
set_option maxHeartbeats 4000000 in
theorem parts_mid (p : Nat) (at_ then_ : Nat) (ha : at_ ≤ 255) (ht : then_ ≤ 255) (hp : p ≤ 255) (A : Option Addr) (n c : Nat) (l : List (BitVec 64)) (hl : l.length = n) (hn : n ≤ c) (hc : c ≤ maxLen) (h300 : n ≤ 300) (h2 : 3 ≤ n) (w : World) (hr : Row w w.heap.size A (l.map K)) :
    Calls Try.prog 4 #[.int .u8 p, .slice A n c, .int .u8 at_, .int .u8 then_] w fun e w' => e = .returned (.bool true) ∧ Below w.heap.size w w' := by
  obtain ⟨m, hm, h1, h3⟩ : ∃ m : Nat, (1 + (p : Int) % 3) = (m : Int) ∧ 1 ≤ m ∧ m ≤ 3 := ⟨1 + p % 3, by omega, by omega, by omega⟩
  obtain ⟨i, hi, hi1, hi2⟩ : ∃ i : Nat, (1 + (at_ : Int) % ((n : Int) - 2)) = (i : Int) ∧ 1 ≤ i ∧ i + 2 ≤ n := by
    refine ⟨1 + at_ % (n - 2), by rw [show ((n : Int) - 2) = ((n - 2 : Nat) : Int) by omega]; push_cast; rfl, by omega, ?_⟩
    have := Nat.mod_lt at_ (show 0 < n - 2 by omega)
    omega
  obtain ⟨k, hk, hk1, hk2⟩ : ∃ k : Nat, ((i : Int) + 1 + (then_ : Int) % ((n : Int) - (i : Int) - 1)) = (k : Int) ∧ i + 1 ≤ k ∧ k + 1 ≤ n := by
    refine ⟨i + 1 + then_ % (n - i - 1), by rw [show ((n : Int) - (i : Int) - 1) = ((n - i - 1 : Nat) : Int) by omega]; push_cast; rfl, by omega, ?_⟩
    have := Nat.mod_lt then_ (show 0 < n - i - 1 by omega)
    omega
  have hcut1 := cut_to (P := Try.prog) Try.underlying22 size_i64 A n c i i rfl (by omega)
  have hcut4 := cut_to (P := Try.prog) Try.underlying22 size_i64 A n c k k rfl (by omega)
  obtain ⟨A2, hcut2, hrow2⟩ := cut_mid (P := Try.prog) Try.underlying22 size_i64 A n c i k i k rfl rfl (by omega) (by omega) hn
  obtain ⟨A3, hcut3, hrow3⟩ := cut_from (P := Try.prog) Try.underlying22 size_i64 A n c k k rfl (by omega) hn
  obtain ⟨e1, e2⟩ := three m l i k (by omega) (by omega) (by omega)
  obtain ⟨xa, hxa⟩ : ∃ a, run m (l.take i) = a := ⟨_, rfl⟩
  obtain ⟨xb, hxb⟩ : ∃ a, run m ((l.take k).drop i) = a := ⟨_, rfl⟩
  obtain ⟨xc, hxc⟩ : ∃ a, run m (l.drop k) = a := ⟨_, rfl⟩
  obtain ⟨xl, hxl⟩ : ∃ a, run m l = a := ⟨_, rfl⟩
  obtain ⟨xd, hxd⟩ : ∃ a, cmb m xa xb = a := ⟨_, rfl⟩
  obtain ⟨xe, hxe⟩ : ∃ a, cmb m xb xc = a := ⟨_, rfl⟩
  obtain ⟨s1, hs1⟩ : ∃ a, sum (l.take k) = a := ⟨_, rfl⟩
  obtain ⟨s2, hs2⟩ : ∃ a, sum (l.drop k) = a := ⟨_, rfl⟩
  obtain ⟨s0, hs0⟩ : ∃ a, sum l = a := ⟨_, rfl⟩
  rw [hxa, hxb, hxc, hxl, hxd] at e1
  rw [hs1, hs2, hs0] at e2
  have e3 : cmb m xa xe = xl := by rw [← hxe, ← cmb_assoc, hxd]; exact e1
  have hw0 : wrap64 (s1.toInt + s2.toInt) = s0.toInt := by rw [i_add, e2]
  have hw1 : IntKind.i64.wrap (s1.toInt + s2.toInt) = s0.toInt := by rw [wrap_kind]; exact hw0
  have q0 := Lib.hid hr
  have q1 : Hid (Row w w.heap.size A ((l.take i).map K)) := by rw [List.map_take]; exact hr.take _
  have q4 : Hid (Row w w.heap.size A ((l.take k).map K)) := by rw [List.map_take]; exact hr.take _
  have q2 : Hid (Row w w.heap.size A2 (((l.take k).drop i).map K)) := by
    have := hrow2 _ _ _ hr (by rw [List.length_map]; omega)
    rw [Nat.mul_one, Nat.mul_one] at this
    rw [List.map_drop, List.map_take]; exact this
  have q3 : Hid (Row w w.heap.size A3 ((l.drop k).map K)) := by
    have := hrow3 _ _ _ hr (by rw [List.length_map]; omega)
    rw [Nat.mul_one] at this
    rw [List.map_drop]; exact this
  have l0 := Lib.hid hl
  have l1 : Hid ((l.take i).length = i) := by show (l.take i).length = i; rw [List.length_take]; omega
  have l4 : Hid ((l.take k).length = k) := by show (l.take k).length = k; rw [List.length_take]; omega
  have l2 : Hid (((l.take k).drop i).length = k - i) := by show ((l.take k).drop i).length = k - i; rw [List.length_drop, List.length_take]; omega
  have l3 : Hid ((l.drop k).length = n - k) := by show (l.drop k).length = n - k; rw [List.length_drop]; omega
  have hc' := Lib.hid hc
  have d2 : Hid (c - i ≤ maxLen) := Nat.le_trans (Nat.sub_le _ _) hc
  have d3 : Hid (c - k ≤ maxLen) := Nat.le_trans (Nat.sub_le _ _) hc
  have ya := Lib.hid hxa
  have yb := Lib.hid hxb
  have yc := Lib.hid hxc
  have yl := Lib.hid hxl
  have yd := Lib.hid hxd
  have ye := Lib.hid hxe
  have t1 := Lib.hid hs1
  have t2 := Lib.hid hs2
  have t0 := Lib.hid hs0
  have f1 := Lib.hid e1
  have f3 := Lib.hid e3
  have k0 := Lib.hid (Below.refl w.heap.size w)
  clear hr hl hc hrow2 hrow3 hxa hxb hxc hxl hxd hxe hs1 hs2 hs0 e1 e2 e3
  go_enter Try.func4, Try.ntmps4
  go_wp2_with fail
  refine (run_is h1 h3 ya.out l1.out (by omega) (by omega) hc'.out (q1.out.next k0.out)).mono ?_
  rintro e w1 ⟨rfl, hb⟩
  have k1 := Lib.hid (Below.after k0.out hb)
  clear hb
  go_wp2_with fail
  refine (run_is h1 h3 yb.out l2.out (by omega) (by omega) d2.out (q2.out.next k1.out)).mono ?_
  rintro e w2 ⟨rfl, hb⟩
  have k2 := Lib.hid (Below.after k1.out hb)
  clear hb
  go_wp2_with fail
  refine (run_is h1 h3 yc.out l3.out (by omega) (by omega) d3.out (q3.out.next k2.out)).mono ?_
  rintro e w3 ⟨rfl, hb⟩
  have k3 := Lib.hid (Below.after k2.out hb)
  clear hb
  go_wp2_with fail
  refine (run_is h1 h3 yl.out l0.out (by omega) hn hc'.out (q0.out.next k3.out)).mono ?_
  rintro e w4 ⟨rfl, hb⟩
  have k4 := Lib.hid (Below.after k3.out hb)
  clear hb
  go_wp2_with fail
  refine (combine_is h1 h3 yd.out _).mono ?_
  rintro e w5 ⟨rfl, hb⟩
  have k5 := Lib.hid (Below.after k4.out hb)
  clear hb
  go_wp2_with fail
  refine (combine_is h1 h3 ye.out _).mono ?_
  rintro e w6 ⟨rfl, hb⟩
  have k6 := Lib.hid (Below.after k5.out hb)
  clear hb
  go_wp2_with fail
  refine (combine_is h1 h3 f1.out _).mono ?_
  rintro e w7 ⟨rfl, hb⟩
  have k7 := Lib.hid (Below.after k6.out hb)
  clear hb
  go_wp2_with fail
  refine (combine_is h1 h3 f3.out _).mono ?_
  rintro e w8 ⟨rfl, hb⟩
  have k8 := Lib.hid (Below.after k7.out hb)
  clear hb
  go_wp2_with fail
  have b8 := k8.out
  clear k0 k1 k2 k3 k4 k5 k6 k7
  go_region_held3 (fun w' => Below w.heap.size w w') (first | exact b8.drew | assumption) (first | (go_at_call 13; (first | (with_reducible refine (sum_is t0.out l0.out hn hc'.out (q0.out.next (by assumption))).mono ?_) | (with_reducible refine (sum_is t1.out l4.out (by omega) hc'.out (q4.out.next (by assumption))).mono ?_) | (with_reducible refine (sum_is t2.out l3.out (by omega) d3.out (q3.out.next (by assumption))).mono ?_)); rintro e w' ⟨rfl, hb⟩; have hS' := Below.after (by assumption) hb; clear hb) | (go_at_call 6; refine (alive3_any _).mono ?_; rintro e w' ⟨rfl, hb⟩; have hS' := Below.after (by assumption) hb; clear hb))
  go_wp2
  go_ret
  exact ⟨rfl, by assumption⟩

set_option maxRecDepth 100000 in
set_option maxHeartbeats 400000 in
theorem parts_out (p : Nat) (at_ then_ : Nat) (A : Option Addr) (n c : Nat) (h : 300 < n ∨ n < 3) (w : World) :
    Calls Try.prog 4 #[.int .u8 p, .slice A n c, .int .u8 at_, .int .u8 then_] w fun e w' => e = .returned (.bool true) ∧ Below w.heap.size w w' := by
  rcases h with h | h
  · go_enter Try.func4, Try.ntmps4
    go_wp2_with fail
    refine (alive3_any _).mono ?_
    rintro e w1 ⟨rfl, hb⟩
    have k1 := Lib.hid hb
    clear hb
    go_wp2
    go_ret
    exact ⟨rfl, k1.out⟩
  · have h' : ¬ 300 < n := by omega
    go_enter Try.func4, Try.ntmps4
    go_wp2_with fail
    refine (alive3_any _).mono ?_
    rintro e w1 ⟨rfl, hb⟩
    have k1 := Lib.hid hb
    clear hb
    go_wp2
    go_ret
    exact ⟨rfl, k1.out⟩

theorem parts3 (p : Nat) (hp : p ≤ 255) (at_ then_ : Nat) (ha : at_ ≤ 255) (ht : then_ ≤ 255) (A : Option Addr) (n c : Nat) (l : List (BitVec 64)) (hl : l.length = n) (hn : n ≤ c) (hc : c ≤ maxLen) (w : World) (hr : Row w w.heap.size A (l.map K)) :
    Calls Try.prog 4 #[.int .u8 p, .slice A n c, .int .u8 at_, .int .u8 then_] w fun e w' => e = .returned (.bool true) ∧ Below w.heap.size w w' := by
  by_cases h : 300 < n ∨ n < 3
  · exact parts_out p at_ then_ A n c h w
  · exact parts_mid p at_ then_ ha ht hp A n c l hl hn hc (by omega) (by omega) w hr
end Go.Proofs.Ytbjfoopiicppeaa
