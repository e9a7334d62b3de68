/- Proved here: for every predicate, every pair and every two rows of pairs the law SiftParts of layer 6 returns true (each pair is taken by a predicate, or by the same one the other way round, and not by both; what is kept of what is kept is that; what is kept of two rows, one behind the other, is what is kept of each); it changes nothing that lay. Condition: none. -/
import Derived.Test.YtjjhmenkgcldeaaL6Parts
import Derived.Test.YtjjhmenkgcldeaaL6Open
import Derived.Test.YtjjhmenkgcldeaaRows
import Derived.Below
import Derived.ChangeOld
namespace Go.Proofs.Ytjjhmenkgcldeaa
open Go.ChangeShapes Go.WideShapes Go.ChangeAt Go.RowKit

theorem parts6_any (p : Siftm.Pd) (x : Rowm.Pr) (A : Option Addr) (n c : Nat) (a : List Rowm.Pr) (hl : a.length = n) (hn : n ≤ c) (hc : c ≤ maxLen) (hz : A = none → c = 0) (w : World) (hr : Row w w.heap.size A (flat a))
    (B : Option Addr) (m d : Nat) (b : List Rowm.Pr) (kl : b.length = m) (km : m ≤ d) (kc : d ≤ maxLen) (kz : B = none → d = 0) (kr : Row w w.heap.size B (flat b)) : Calls Try.prog 4 #[pdV p, pV x, .slice A n c, .slice B m d] w fun e w' => e = .returned (.bool true) ∧ Below w.heap.size w w' := by
  by_cases h : 200 < n
  · exact parts6_many1 p x A B n c m d h (Nat.le_trans hn hc) w
  · by_cases k : 200 < m
    · exact parts6_many2 p x A B n c m d (by omega) k (Nat.le_trans km kc) w
    · cases hm : Siftm.may p with
      | false => exact parts6_no p hm x A B n c m d (by omega) (by omega) w
      | true => exact parts6_yes p hm x A B n c m d a b (by omega) (by omega) w ⟨hl, by omega, hn, hz, hr⟩ ⟨kl, by omega, km, kz, kr⟩

set_option maxRecDepth 100000 in
theorem siftParts_lifted (os : Os) (started : os.Started) (H : Type) (enc : TypeId × Value → H) :
    ReturnsInHanded {} Try.checked os 4 .any (Rows.siftPartsSpec.pre6 enc Try.prog Try.f4 Rows.siftPartsRow.domain false)
      (Rows.siftPartsSpec.post enc Try.prog Try.f4 false true false false) := by
  refine returnsInHanded_of_change (C := Try.checked) own started (by kernel_rfl) Try.func4
    (ChangeSpec.witness6 (enc := enc) (C := Try.checked) false ⟨#[], #[.agg #[.int .u8 0, .int .i64 0, .int .i64 0, .bool false], .agg #[.int .i64 0, .int .i64 0], .slice none 0 0, .slice none 0 0], []⟩ 8 (by kernel_rfl) (by kernel_rfl) (by kernel_rfl) (by kernel_rfl)) ?_
  intro W base args ds gs before hval0 hW _ _
  have hval : ∀ (j : Nat) t v, Try.f4.params[j]? = some t → args[j]? = some v → Value.okWide Try.prog W .any base t v := hval0
  have hW' := hW
  obtain ⟨p, q, hA0, hV, rfl, hfz, hnd⟩ := hW
  have hA : DataW.TrodAll enc Try.prog W 0 (fun _ => true) true Try.f4.params.toList args.toList ds p := hA0
  rw [Try.params4] at hA hval
  obtain ⟨v0, vs0, d0, ds0, p0, q0, hargs, rfl, rfl, h0, r0⟩ := trodAll_cons hA
  obtain ⟨v1, vs1, d1, ds1, p1, q1, rfl, rfl, rfl, h1, r1⟩ := trodAll_cons r0
  obtain ⟨v2, vs2, d2, ds2, p2, q2, rfl, rfl, rfl, h2, r2⟩ := trodAll_cons r1
  obtain ⟨v3, vs3, d3, ds3, p3, q3, rfl, rfl, rfl, h3, r3⟩ := trodAll_cons r2
  obtain ⟨rfl, rfl, rfl⟩ := trodAll_nil r3
  obtain rfl : args = #[v0, v1, v2, v3] := by cases args; simp_all
  obtain ⟨rfl, rfl⟩ := trodVars_none hV
  have k0 := h0
  have lt0 : ∀ x ∈ p0, x.block < W.heap.size := by obtain ⟨m, hm⟩ := k0; exact DataW.trod_lt m _ _ _ hm
  obtain ⟨x0, rfl⟩ := open_pred (hval 0 23 v0 rfl rfl) h0
  have k1 := h1
  have lt1 : ∀ x ∈ p1, x.block < W.heap.size := by obtain ⟨m, hm⟩ := k1; exact DataW.trod_lt m _ _ _ hm
  obtain ⟨x1, rfl⟩ := open_pair (hval 1 25 v1 rfl rfl) h1
  have k2 := h2
  have lt2 : ∀ x ∈ p2, x.block < W.heap.size := by obtain ⟨m, hm⟩ := k2; exact DataW.trod_lt m _ _ _ hm
  obtain ⟨A2, n2, c2, l2, rfl, hl2, hn2, hc2, hz2, hr2⟩ := open_pairs (hval 2 26 v2 rfl rfl) h2
  have k3 := h3
  have lt3 : ∀ x ∈ p3, x.block < W.heap.size := by obtain ⟨m, hm⟩ := k3; exact DataW.trod_lt m _ _ _ hm
  obtain ⟨A3, n3, c3, l3, rfl, hl3, hn3, hc3, hz3, hr3⟩ := open_pairs (hval 3 26 v3 rfl rfl) h3
  clear hA0 hval0
  refine (parts6_any x0 x1 A2 n2 c2 l2 hl2 hn2 hc2 hz2 W hr2 A3 n3 c3 l3 hl3 hn3 hc3 hz3 hr3).mono fun e W' ⟨he, bel⟩ => ?_
  subst he
  exact ⟨_, rfl, _, _, _, [], _, [], hW', trodAll_mk1 (shut_bool Try.underlying4 _), trodAll_cons_mk (Below.trod laidOut (by kernel_rfl) (of_decide_eq_true (by kernel_rfl)) k0 bel lt0) (trodAll_cons_mk (Below.trod laidOut (by kernel_rfl) (of_decide_eq_true (by kernel_rfl)) k1 bel lt1) (trodAll_cons_mk (Below.trod laidOut (by kernel_rfl) (of_decide_eq_true (by kernel_rfl)) k2 bel lt2) (trodAll_cons_mk (Below.trod laidOut (by kernel_rfl) (of_decide_eq_true (by kernel_rfl)) k3 bel lt3) trodAll_mk0))), rfl, bel.frame _, fun h => by cases h⟩

theorem siftParts_row : Rows.SiftPartsSaid :=
  OpenClaim.holds_of_wide 4 Try.f4 rfl rfl rfl rfl rfl rfl rfl ⟨rfl, rfl, rfl, rfl, rfl⟩ rfl rfl rfl rfl rfl (by kernel_rfl) Try.func4 (by kernel_rfl)
    (of_decide_eq_true (by kernel_rfl)) (by unfold Func.isWrapper; first | (rw [if_pos (by decide +kernel)]; kernel_rfl) | (rw [if_neg (by decide +kernel)]; exact ⟨rfl, rfl⟩))
    (fun os started H enc _ => siftParts_lifted os started H enc)
#print axioms siftParts_row
end Go.Proofs.Ytjjhmenkgcldeaa
