/- Proved here: for every predicate, every pair and every row of pairs the law SiftTells of layer 6 returns true (which predicates may be, which pairs any takes, and what it keeps, and does not keep, of any row, are what the document says; what was handed in stays); it changes nothing that lay. Condition: none. -/
import Derived.Test.YtjjhmenkgcldeaaL6Tells
import Derived.Test.YtjjhmenkgcldeaaL6Open
import Derived.Test.YtjjhmenkgcldeaaRows
import Derived.Below
import Derived.ChangeOld
namespace Go.Proofs.Ytjjhmenkgcldeaa
open Go.ChangeShapes Go.WideShapes Go.ChangeAt Go.RowKit

theorem tells6_any (p : Siftm.Pd) (x : Rowm.Pr) (A : Option Addr) (n c : Nat) (l : List Rowm.Pr) (hl : l.length = n) (hn : n ≤ c) (hc : c ≤ maxLen) (hz : A = none → c = 0) (w : World) (hr : Row w w.heap.size A (flat l)) : Calls Try.prog 3 #[pdV p, pV x, .slice A n c] w fun e w' => e = .returned (.bool true) ∧ Below w.heap.size w w' := by
  by_cases h : 300 < n
  · exact tells6_many p x A n c h (Nat.le_trans hn hc) w
  · cases hm : Siftm.may p with
    | false => exact tells6_no p hm x A n c l (by omega) w ⟨hl, by omega, hn, hz, hr⟩
    | true => exact tells6_yes p hm x A n c l (by omega) w ⟨hl, by omega, hn, hz, hr⟩

set_option maxRecDepth 100000 in
theorem siftTells_lifted (os : Os) (started : os.Started) (H : Type) (enc : TypeId × Value → H) :
    ReturnsInHanded {} Try.checked os 3 .any (Rows.siftTellsSpec.pre6 enc Try.prog Try.f3 Rows.siftTellsRow.domain false)
      (Rows.siftTellsSpec.post enc Try.prog Try.f3 false true false false) := by
  refine returnsInHanded_of_change (C := Try.checked) own started (by kernel_rfl) Try.func3
    (ChangeSpec.witness6 (enc := enc) (C := Try.checked) false ⟨#[], #[.agg #[.int .u8 0, .int .i64 0, .int .i64 0, .bool false], .agg #[.int .i64 0, .int .i64 0], .slice none 0 0], []⟩ 8 (by kernel_rfl) (by kernel_rfl) (by kernel_rfl) (by kernel_rfl)) ?_
  intro W base args ds gs before hval0 hW _ _
  have hval : ∀ (j : Nat) t v, Try.f3.params[j]? = some t → args[j]? = some v → Value.okWide Try.prog W .any base t v := hval0
  have hW' := hW
  obtain ⟨p, q, hA0, hV, rfl, hfz, hnd⟩ := hW
  have hA : DataW.TrodAll enc Try.prog W 0 (fun _ => true) true Try.f3.params.toList args.toList ds p := hA0
  rw [Try.params3] at hA hval
  obtain ⟨v0, vs0, d0, ds0, p0, q0, hargs, rfl, rfl, h0, r0⟩ := trodAll_cons hA
  obtain ⟨v1, vs1, d1, ds1, p1, q1, rfl, rfl, rfl, h1, r1⟩ := trodAll_cons r0
  obtain ⟨v2, vs2, d2, ds2, p2, q2, rfl, rfl, rfl, h2, r2⟩ := trodAll_cons r1
  obtain ⟨rfl, rfl, rfl⟩ := trodAll_nil r2
  obtain rfl : args = #[v0, v1, v2] := by cases args; simp_all
  obtain ⟨rfl, rfl⟩ := trodVars_none hV
  have k0 := h0
  have lt0 : ∀ x ∈ p0, x.block < W.heap.size := by obtain ⟨m, hm⟩ := k0; exact DataW.trod_lt m _ _ _ hm
  obtain ⟨x0, rfl⟩ := open_pred (hval 0 23 v0 rfl rfl) h0
  have k1 := h1
  have lt1 : ∀ x ∈ p1, x.block < W.heap.size := by obtain ⟨m, hm⟩ := k1; exact DataW.trod_lt m _ _ _ hm
  obtain ⟨x1, rfl⟩ := open_pair (hval 1 25 v1 rfl rfl) h1
  have k2 := h2
  have lt2 : ∀ x ∈ p2, x.block < W.heap.size := by obtain ⟨m, hm⟩ := k2; exact DataW.trod_lt m _ _ _ hm
  obtain ⟨A2, n2, c2, l2, rfl, hl2, hn2, hc2, hz2, hr2⟩ := open_pairs (hval 2 26 v2 rfl rfl) h2
  clear hA0 hval0
  refine (tells6_any x0 x1 A2 n2 c2 l2 hl2 hn2 hc2 hz2 W hr2).mono fun e W' ⟨he, bel⟩ => ?_
  subst he
  exact ⟨_, rfl, _, _, _, [], _, [], hW', trodAll_mk1 (shut_bool Try.underlying4 _), trodAll_cons_mk (Below.trod laidOut (by kernel_rfl) (of_decide_eq_true (by kernel_rfl)) k0 bel lt0) (trodAll_cons_mk (Below.trod laidOut (by kernel_rfl) (of_decide_eq_true (by kernel_rfl)) k1 bel lt1) (trodAll_cons_mk (Below.trod laidOut (by kernel_rfl) (of_decide_eq_true (by kernel_rfl)) k2 bel lt2) trodAll_mk0)), rfl, bel.frame _, fun h => by cases h⟩

theorem siftTells_row : Rows.SiftTellsSaid :=
  OpenClaim.holds_of_wide 3 Try.f3 rfl rfl rfl rfl rfl rfl rfl ⟨rfl, rfl, rfl, rfl, rfl⟩ rfl rfl rfl rfl rfl (by kernel_rfl) Try.func3 (by kernel_rfl)
    (of_decide_eq_true (by kernel_rfl)) (by unfold Func.isWrapper; first | (rw [if_pos (by decide +kernel)]; kernel_rfl) | (rw [if_neg (by decide +kernel)]; exact ⟨rfl, rfl⟩))
    (fun os started H enc _ => siftTells_lifted os started H enc)
#print axioms siftTells_row
end Go.Proofs.Ytjjhmenkgcldeaa
