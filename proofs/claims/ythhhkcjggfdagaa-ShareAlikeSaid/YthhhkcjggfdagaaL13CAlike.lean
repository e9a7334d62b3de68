/- Proved here: for every row of beads the law ShareAlike of layer 13 returns true (two trees that are made of the same beads share no node, one and itself share all, and a node with another value is one new node); it changes nothing that lay. Condition: none. -/
import Derived.Test.YthhhkcjggfdagaaS13Tops
import Derived.Test.YthhhkcjggfdagaaL9Says
import Derived.Test.YthhhkcjggfdagaaL13Alike
import Derived.Test.YthhhkcjggfdagaaL9Open
import Derived.Test.YthhhkcjggfdagaaRows
import Derived.Below
import Derived.ChangeOld
namespace Go.Proofs.Ythhhkcjggfdagaa
open Go.ChangeShapes Go.WideShapes Go.ChangeAt Go.RowKit
open Treem in
theorem shareAlike_any (A : Option Addr) (n c : Nat) (l : List Bd) (hl : l.length = n) (hn : n ≤ c) (hc : c ≤ maxLen) (hz : A = none → c = 0) (w : World) (hr : Row w w.heap.size A (flat7 l)) : Calls Try.prog 3 #[.slice A n c] w fun e w' => e = .returned (.bool true) ∧ Below w.heap.size w w' := by
  rcases long_or hl hn hc hz hr with h | ⟨h, t, ht⟩
  · exact shareAlike_long node_says (share_says node_says) A n c w h
  · by_cases h1 : 100 < n
    · exact shareAlike_wide node_says (share_says node_says) A n c w h h1
    · exact shareAlike_yes node_says (share_says node_says) A n c l t w h ht (by omega)

set_option maxRecDepth 100000 in
theorem shareAlike_lifted (os : Os) (started : os.Started) (H : Type) (enc : TypeId × Value → H) :
    ReturnsInHanded {} Try.checked os 3 .any (Rows.shareAlikeSpec.pre6 enc Try.prog Try.f3 Rows.shareAlikeRow.domain false)
      (Rows.shareAlikeSpec.post enc Try.prog Try.f3 false true false false) := by
  refine returnsInHanded_of_change (C := Try.checked) own started (by kernel_rfl) Try.func3
    (ChangeSpec.witness6 (enc := enc) (C := Try.checked) false ⟨#[], #[.slice none 0 0], []⟩ 8 (by kernel_rfl) (by kernel_rfl) (by kernel_rfl) (by kernel_rfl)) ?_
  intro W base args ds gs before hval0 hW _ _
  have hval : ∀ (j : Nat) t v, Try.f3.params[j]? = some t → args[j]? = some v → Value.okWide Try.prog W .any base t v := hval0
  have hW' := hW
  obtain ⟨p, q, hA0, hV, rfl, hfz, hnd⟩ := hW
  have hA : DataW.TrodAll enc Try.prog W 0 (fun _ => true) true Try.f3.params.toList args.toList ds p := hA0
  rw [Try.params3] at hA hval
  obtain ⟨v0, vs0, d0, ds0, p0, q0, hargs, rfl, rfl, h0, r0⟩ := trodAll_cons hA
  obtain ⟨rfl, rfl, rfl⟩ := trodAll_nil r0
  obtain rfl : args = #[v0] := by cases args; simp_all
  obtain ⟨rfl, rfl⟩ := trodVars_none hV
  have k0 := h0
  have lt0 : ∀ x ∈ p0, x.block < W.heap.size := by obtain ⟨m, hm⟩ := k0; exact DataW.trod_lt m _ _ _ hm
  obtain ⟨A0, n0, c0, l0, rfl, hl0, hn0, hc0, hz0, hr0⟩ := open_beads (hval 0 22 v0 rfl rfl) h0
  clear hA0 hval0
  refine (shareAlike_any A0 n0 c0 l0 hl0 hn0 hc0 hz0 W hr0).mono fun e W' ⟨he, bel⟩ => ?_
  subst he
  exact ⟨_, rfl, _, _, _, [], _, [], hW', trodAll_mk1 (shut_bool Try.underlying4 _), trodAll_cons_mk (Below.trod laidOut (by kernel_rfl) (of_decide_eq_true (by kernel_rfl)) k0 bel lt0) trodAll_mk0, rfl, bel.frame _, fun h => by cases h⟩

theorem shareAlike_row : Rows.ShareAlikeSaid :=
  OpenClaim.holds_of_wide 3 Try.f3 rfl rfl rfl rfl rfl rfl rfl ⟨rfl, rfl, rfl, rfl, rfl⟩ rfl rfl rfl rfl rfl (by kernel_rfl) Try.func3 (by kernel_rfl)
    (of_decide_eq_true (by kernel_rfl)) (by unfold Func.isWrapper; first | (rw [if_pos (by decide +kernel)]; kernel_rfl) | (rw [if_neg (by decide +kernel)]; exact ⟨rfl, rfl⟩))
    (fun os started H enc _ => shareAlike_lifted os started H enc)
#print axioms shareAlike_row
end Go.Proofs.Ythhhkcjggfdagaa
