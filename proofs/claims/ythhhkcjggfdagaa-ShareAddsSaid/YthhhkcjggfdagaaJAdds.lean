/- Proved here: for every row of nodes that are made of one another and every three of them the law ShareAdds of layer 13 returns true (a node of two trees is one new node; what is new in a tree and what is the same are all its nodes; the highest ones that are the same have all that is the same); it changes nothing that lay. Condition: none. -/
import Derived.Test.YthhhkcjggfdagaaJT
import Derived.Test.YthhhkcjggfdagaaL9Says
import Derived.Test.YthhhkcjggfdagaaL13Adds
import Derived.Test.YthhhkcjggfdagaaL13Duos
import Derived.Test.YthhhkcjggfdagaaL9Open
import Derived.Test.YthhhkcjggfdagaaRows
import Derived.Below
import Derived.ChangeOld
namespace Go.Proofs.Ythhhkcjggfdagaa
open Go.ChangeShapes Go.WideShapes Go.ChangeAt Go.RowKit
theorem shareAdds_row_any (A : Option Addr) (n c : Nat) (l : List Rowm.Pr) (hl : l.length = n) (hn : n ≤ c) (hc : c ≤ maxLen) (hz : A = none → c = 0) (a b q : Nat) (ha : a ≤ 255) (hb : b ≤ 255) (hq : q ≤ 255) (w : World) (hr : Row w w.heap.size A (flat l)) : Calls Try.prog 4 #[.slice A n c, .int .u8 a, .int .u8 b, .int .u8 q] w fun e w' => e = .returned (.bool true) ∧ Below w.heap.size w w' :=
  shareAdds_any node_says (share_says node_says) A n c l a b q ha hb hq w ⟨hl, hn, hc, hz, hr⟩

set_option maxRecDepth 100000 in
theorem shareAdds_lifted (os : Os) (started : os.Started) (H : Type) (enc : TypeId × Value → H) :
    ReturnsInHanded {} Try.checked os 4 .any (Rows.shareAddsSpec.pre6 enc Try.prog Try.f4 Rows.shareAddsRow.domain false)
      (Rows.shareAddsSpec.post enc Try.prog Try.f4 false true false false) := by
  refine returnsInHanded_of_change (C := Try.checked) own started (by kernel_rfl) Try.func4
    (ChangeSpec.witness6 (enc := enc) (C := Try.checked) false ⟨#[], #[.slice none 0 0, .int .u8 0, .int .u8 0, .int .u8 0], []⟩ 8 (by kernel_rfl) (by kernel_rfl) (by kernel_rfl) (by kernel_rfl)) ?_
  intro W base args ds gs before hval0 hW _ _
  have hval : ∀ (j : Nat) t v, Try.f4.params[j]? = some t → args[j]? = some v → Value.okWide Try.prog W .any base t v := hval0
  have hW' := hW
  obtain ⟨p, q, hA0, hV, rfl, hfz, hnd⟩ := hW
  have hA : DataW.TrodAll enc Try.prog W 0 (fun _ => true) true Try.f4.params.toList args.toList ds p := hA0
  rw [Try.params4] at hA hval
  obtain ⟨v0, vs0, d0, ds0, p0, q0, hargs, rfl, rfl, h0, r0⟩ := trodAll_cons hA
  obtain ⟨v1, vs1, d1, ds1, p1, q1, rfl, rfl, rfl, h1, r1⟩ := trodAll_cons r0
  obtain ⟨v2, vs2, d2, ds2, p2, q2, rfl, rfl, rfl, h2, r2⟩ := trodAll_cons r1
  obtain ⟨v3, vs3, d3, ds3, p3, q3, rfl, rfl, rfl, h3, r3⟩ := trodAll_cons r2
  obtain ⟨rfl, rfl, rfl⟩ := trodAll_nil r3
  obtain rfl : args = #[v0, v1, v2, v3] := by cases args; simp_all
  obtain ⟨rfl, rfl⟩ := trodVars_none hV
  have k0 := h0
  have lt0 : ∀ x ∈ p0, x.block < W.heap.size := by obtain ⟨m, hm⟩ := k0; exact DataW.trod_lt m _ _ _ hm
  obtain ⟨A0, n0, c0, l0, rfl, hl0, hn0, hc0, hz0, hr0⟩ := open_duos (hval 0 33 v0 rfl rfl) h0
  obtain ⟨a1, rfl, rfl, rfl, w1⟩ := open_int Try.underlying5 (hval 1 5 v1 rfl rfl) h1
  obtain ⟨b1, rfl, u1⟩ := byte_of a1 w1
  obtain ⟨a2, rfl, rfl, rfl, w2⟩ := open_int Try.underlying5 (hval 2 5 v2 rfl rfl) h2
  obtain ⟨b2, rfl, u2⟩ := byte_of a2 w2
  obtain ⟨a3, rfl, rfl, rfl, w3⟩ := open_int Try.underlying5 (hval 3 5 v3 rfl rfl) h3
  obtain ⟨b3, rfl, u3⟩ := byte_of a3 w3
  clear hA0 hval0
  refine (shareAdds_row_any A0 n0 c0 l0 hl0 hn0 hc0 hz0 b1 b2 b3 u1 u2 u3 W hr0).mono fun e W' ⟨he, bel⟩ => ?_
  subst he
  exact ⟨_, rfl, _, _, _, [], _, [], hW', trodAll_mk1 (shut_bool Try.underlying4 _), trodAll_cons_mk (Below.trod laidOut (by kernel_rfl) (of_decide_eq_true (by kernel_rfl)) k0 bel lt0) (trodAll_cons_mk (shut_int Try.underlying5 w1) (trodAll_cons_mk (shut_int Try.underlying5 w2) (trodAll_cons_mk (shut_int Try.underlying5 w3) trodAll_mk0))), rfl, bel.frame _, fun h => by cases h⟩

theorem shareAdds_row : Rows.ShareAddsSaid :=
  OpenClaim.holds_of_wide 4 Try.f4 rfl rfl rfl rfl rfl rfl rfl ⟨rfl, rfl, rfl, rfl, rfl⟩ rfl rfl rfl rfl rfl (by kernel_rfl) Try.func4 (by kernel_rfl)
    (of_decide_eq_true (by kernel_rfl)) (by unfold Func.isWrapper; first | (rw [if_pos (by decide +kernel)]; kernel_rfl) | (rw [if_neg (by decide +kernel)]; exact ⟨rfl, rfl⟩))
    (fun os started H enc _ => shareAdds_lifted os started H enc)
#print axioms shareAdds_row
end Go.Proofs.Ythhhkcjggfdagaa
