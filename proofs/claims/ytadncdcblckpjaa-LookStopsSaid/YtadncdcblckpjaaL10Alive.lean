/- Layer 10: the chapter's example (alive). Made by wip/gen/layer10.py. -/
import Derived.Test.YtadncdcblckpjaaL10Steps
namespace Go.Proofs.Ytadncdcblckpjaa
open Go.RowKit Go.Proofs.Rowm Go.Proofs.Treem
variable {Nd : NdP}

/-- the chapter's tree -/
def tr1 : Tr := .n .e 1#64 2#64 0#64 .e
def tr2 : Tr := .n tr1 3#64 4#64 0#64 .e
def two2 : List Pr := [(1#64, 2#64), (3#64, 4#64)]
theorem tr2_pairs : tr2.pairs = two2 := rfl
theorem k10 : K 1#64 = .int .i64 1 := rfl
theorem k20 : K 2#64 = .int .i64 2 := rfl
theorem k30 : K 3#64 = .int .i64 3 := rfl
theorem k40 : K 4#64 = .int .i64 4 := rfl
theorem g00 : G64 0#64 = .int .u64 0 := rfl
set_option maxHeartbeats 4000000 in
theorem alive10_any (hN : NodeSays Nd) (hS : LookSays Nd) (w : World) : Calls Try.prog 7 #[] w fun e w' => e = .returned (.bool true) ∧ Below w.heap.size w w' := by
  have c1 : Hid (∀ W : World, Calls Try.prog 28 #[.pointer none, .int .i64 1, .int .i64 2, .int .u64 0, .pointer none] W fun e w' => ∃ a, e = .returned (.pointer (some a)) ∧ TreeAt Nd w' w'.heap.size tr1 (some a) ∧ Below W.heap.size W w') := fun W => by
    have hE : TreeAt Nd W W.heap.size .e none := rfl
    refine (hN.new W W.heap.size none none 1#64 2#64 0#64 _ _ _ _ (Nat.le_refl _) hE.look hE.look).mono ?_
    intro e w' h
    obtain ⟨a, h1, _, _, h4, h5⟩ := TreeAt.born hN (Nat.le_refl _) hE hE h
    exact ⟨a, h1, h4, h5⟩
  have c2 : Hid (∀ (W : World) (p : Option Addr), TreeAt Nd W W.heap.size tr1 p → Calls Try.prog 28 #[.pointer p, .int .i64 3, .int .i64 4, .int .u64 0, .pointer none] W fun e w' => ∃ a, e = .returned (.pointer (some a)) ∧ TreeAt Nd w' w'.heap.size tr2 (some a) ∧ Below W.heap.size W w') := fun W p hT => by
    have hE : TreeAt Nd W W.heap.size .e none := rfl
    refine (hN.new W W.heap.size p none 3#64 4#64 0#64 _ _ _ _ (Nat.le_refl _) hT.look hE.look).mono ?_
    intro e w' h
    obtain ⟨a, h1, _, _, h4, h5⟩ := TreeAt.born hN (Nat.le_refl _) hT hE h
    exact ⟨a, h1, h4, h5⟩
  have cD : Hid (∀ (W : World) (p : Option Addr), TreeAt Nd W W.heap.size tr2 p → Calls Try.prog 10 #[.pointer p, .int .i64 1] W fun e w' => e = .returned (.tuple #[.int .i64 2, .bool true]) ∧ Below W.heap.size W w') := fun W p hT => hS.deep W tr2 p 1#64 hT (by decide)
  have cH : Hid (∀ (W : World) (p : Option Addr), TreeAt Nd W W.heap.size tr2 p → Calls Try.prog 21 #[.pointer p] W fun e w' => e = .returned (.int .i64 2) ∧ Below W.heap.size W w') := fun W p hT => hS.height W tr2 p hT (by decide)
  have cC : Hid (∀ (W : World) (p : Option Addr), TreeAt Nd W W.heap.size tr2 p → Calls Try.prog 23 #[.pointer p] W fun e w' => e = .returned (.int .i64 2) ∧ Below W.heap.size W w') := fun W p hT => hS.count W tr2 p hT (by decide)
  have cA : Hid (∀ (W : World) (p : Option Addr), TreeAt Nd W W.heap.size tr2 p → Calls Try.prog 14 #[.pointer p] W fun e w' => ∃ v, e = .returned v ∧ Goes W.heap.size w' v two2 ∧ Below W.heap.size W w') := fun W p hT => hS.all W tr2 p _ (Nat.le_refl _) hT (by decide)
  have cB : Hid (∀ (W : World) (p : Option Addr), TreeAt Nd W W.heap.size tr2 p → Calls Try.prog 15 #[.pointer p] W fun e w' => ∃ v, e = .returned v ∧ Goes W.heap.size w' v two2.reverse ∧ Below W.heap.size W w') := fun W p hT => hS.back W tr2 p _ (Nat.le_refl _) hT (by decide)
  have cX : Hid (∀ (B0 : Nat) (W : World) (v : Value) (ps : List Pr), ps.length = 2 → Goes B0 W v ps → Calls Try.prog 13 #[v, .int .i64 9] W (MadeP W 2 ps)) := fun _ W v ps hl hg => collect_all v ps 2 9 hl (by decide) (by decide) W hg
  have hN' := Lib.hid hN
  clear hN hS
  go_enter Try.func7, Try.ntmps7
  go_wp2_with fail
  refine (c1.out w).mono ?_
  rintro e w_1 ⟨a, rfl, hT, hb⟩
  have T_1n := Lib.hid hT
  clear hT
  have b_1 := Lib.hid hb
  clear hb
  go_wp2_with fail
  refine (c2.out w_1 _ T_1n.out).mono ?_
  rintro e w_2 ⟨b, rfl, hT, hb⟩
  have U_2n := Lib.hid hT
  clear hT
  have T_2 := Lib.hid (T_1n.out.after hN'.out hb)
  have b_2 := Lib.hid (Below.after b_1.out hb)
  clear hb T_1n b_1
  clear T_2
  clear c1 c2
  go_wp2_with fail
  obtain ⟨x0, hx0⟩ : ∃ x0, w_2.heap.size = x0 := ⟨_, rfl⟩
  have hr : Row (w_2.alloc (.cells #[.int .i64 1, .int .i64 2, .int .i64 3, .int .i64 4] 50)) (w_2.alloc (.cells #[.int .i64 1, .int .i64 2, .int .i64 3, .int .i64 4] 50)).heap.size (some ⟨w_2.heap.size, 0, none⟩) (flat two2) := (Has.new w_2 50 #[.int .i64 1, .int .i64 2, .int .i64 3, .int .i64 4]).row
  have hb : Below w_2.heap.size w_2 (w_2.alloc (.cells #[.int .i64 1, .int .i64 2, .int .i64 3, .int .i64 4] 50)) := (Below.refl _ _).alloc (Nat.le_refl _) _
  obtain ⟨w_lit, hlit⟩ : ∃ W, w_2.alloc (.cells #[.int .i64 1, .int .i64 2, .int .i64 3, .int .i64 4] 50) = W := ⟨_, rfl⟩
  rw [hlit] at hr hb ⊢
  rw [hx0] at hr ⊢
  clear hlit hx0
  have l_0 := Lib.hid hr
  clear hr
  have U_3 := Lib.hid (U_2n.out.after hN'.out hb)
  have b_3 := Lib.hid (Below.after b_2.out hb)
  clear hb U_2n b_2
  refine (cD.out w_lit _ U_3.out).mono ?_
  rintro e w_4 ⟨rfl, hb⟩
  have U_4 := Lib.hid (U_3.out.after hN'.out hb)
  have l_4 := Lib.hid (l_0.out.next hb)
  have b_4 := Lib.hid (Below.after b_3.out hb)
  clear hb U_3 l_0 b_3
  go_wp2_with fail
  refine (cA.out w_4 _ U_4.out).mono ?_
  rintro e w_5 ⟨v1, rfl, hG, hb⟩
  have G_5n := Lib.hid hG
  clear hG
  have U_5 := Lib.hid (U_4.out.after hN'.out hb)
  have l_5 := Lib.hid (l_4.out.next hb)
  have b_5 := Lib.hid (Below.after b_4.out hb)
  clear hb U_4 l_4 b_4
  go_wp2_with fail
  refine (cX.out _ w_5 v1 _ rfl G_5n.out).mono ?_
  rintro e w_6 ⟨A1, c1, rfl, -, -, -, hr, hb⟩
  have p_6n := Lib.hid hr
  clear hr
  have U_6 := Lib.hid (U_5.out.after hN'.out hb)
  have l_6 := Lib.hid (l_5.out.next hb)
  have G_6 := Lib.hid (G_5n.out.next hb)
  have b_6 := Lib.hid (Below.after b_5.out hb)
  clear hb U_5 l_5 G_5n b_5
  clear G_6
  go_wp2_with fail
  refine (samePairs_yes A1 _ 2 c1 2 two2 rfl (by decide) w_6 p_6n.out l_6.out).mono ?_
  rintro e w_7 ⟨rfl, hb⟩
  have U_7 := Lib.hid (U_6.out.after hN'.out hb)
  have l_7 := Lib.hid (l_6.out.next hb)
  have p_7 := Lib.hid (p_6n.out.next hb)
  have b_7 := Lib.hid (Below.after b_6.out hb)
  clear hb U_6 l_6 p_6n b_6
  clear p_7
  go_wp2_with fail
  refine (cB.out w_7 _ U_7.out).mono ?_
  rintro e w_8 ⟨v2, rfl, hG, hb⟩
  have G_8n := Lib.hid hG
  clear hG
  have U_8 := Lib.hid (U_7.out.after hN'.out hb)
  have l_8 := Lib.hid (l_7.out.next hb)
  have b_8 := Lib.hid (Below.after b_7.out hb)
  clear hb U_7 l_7 b_7
  go_wp2_with fail
  refine (cX.out _ w_8 v2 _ rfl G_8n.out).mono ?_
  rintro e w_9 ⟨A2, c2, rfl, -, -, -, hr, hb⟩
  have p_9n := Lib.hid hr
  clear hr
  have U_9 := Lib.hid (U_8.out.after hN'.out hb)
  have l_9 := Lib.hid (l_8.out.next hb)
  have G_9 := Lib.hid (G_8n.out.next hb)
  have b_9 := Lib.hid (Below.after b_8.out hb)
  clear hb U_8 l_8 G_8n b_8
  clear G_9
  go_wp2_with fail
  refine (turned_made _ 2 2 two2 rfl (by decide) w_9 l_9.out).mono ?_
  rintro e w_10 ⟨A3, c3, rfl, -, -, -, hr, hb⟩
  have q_10n := Lib.hid hr
  clear hr
  have U_10 := Lib.hid (U_9.out.after hN'.out hb)
  have l_10 := Lib.hid (l_9.out.next hb)
  have p_10 := Lib.hid (p_9n.out.next hb)
  have b_10 := Lib.hid (Below.after b_9.out hb)
  clear hb U_9 l_9 p_9n b_9
  go_wp2_with fail
  refine (samePairs_yes A2 A3 2 c2 c3 two2.reverse rfl (by decide) w_10 p_10.out q_10n.out).mono ?_
  rintro e w_11 ⟨rfl, hb⟩
  have U_11 := Lib.hid (U_10.out.after hN'.out hb)
  have l_11 := Lib.hid (l_10.out.next hb)
  have p_11 := Lib.hid (p_10.out.next hb)
  have q_11 := Lib.hid (q_10n.out.next hb)
  have b_11 := Lib.hid (Below.after b_10.out hb)
  clear hb U_10 l_10 p_10 q_10n b_10
  clear p_11
  clear q_11
  clear l_11
  go_wp2_with fail
  refine (cH.out w_11 _ U_11.out).mono ?_
  rintro e w_12 ⟨rfl, hb⟩
  have U_12 := Lib.hid (U_11.out.after hN'.out hb)
  have b_12 := Lib.hid (Below.after b_11.out hb)
  clear hb U_11 b_11
  go_wp2_with fail
  refine (cC.out w_12 _ U_12.out).mono ?_
  rintro e w_13 ⟨rfl, hb⟩
  have U_13 := Lib.hid (U_12.out.after hN'.out hb)
  have b_13 := Lib.hid (Below.after b_12.out hb)
  clear hb U_12 b_12
  go_wp2
  go_ret
  exact ⟨rfl, b_13.out⟩
end Go.Proofs.Ytadncdcblckpjaa
