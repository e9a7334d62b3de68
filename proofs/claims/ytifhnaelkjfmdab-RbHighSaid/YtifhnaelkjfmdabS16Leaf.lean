/- Package rb, as landed: kindOf, kindOver, tag, Red, High, Make, Blacken, Rank. -/
import Derived.Test.YtifhnaelkjfmdabL16Says
import Derived.Test.YtifhnaelkjfmdabGRet
import Derived.Test.YtifhnaelkjfmdabGHeld
import Derived.Test.YtifhnaelkjfmdabL9Same
import Derived.IntWalk
namespace Go.Proofs.Ytifhnaelkjfmdab
open Go.RowKit Go.Proofs.Treem
set_option maxRecDepth 100000
variable {Nd : NdP}

theorem kind_f0 (W : World) (a b : Int) : (Instr.field 61 (.agg #[.int .u64 a, .int .u64 b]) 0).run Try.prog W = .ok (.int .u64 a) W := by kernel_rfl
theorem kind_f1 (W : World) (a b : Int) : (Instr.field 61 (.agg #[.int .u64 a, .int .u64 b]) 1).run Try.prog W = .ok (.int .u64 b) W := by kernel_rfl
set_option maxHeartbeats 4000000 in
/-- what a tree's root is -/
theorem kindOf_any (hN : NodeSays Nd) (w : World) (t : Tr) (p : Option Addr) (ht : TreeAt Nd w w.heap.size t p) (c d : Nat) (hc : t.tag.toNat % 2 = c) (hd : t.tag.toNat / 2 = d) :
    Calls Try.prog 50 #[.pointer p] w fun e w' => e = .returned (.agg #[.int .u64 (c : Int), .int .u64 (d : Int)]) ∧ Below w.heap.size w w' := by
  have tg : Hid (∀ V, Below w.heap.size w V → Calls Try.prog 38 #[.pointer p] V fun e w' => e = .returned (.int .u64 (t.tag.toNat : Int)) ∧ Below V.heap.size V w') := fun V h => TreeAt.tag hN (ht.after hN h)
  obtain ⟨m, hm⟩ : ∃ m, t.tag.toNat = m := ⟨_, rfl⟩
  have hlm := t.tag.isLt
  rw [hm] at tg hc hd hlm
  obtain ⟨sz, hsz⟩ : ∃ sz, w.heap.size = sz := ⟨_, rfl⟩
  obtain ⟨W, hW⟩ : ∃ W, w.alloc (.cells #[.int .u64 0, .int .u64 0] 61) = W := ⟨_, rfl⟩
  have b0 : Hid (Below w.heap.size w W) := hW ▸ (Below.refl _ w).alloc (Nat.le_refl _) _
  have g0 : Hid (Has W sz 61 #[.int .u64 0, .int .u64 0]) := hsz ▸ hW ▸ Has.new w _ _
  have e1 : (m : Int).tmod 2 = (c : Int) := by rw [Int.tmod_eq_emod_of_nonneg (by omega)]; omega
  have e2 : (m : Int).tdiv 2 = (d : Int) := by rw [Int.tdiv_eq_ediv_of_nonneg (by omega)]; omega
  have e3 : (m : Int) % 2 = (c : Int) := by omega
  have e4 : (m : Int) / 2 = (d : Int) := by omega
  have e5 : IntKind.u64.wrap (d : Int) = (d : Int) := by rw [IntKind.wrap_u64]; omega
  have HS := Lib.hid hsz
  have HW := Lib.hid hW
  clear hN ht hc hd hsz hW hlm hm
  go_enter Try.func50, Try.ntmps50
  go_wp2_with fail
  rw [HS.out, HW.out]
  refine (tg.out W b0.out).mono ?_
  rintro e w1 ⟨rfl, hb⟩
  have b1 := Lib.hid (Below.after b0.out hb)
  have g1 := Lib.hid (g0.out.next hb)
  clear hb b0 g0
  go_wp2_with fail
  refine (tg.out w1 b1.out).mono ?_
  rintro e w2 ⟨rfl, hb⟩
  have b2 := Lib.hid (Below.after b1.out hb)
  have g2 := Lib.hid (g1.out.next hb)
  clear hb b1 g1 tg
  have x0 := g2.out.free 0
  have x1 := g2.out.free 1
  have r0 := g2.out.cell 0
  have r1 := g2.out.cell 1
  simp only [List.getElem?_toArray, List.getElem?_cons_zero, List.getElem?_cons_succ] at r0 r1
  go_wp2_with fail
  refine bodyPost_ret (Ret.row rfl _ _ sz 61 _ (0, 0) _ rfl (Ret.put2 g2.out _ _) Try.underlying61 rfl (by kernel_rfl)) rfl ?_
  exact ⟨rfl, ((b2.out.setCell (p := ⟨sz, 0, none⟩) (by rw [HS.out]; exact Nat.le_refl _) _).setCell (p := ⟨sz, 1, none⟩) (by rw [HS.out]; exact Nat.le_refl _) _)⟩
set_option maxHeartbeats 4000000 in
/-- what a node of that colour over that left side ought to be -/
theorem kindOver_any (hN : NodeSays Nd) (w : World) (t : Tr) (p : Option Addr) (ht : TreeAt Nd w w.heap.size t p) (x y : Nat) (hy : (x = 0 ∧ y = t.tag.toNat / 2 + 1) ∨ (x ≠ 0 ∧ y = t.tag.toNat / 2)) :
    Calls Try.prog 41 #[.pointer p, .int .u64 (x : Int)] w fun e w' => e = .returned (.agg #[.int .u64 (x : Int), .int .u64 (y : Int)]) ∧ Below w.heap.size w w' := by
  obtain ⟨c, hc⟩ : ∃ c, t.tag.toNat % 2 = c := ⟨_, rfl⟩
  obtain ⟨d, hd⟩ : ∃ d, t.tag.toNat / 2 = d := ⟨_, rfl⟩
  have hlt : d < 9223372036854775808 := by have := t.tag.isLt; omega
  have cK : Hid (∀ V, Below w.heap.size w V → Calls Try.prog 50 #[.pointer p] V fun e w' => e = .returned (.agg #[.int .u64 (c : Int), .int .u64 (d : Int)]) ∧ Below V.heap.size V w') := fun V h => kindOf_any hN V t p (ht.after hN h) c d hc hd
  rw [hd] at hy
  obtain ⟨sz, hsz⟩ : ∃ sz, w.heap.size = sz := ⟨_, rfl⟩
  obtain ⟨W, hW⟩ : ∃ W, w.alloc (.cells #[.int .u64 0, .int .u64 0] 61) = W := ⟨_, rfl⟩
  have b0 : Hid (Below w.heap.size w W) := hW ▸ (Below.refl _ w).alloc (Nat.le_refl _) _
  have g0 : Hid (Has W sz 61 #[.int .u64 0, .int .u64 0]) := hsz ▸ hW ▸ Has.new w _ _
  have HS := Lib.hid hsz
  have HW := Lib.hid hW
  clear hN ht hc hd hsz hW
  rcases hy with ⟨rfl, hy⟩ | ⟨hx, rfl⟩
  · have e1 : IntKind.u64.wrap ((d : Int) + 1) = (y : Int) := by rw [IntKind.wrap_u64]; omega
    have f1 := fun W => kind_f1 W c d
    clear hy hlt
    go_enter Try.func41, Try.ntmps41
    go_wp2_with fail
    rw [HS.out, HW.out]
    refine (cK.out W b0.out).mono ?_
    rintro e w2 ⟨rfl, hb⟩
    have b2 := Lib.hid (Below.after b0.out hb)
    have g2 := Lib.hid (g0.out.next hb)
    clear hb b0 g0 cK
    have x0 := g2.out.free 0
    have x1 := g2.out.free 1
    have r0 := g2.out.cell 0
    have r1 := g2.out.cell 1
    simp only [List.getElem?_toArray, List.getElem?_cons_zero, List.getElem?_cons_succ] at r0 r1
    go_wp2_with fail
    refine bodyPost_ret (Ret.row rfl _ _ sz 61 _ (0, 0) _ rfl (Ret.put2 g2.out _ _) Try.underlying61 rfl (by kernel_rfl)) rfl ?_
    exact ⟨rfl, ((b2.out.setCell (p := ⟨sz, 0, none⟩) (by rw [HS.out]; exact Nat.le_refl _) _).setCell (p := ⟨sz, 1, none⟩) (by rw [HS.out]; exact Nat.le_refl _) _)⟩
  · have e1 : ((x : Int) == 0) = false := by rw [beq_eq_false_iff_ne]; omega
    have f1 := fun W => kind_f1 W c y
    clear hlt
    go_enter Try.func41, Try.ntmps41
    go_wp2_with fail
    rw [HS.out, HW.out]
    refine (cK.out W b0.out).mono ?_
    rintro e w2 ⟨rfl, hb⟩
    have b2 := Lib.hid (Below.after b0.out hb)
    have g2 := Lib.hid (g0.out.next hb)
    clear hb b0 g0 cK
    have x0 := g2.out.free 0
    have x1 := g2.out.free 1
    have r0 := g2.out.cell 0
    have r1 := g2.out.cell 1
    simp only [List.getElem?_toArray, List.getElem?_cons_zero, List.getElem?_cons_succ] at r0 r1
    go_wp2_with fail
    refine bodyPost_ret (Ret.row rfl _ _ sz 61 _ (0, 0) _ rfl (Ret.put2 g2.out _ _) Try.underlying61 rfl (by kernel_rfl)) rfl ?_
    exact ⟨rfl, ((b2.out.setCell (p := ⟨sz, 0, none⟩) (by rw [HS.out]; exact Nat.le_refl _) _).setCell (p := ⟨sz, 1, none⟩) (by rw [HS.out]; exact Nat.le_refl _) _)⟩
set_option maxHeartbeats 4000000 in
/-- the tag of such a kind -/
theorem kindTag_any (w : World) (c h y z : Int) (e1 : IntKind.u64.wrap (h * 2) = y) (e2 : IntKind.u64.wrap (y + c) = z) : Calls Try.prog 42 #[.agg #[.int .u64 c, .int .u64 h]] w fun e w' => e = .returned (.int .u64 z) ∧ Below w.heap.size w w' := by
  go_enter Try.func42, Try.ntmps42
  go_wp2
  go_ret
  exact ⟨rfl, (Below.refl _ _).alloc (Nat.le_refl _) _⟩
set_option maxHeartbeats 4000000 in
theorem rbRed_any (hN : NodeSays Nd) (w : World) (t : Tr) (p : Option Addr) (ht : TreeAt Nd w w.heap.size t p) : Calls Try.prog 21 #[.pointer p] w fun e w' => e = .returned (.bool (redR t)) ∧ Below w.heap.size w w' := by
  obtain ⟨c, hc⟩ : ∃ c, t.tag.toNat % 2 = c := ⟨_, rfl⟩
  obtain ⟨d, hd⟩ : ∃ d, t.tag.toNat / 2 = d := ⟨_, rfl⟩
  have cK := Lib.hid (kindOf_any hN w t p ht c d hc hd)
  have e1 : ((c : Int) == 1) = redR t := by
    rw [redR, hc]
    by_cases h : c = 1
    · rw [h]; rfl
    · rw [beq_eq_false_iff_ne.2 h, beq_eq_false_iff_ne]; omega
  obtain ⟨b, hb⟩ : ∃ b, redR t = b := ⟨_, rfl⟩
  rw [hb] at e1 ⊢
  have f0 := fun W => kind_f0 W c d
  clear hN ht hc hd hb
  go_enter Try.func21, Try.ntmps21
  go_wp2_with fail
  refine cK.out.mono ?_
  rintro e w1 ⟨rfl, hb⟩
  have b1 := Lib.hid hb
  clear hb cK
  go_wp2
  go_ret
  exact ⟨rfl, b1.out⟩
set_option maxHeartbeats 4000000 in
theorem rbHigh_any' (hN : NodeSays Nd) (w : World) (t : Tr) (p : Option Addr) (ht : TreeAt Nd w w.heap.size t p) : Calls Try.prog 20 #[.pointer p] w fun e w' => e = .returned (nI (highR t)) ∧ Below w.heap.size w w' := by
  obtain ⟨c, hc⟩ : ∃ c, t.tag.toNat % 2 = c := ⟨_, rfl⟩
  obtain ⟨d, hd⟩ : ∃ d, t.tag.toNat / 2 = d := ⟨_, rfl⟩
  have cK := Lib.hid (kindOf_any hN w t p ht c d hc hd)
  have e1 : IntKind.i64.wrap (d : Int) = (d : Int) := IntWalk.i64_in _ (by have := t.tag.isLt; omega)
  rw [highR, hd]
  have f1 := fun W => kind_f1 W c d
  clear hN ht hc hd
  go_enter Try.func20, Try.ntmps20
  go_wp2_with fail
  refine cK.out.mono ?_
  rintro e w1 ⟨rfl, hb⟩
  have b1 := Lib.hid hb
  clear hb cK
  go_wp2
  go_ret
  exact ⟨rfl, b1.out⟩
set_option maxHeartbeats 4000000 in
theorem rbMake_any (hN : NodeSays Nd) (w : World) (L R : AT) (k v : BitVec 64) (red : Bool) (hl : Stand Nd w L) (hr : Stand Nd w R) : Calls Try.prog 12 #[.pointer L.ptr, K k, K v, .bool red, .pointer R.ptr] w (Made13 Nd L R k v (tagR L.tr red) w) := by
  obtain ⟨d, hd⟩ : ∃ d, L.tr.tag.toNat / 2 = d := ⟨_, rfl⟩
  have hlt : d < 9223372036854775808 := by have := L.tr.tag.isLt; omega
  obtain ⟨G, hG⟩ : ∃ G, tagR L.tr red = G := ⟨_, rfl⟩
  have hg : G.toNat = (2 * d + if red then 1 else 2) % 18446744073709551616 := by rw [← hG, tagR, BitVec.toNat_ofNat, highR, hd]
  obtain ⟨z, hz⟩ : ∃ z : Int, (G.toNat : Int) = z := ⟨_, rfl⟩
  have cN : Hid (∀ W, Below w.heap.size w W → Calls Try.prog 40 #[.pointer L.ptr, K k, K v, .int .u64 z, .pointer R.ptr] W (Made13 Nd L R k v G W)) := fun W h => hz ▸ new13 hN W L R k v G (hl.after hN h) (hr.after hN h)
  have cO : Hid (∀ x y : Nat, (x = 0 ∧ y = d + 1) ∨ (x ≠ 0 ∧ y = d) → Calls Try.prog 41 #[.pointer L.ptr, .int .u64 (x : Int)] w fun e w' => e = .returned (.agg #[.int .u64 (x : Int), .int .u64 (y : Int)]) ∧ Below w.heap.size w w') := fun x y h => kindOver_any hN w L.tr L.ptr hl.tree x y (by rw [hd]; exact h)
  obtain ⟨pl, hpl⟩ : ∃ p, L.ptr = p := ⟨_, rfl⟩
  obtain ⟨pr, hpr⟩ : ∃ p, R.ptr = p := ⟨_, rfl⟩
  rw [hpl, hpr] at cN
  rw [hpl] at cO
  rw [hpl, hpr, hG]
  cases red with
  | true =>
    rw [if_pos rfl] at hg
    have e1 : IntKind.u64.wrap ((d : Int) * 2) = ((d * 2 : Nat) : Int) := by rw [IntKind.wrap_u64]; omega
    have e2 : IntKind.u64.wrap (((d * 2 : Nat) : Int) + 1) = z := by rw [IntKind.wrap_u64]; omega
    have cT : Hid (∀ W, Calls Try.prog 42 #[.agg #[.int .u64 1, .int .u64 (d : Int)]] W fun e w' => e = .returned (.int .u64 z) ∧ Below W.heap.size W w') := fun W => kindTag_any W 1 d _ z e1 e2
    have cO1 : Hid (Calls Try.prog 41 #[.pointer pl, .int .u64 1] w fun e w' => e = .returned (.agg #[.int .u64 1, .int .u64 (d : Int)]) ∧ Below w.heap.size w w') := cO.out 1 d (.inr ⟨by decide, rfl⟩)
    clear hG hz hl hr hN hpl hpr e1 e2 hg hlt hd cO
    go_enter Try.func12, Try.ntmps12
    go_wp2_with fail
    refine cO1.out.mono ?_
    rintro e w1 ⟨rfl, hb⟩
    have b1 := Lib.hid hb
    clear hb cO1
    go_wp2_with fail
    refine (cT.out w1).mono ?_
    rintro e w2 ⟨rfl, hb⟩
    have b2 := Lib.hid (Below.after b1.out hb)
    clear hb cT b1
    go_wp2_with fail
    refine (cN.out w2 b2.out).mono ?_
    rintro e w3 ⟨a, x, rfl, hx, hs, ha, hb⟩
    have B3 := Lib.hid (Below.after b2.out hb)
    have HX := Lib.hid hx
    have HS := Lib.hid hs
    have HA := Lib.hid (Nat.le_trans b2.out.size ha)
    clear hb hx hs ha
    go_wp2
    go_ret
    exact ⟨a, x, rfl, HX.out, HS.out, HA.out, B3.out⟩
  | false =>
    rw [if_neg (by decide)] at hg
    obtain ⟨y, hy⟩ : ∃ y : Int, IntKind.u64.wrap (((d + 1 : Nat) : Int) * 2) = y := ⟨_, rfl⟩
    have e2 : IntKind.u64.wrap (y + 0) = z := by rw [← hy, IntKind.wrap_u64, IntKind.wrap_u64]; omega
    have cT : Hid (∀ W, Calls Try.prog 42 #[.agg #[.int .u64 0, .int .u64 ((d + 1 : Nat) : Int)]] W fun e w' => e = .returned (.int .u64 z) ∧ Below W.heap.size W w') := fun W => kindTag_any W 0 _ _ z hy e2
    have cO1 : Hid (Calls Try.prog 41 #[.pointer pl, .int .u64 0] w fun e w' => e = .returned (.agg #[.int .u64 0, .int .u64 ((d + 1 : Nat) : Int)]) ∧ Below w.heap.size w w') := cO.out 0 (d + 1) (.inl ⟨rfl, rfl⟩)
    obtain ⟨u, hu⟩ : ∃ u : Int, ((d + 1 : Nat) : Int) = u := ⟨_, rfl⟩
    rw [hu] at cT cO1
    clear hG hz hl hr hN hpl hpr hy e2 hg hlt hd cO hu
    go_enter Try.func12, Try.ntmps12
    go_wp2_with fail
    refine cO1.out.mono ?_
    rintro e w1 ⟨rfl, hb⟩
    have b1 := Lib.hid hb
    clear hb cO1
    go_wp2_with fail
    refine (cT.out w1).mono ?_
    rintro e w2 ⟨rfl, hb⟩
    have b2 := Lib.hid (Below.after b1.out hb)
    clear hb cT b1
    go_wp2_with fail
    refine (cN.out w2 b2.out).mono ?_
    rintro e w3 ⟨a, x, rfl, hx, hs, ha, hb⟩
    have B3 := Lib.hid (Below.after b2.out hb)
    have HX := Lib.hid hx
    have HS := Lib.hid hs
    have HA := Lib.hid (Nat.le_trans b2.out.size ha)
    clear hb hx hs ha
    go_wp2
    go_ret
    exact ⟨a, x, rfl, HX.out, HS.out, HA.out, B3.out⟩
set_option maxHeartbeats 4000000 in
theorem rbBlackNo_any (hN : NodeSays Nd) (w : World) (t : Tr) (p : Option Addr) (ht : TreeAt Nd w w.heap.size t p) (hr : redR t = false) : Calls Try.prog 14 #[.pointer p] w fun e w' => e = .returned (.pointer p) ∧ Below w.heap.size w w' := by
  have cR := Lib.hid (rbRed_any hN w t p ht)
  rw [hr] at cR
  clear hN ht hr
  go_enter Try.func14, Try.ntmps14
  go_wp2_with fail
  refine cR.out.mono ?_
  rintro e w1 ⟨rfl, hb⟩
  have b1 := Lib.hid hb
  clear hb cR
  go_wp2
  go_ret
  exact ⟨rfl, b1.out⟩
set_option maxHeartbeats 4000000 in
theorem rbBlackYes_any (hN : NodeSays Nd) (w : World) (a : Addr) (x : No) (L R : AT) (hs : Stand Nd w (.n a x L R)) (hr : redR (AT.n a x L R).tr = true) : Calls Try.prog 14 #[.pointer (some a)] w (Made13 Nd L R x.k x.v (x.g + 1#64) w) := by
  have cR := Lib.hid (rbRed_any hN w _ (some a) hs.tree)
  rw [hr] at cR
  obtain ⟨hx, e1, e2, s1, s2⟩ : Nd w w.heap.size a x ∧ x.l = L.ptr ∧ x.r = R.ptr ∧ Stand Nd w L ∧ Stand Nd w R := by
    obtain ⟨h1, h2, h3, h4, h5⟩ := hs.lies
    obtain ⟨a', pl, pr, ea, k2, k3, k4⟩ := hs.tree
    cases ea
    have hu := hN.uniq h1 k2
    have el : pl = L.ptr := by rw [← h2, hu]
    have er : pr = R.ptr := by rw [← h3, hu]
    subst el er
    exact ⟨h1, h2, h3, ⟨h4, k3⟩, ⟨h5, k4⟩⟩
  have cL : Hid (∀ W, Below w.heap.size w W → Calls Try.prog 16 #[.pointer (some a)] W fun e w' => e = .returned (.pointer L.ptr) ∧ W = w') := fun W h => e1 ▸ hN.left W _ a x (hN.next hx h)
  have cr : Hid (∀ W, Below w.heap.size w W → Calls Try.prog 17 #[.pointer (some a)] W fun e w' => e = .returned (.pointer R.ptr) ∧ W = w') := fun W h => e2 ▸ hN.right W _ a x (hN.next hx h)
  have ck := Lib.hid (fun W (h : Below w.heap.size w W) => hN.key W _ a x (hN.next hx h))
  have cv := Lib.hid (fun W (h : Below w.heap.size w W) => hN.val W _ a x (hN.next hx h))
  have cg : Hid (∀ W, Below w.heap.size w W → Calls Try.prog 38 #[.pointer (some a)] W fun e w' => e = .returned (.int .u64 (x.g.toNat : Int)) ∧ W = w') := fun W h => hN.tag W _ a x (hN.next hx h)
  have cN : Hid (∀ W, Below w.heap.size w W → Calls Try.prog 40 #[.pointer L.ptr, K x.k, K x.v, .int .u64 ((x.g + 1#64).toNat : Int), .pointer R.ptr] W (Made13 Nd L R x.k x.v (x.g + 1#64) W)) := fun W h => new13 hN W L R x.k x.v (x.g + 1#64) (s1.after hN h) (s2.after hN h)
  have e5 : IntKind.u64.wrap ((x.g.toNat : Int) + 1) = ((x.g + 1#64).toNat : Int) := by rw [IntKind.wrap_u64, BitVec.toNat_add, show (1#64).toNat = 1 from rfl]; omega
  obtain ⟨G, hG⟩ : ∃ G, x.g + 1#64 = G := ⟨_, rfl⟩
  rw [hG] at cN e5 ⊢
  obtain ⟨z, hz⟩ : ∃ z : Int, (G.toNat : Int) = z := ⟨_, rfl⟩
  rw [hz] at cN e5
  obtain ⟨g, hg⟩ : ∃ z : Int, (x.g.toNat : Int) = z := ⟨_, rfl⟩
  rw [hg] at cg e5
  obtain ⟨pl, hpl⟩ : ∃ p, L.ptr = p := ⟨_, rfl⟩
  obtain ⟨pr, hpr⟩ : ∃ p, R.ptr = p := ⟨_, rfl⟩
  rw [hpl] at cL cN
  rw [hpr] at cr cN
  obtain ⟨k, hk⟩ : ∃ p, x.k = p := ⟨_, rfl⟩
  obtain ⟨v, hv⟩ : ∃ p, x.v = p := ⟨_, rfl⟩
  rw [hk] at ck cN ⊢
  rw [hv] at cv cN ⊢
  clear hG hz hg hpl hpr hk hv hx e1 e2 s1 s2 hs hr hN
  go_enter Try.func14, Try.ntmps14
  go_wp2_with fail
  refine cR.out.mono ?_
  rintro e w1 ⟨rfl, hb⟩
  have b1 := Lib.hid hb
  clear hb cR
  go_wp2_with fail
  refine (cL.out w1 b1.out).mono ?_
  rintro e w' ⟨rfl, rfl⟩
  go_wp2_with fail
  refine (ck.out w1 b1.out).mono ?_
  rintro e w' ⟨rfl, rfl⟩
  go_wp2_with fail
  refine (cv.out w1 b1.out).mono ?_
  rintro e w' ⟨rfl, rfl⟩
  go_wp2_with fail
  refine (cg.out w1 b1.out).mono ?_
  rintro e w' ⟨rfl, rfl⟩
  go_wp2_with fail
  refine (cr.out w1 b1.out).mono ?_
  rintro e w' ⟨rfl, rfl⟩
  go_wp2_with fail
  refine (cN.out w1 b1.out).mono ?_
  rintro e w3 ⟨b, y, rfl, hy, hs, ha, hb⟩
  have B3 := Lib.hid (Below.after b1.out hb)
  have HX := Lib.hid hy
  have HS := Lib.hid hs
  have HA := Lib.hid (Nat.le_trans b1.out.size ha)
  clear hb hy hs ha
  go_wp2
  go_ret
  exact ⟨b, y, rfl, HX.out, HS.out, HA.out, B3.out⟩
theorem rbBlack_any (hN : NodeSays Nd) (w : World) (t : Tr) (p : Option Addr) (h : TreeAt Nd w w.heap.size t p) : Calls Try.prog 14 #[.pointer p] w fun e w' => ∃ q, e = .returned (.pointer q) ∧ TreeAt Nd w' w'.heap.size (blackR t) q ∧ Below w.heap.size w w' := by
  cases hr : redR t with
  | false =>
    rw [black_no hr]
    exact (rbBlackNo_any hN w t p h hr).mono fun e w' ⟨h1, h2⟩ => ⟨p, h1, h.after hN h2, h2⟩
  | true =>
    obtain ⟨T, rfl, hT, rfl⟩ := AT.of_tree t p h
    cases T with
    | e => cases hr
    | n a x L R =>
      refine (rbBlackYes_any hN w a x L R ⟨hT, h⟩ hr).mono fun e w' hm => ?_
      obtain ⟨b, h1, -, -, h3, h4⟩ := stood_of_made hN hm
      refine ⟨_, h1, ?_, h4⟩
      rw [show (AT.n a x L R).tr = .n L.tr x.k x.v x.g R.tr from rfl, black_yes hr]
      exact h3
set_option maxHeartbeats 4000000 in
theorem rbRank_any (hN : NodeSays Nd) (w : World) (t : Tr) (p : Option Addr) (h : TreeAt Nd w w.heap.size t p) : Calls Try.prog 26 #[.pointer p] w fun e w' => e = .returned (K (rankR t)) ∧ Below w.heap.size w w' := by
  have cB := Lib.hid (rbBlack_any hN w t p h)
  have cH : Hid (∀ W q, TreeAt Nd W W.heap.size (blackR t) q → Calls Try.prog 20 #[.pointer q] W fun e w' => e = .returned (.int .i64 (highR (blackR t) : Nat)) ∧ Below W.heap.size W w') := fun W q h => rbHigh_any' hN W (blackR t) q h
  have hlt := high_lt (blackR t)
  have e2 := i_of_u (rankR t)
  rw [rankR, BitVec.toNat_ofNat, Nat.mod_eq_of_lt (by omega), ← rankR] at e2
  show Calls _ _ _ _ fun e w' => e = .returned (.int .i64 (rankR t).toInt) ∧ _
  obtain ⟨z, hz⟩ : ∃ z, (rankR t).toInt = z := ⟨_, rfl⟩
  rw [hz] at e2 ⊢
  obtain ⟨d, hd⟩ : ∃ d, highR (blackR t) = d := ⟨_, rfl⟩
  rw [hd] at cH e2
  have e3 : IntKind.i64.wrap (2 * (d : Int)) = z := by rw [← e2]; rfl
  clear hN h hlt hz hd e2
  go_enter Try.func26, Try.ntmps26
  go_wp2_with fail
  refine cB.out.mono ?_
  rintro e w1 ⟨q, rfl, ht, hb⟩
  have b1 := Lib.hid hb
  have T1 := Lib.hid ht
  clear hb ht cB
  go_wp2_with fail
  refine (cH.out w1 q T1.out).mono ?_
  rintro e w2 ⟨rfl, hb⟩
  have b2 := Lib.hid (Below.after b1.out hb)
  clear hb cH T1 b1
  go_wp2
  go_ret
  exact ⟨rfl, b2.out⟩
end Go.Proofs.Ytifhnaelkjfmdab
