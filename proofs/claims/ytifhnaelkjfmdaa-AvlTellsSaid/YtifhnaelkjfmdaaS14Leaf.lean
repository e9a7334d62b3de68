/- Package avl, as landed: tagOver, isWellTagged, gap, the two closures of wants, Make, Rank, Lean. -/
import Derived.Test.YtifhnaelkjfmdaaS14Math
import Derived.Test.YtifhnaelkjfmdaaL14Says
namespace Go.Proofs.Ytifhnaelkjfmdaa
open Go.RowKit Go.Proofs.Treem
set_option maxRecDepth 100000
variable {Nd : NdP}

theorem up14 (m : Nat) : IntKind.u64.wrap ((m : Int) + 1) = (((m + 1) % 18446744073709551616 : Nat) : Int) := by
  rw [IntKind.wrap_u64]
  omega
set_option maxHeartbeats 4000000 in
theorem tagOver_any (hN : NodeSays Nd) (w : World) (l r : Tr) (pl pr : Option Addr) (hl : TreeAt Nd w w.heap.size l pl) (hr : TreeAt Nd w w.heap.size r pr) : Calls Try.prog 84 #[.pointer pl, .pointer pr] w fun e w' => e = .returned (.int .u64 (((max l.tag.toNat r.tag.toNat + 1) % 18446744073709551616 : Nat) : Int)) ∧ Below w.heap.size w w' := by
  have t1 : Hid (Calls Try.prog 76 #[.pointer pl] w fun e w' => e = .returned (.int .u64 (l.tag.toNat : Int)) ∧ Below w.heap.size w w') := TreeAt.tag hN hl
  have t2 : Hid (∀ W, Below w.heap.size w W → Calls Try.prog 76 #[.pointer pr] W fun e w' => e = .returned (.int .u64 (r.tag.toNat : Int)) ∧ Below W.heap.size W w') := fun W h => TreeAt.tag hN (hr.after hN h)
  obtain ⟨P, hP⟩ : ∃ P, l.tag.toNat = P := ⟨_, rfl⟩
  obtain ⟨Q, hQ⟩ : ∃ Q, r.tag.toNat = Q := ⟨_, rfl⟩
  rw [hP] at t1 ⊢
  rw [hQ] at t2 ⊢
  have up1 := up14 P
  have up2 := up14 Q
  obtain ⟨G, hG⟩ : ∃ z : Int, (((max P Q + 1) % 18446744073709551616 : Nat) : Int) = z := ⟨_, rfl⟩
  rw [hG]
  clear hP hQ hl hr hN
  rcases Nat.lt_or_ge P Q with hPQ | hPQ
  · rw [Nat.max_eq_right (Nat.le_of_lt hPQ)] at hG
    rw [hG] at up2
    clear up1 hG
    go_enter Try.func84, Try.ntmps84
    go_wp2_with fail
    refine t1.out.mono ?_
    rintro e w1 ⟨rfl, hb⟩
    have b1 := Lib.hid hb
    clear hb t1
    go_wp2_with fail
    refine (t2.out w1 b1.out).mono ?_
    rintro e w2 ⟨rfl, hb⟩
    have b2 := Lib.hid (Below.after b1.out hb)
    clear hb t2 b1
    go_wp2
    all_goals first
      | (exfalso; omega)
      | (go_ret; exact ⟨rfl, b2.out⟩)
  · rw [Nat.max_eq_left hPQ] at hG
    rw [hG] at up1
    clear up2 hG
    go_enter Try.func84, Try.ntmps84
    go_wp2_with fail
    refine t1.out.mono ?_
    rintro e w1 ⟨rfl, hb⟩
    have b1 := Lib.hid hb
    clear hb t1
    go_wp2_with fail
    refine (t2.out w1 b1.out).mono ?_
    rintro e w2 ⟨rfl, hb⟩
    have b2 := Lib.hid (Below.after b1.out hb)
    clear hb t2 b1
    go_wp2
    all_goals first
      | (exfalso; omega)
      | (go_ret; exact ⟨rfl, b2.out⟩)
set_option maxHeartbeats 4000000 in
theorem gap_any (w : World) (P Q : Nat) (hP : P < 18446744073709551616) (hQ : Q < 18446744073709551616) : Calls Try.prog 106 #[.int .u64 (P : Int), .int .u64 (Q : Int)] w fun e w' => e = .returned (.int .u64 ((max P Q - min P Q : Nat) : Int)) ∧ w = w' := by
  obtain ⟨G, hG⟩ : ∃ z : Int, ((max P Q - min P Q : Nat) : Int) = z := ⟨_, rfl⟩
  rw [hG]
  rcases Nat.lt_or_ge P Q with hPQ | hPQ
  · rw [Nat.max_eq_right (Nat.le_of_lt hPQ), Nat.min_eq_left (Nat.le_of_lt hPQ)] at hG
    have e1 : IntKind.u64.wrap ((Q : Int) - (P : Int)) = G := by rw [← hG, IntKind.wrap_u64]; omega
    clear hG hP hQ
    go_enter Try.func106, Try.ntmps106
    go_wp2
    all_goals first
      | (exfalso; omega)
      | (go_ret; exact ⟨rfl, rfl⟩)
  · rw [Nat.max_eq_left hPQ, Nat.min_eq_right hPQ] at hG
    have e1 : IntKind.u64.wrap ((P : Int) - (Q : Int)) = G := by rw [← hG, IntKind.wrap_u64]; omega
    rcases Nat.lt_or_eq_of_le hPQ with hlt | rfl
    · clear hG hP hQ hPQ
      go_enter Try.func106, Try.ntmps106
      go_wp2
      all_goals first
        | (exfalso; omega)
        | (go_ret; exact ⟨rfl, rfl⟩)
    · obtain rfl : G = 0 := by omega
      clear hG hP hQ hPQ e1
      go_enter Try.func106, Try.ntmps106
      go_wp2
      all_goals first
        | (exfalso; omega)
        | (go_ret; exact ⟨rfl, rfl⟩)
theorem well14 (g m : Nat) (hg : g < 18446744073709551616) (hm : m < 18446744073709551616) (h0 : g ≠ 0) : (g = (m + 1) % 18446744073709551616) = (g = m + 1) := by
  apply propext
  omega
set_option maxHeartbeats 4000000 in
/-- whether the tag is one more than the greater one of the sides' -/
theorem well_any (hN : NodeSays Nd) (w : World) (t : Tr) (p : Option Addr) (ht : TreeAt Nd w w.heap.size t p) : Calls Try.prog 104 #[.pointer p] w fun e w' => e = .returned (.bool (decide (t.tag.toNat = max (Tr.lt t).tag.toNat (Tr.rt t).tag.toNat + 1))) ∧ Below w.heap.size w w' := by
  have tg : Hid (∀ W, Below w.heap.size w W → Calls Try.prog 76 #[.pointer p] W fun e w' => e = .returned (.int .u64 (t.tag.toNat : Int)) ∧ Below W.heap.size W w') := fun W h => TreeAt.tag hN (ht.after hN h)
  have cL := Lib.hid (fun W (h : Below w.heap.size w W) => TreeAt.leftT hN (ht.after hN h))
  have cR := Lib.hid (fun W (h : Below w.heap.size w W) => TreeAt.rightT hN (ht.after hN h))
  have cT := Lib.hid (fun W q q' (h1 : TreeAt Nd W W.heap.size (Tr.lt t) q) (h2 : TreeAt Nd W W.heap.size (Tr.rt t) q') => tagOver_any hN W (Tr.lt t) (Tr.rt t) q q' h1 h2)
  have hw := well14 t.tag.toNat (max (Tr.lt t).tag.toNat (Tr.rt t).tag.toNat) t.tag.isLt (by have h1 := (Tr.lt t).tag.isLt; have h2 := (Tr.rt t).tag.isLt; omega)
  obtain ⟨m, hm⟩ : ∃ z, max (Tr.lt t).tag.toNat (Tr.rt t).tag.toNat = z := ⟨_, rfl⟩
  rw [hm] at cT hw ⊢
  obtain ⟨g, hg⟩ : ∃ z, t.tag.toNat = z := ⟨_, rfl⟩
  rw [hg] at tg hw ⊢
  obtain ⟨b, hb⟩ : ∃ b, decide (g = m + 1) = b := ⟨_, rfl⟩
  obtain ⟨z, hz⟩ : ∃ z, (m + 1) % 18446744073709551616 = z := ⟨_, rfl⟩
  rw [hz] at cT hw
  rw [hb]
  have hN' := Lib.hid hN
  by_cases h0 : g = 0
  · have e0 : ((g : Int) != 0) = false := by rw [h0]; rfl
    obtain rfl : b = false := by rw [← hb]; exact decide_eq_false (by omega)
    clear hb hw hm hg hz cL cR cT h0
    go_enter Try.func104, Try.ntmps104
    go_wp2_with fail
    refine (tg.out w (.refl _ _)).mono ?_
    rintro e w1 ⟨rfl, hb⟩
    have b1 := Lib.hid hb
    clear hb tg
    go_wp2
    go_ret
    exact ⟨rfl, b1.out⟩
  · have e0 : ((g : Int) != 0) = true := by rw [bne_iff_ne]; omega
    have e1 : ((g : Int) == (z : Int)) = b := by
      rw [← hb, ← decide_eq_decide.2 (Iff.of_eq (hw h0))]
      by_cases h : g = z
      · subst h; simp
      · rw [decide_eq_false h, beq_eq_false_iff_ne]; omega
    clear hb hw hm hg hz h0 ht hN
    go_enter Try.func104, Try.ntmps104
    go_wp2_with fail
    refine (tg.out w (.refl _ _)).mono ?_
    rintro e w1 ⟨rfl, hb⟩
    have b1 := Lib.hid hb
    clear hb
    go_wp2_with fail
    refine (tg.out w1 b1.out).mono ?_
    rintro e w2 ⟨rfl, hb⟩
    have b2 := Lib.hid (Below.after b1.out hb)
    clear hb tg b1
    go_wp2_with fail
    refine (cL.out w2 b2.out).mono ?_
    rintro e w3 ⟨q, rfl, hL, hb⟩
    have b3 := Lib.hid (Below.after b2.out hb)
    have L3 := Lib.hid hL
    clear hb hL cL b2
    go_wp2_with fail
    refine (cR.out w3 b3.out).mono ?_
    rintro e w4 ⟨q', rfl, hR, hb⟩
    have b4 := Lib.hid (Below.after b3.out hb)
    have L4 := Lib.hid (L3.out.after hN'.out hb)
    have R4 := Lib.hid hR
    clear hb hR cR b3 L3
    go_wp2_with fail
    refine (cT.out w4 _ _ L4.out R4.out).mono ?_
    rintro e w5 ⟨rfl, hb⟩
    have b5 := Lib.hid (Below.after b4.out hb)
    clear hb cT b4 L4 R4
    go_wp2
    go_ret
    exact ⟨rfl, b5.out⟩
set_option maxHeartbeats 4000000 in
/-- whether the tag is another one than it ought to be -/
theorem missTag_any (hN : NodeSays Nd) (w : World) (t : Tr) (p : Option Addr) (ht : TreeAt Nd w w.heap.size t p) : Calls Try.prog 103 #[.pointer p] w fun e w' => e = .returned (.bool (decide (t.tag.toNat ≠ max (Tr.lt t).tag.toNat (Tr.rt t).tag.toNat + 1))) ∧ Below w.heap.size w w' := by
  have c1 := Lib.hid (well_any hN w t p ht)
  obtain ⟨b, hb⟩ : ∃ b, decide (t.tag.toNat = max (Tr.lt t).tag.toNat (Tr.rt t).tag.toNat + 1) = b := ⟨_, rfl⟩
  have e1 : decide (t.tag.toNat ≠ max (Tr.lt t).tag.toNat (Tr.rt t).tag.toNat + 1) = !b := by rw [← hb, decide_not]
  rw [e1]
  rw [hb] at c1
  clear e1 hb ht hN
  go_enter Try.func103, Try.ntmps103
  go_wp2_with fail
  refine c1.out.mono ?_
  rintro e w1 ⟨rfl, hb⟩
  have b1 := Lib.hid hb
  clear hb c1
  go_wp2
  go_ret
  exact ⟨rfl, b1.out⟩
set_option maxHeartbeats 4000000 in
/-- whether the sides' tags are too far from each other -/
theorem missGap_any (hN : NodeSays Nd) (w : World) (t : Tr) (p : Option Addr) (ht : TreeAt Nd w w.heap.size t p) : Calls Try.prog 105 #[.pointer p] w fun e w' => e = .returned (.bool (decide (1 < max (Tr.lt t).tag.toNat (Tr.rt t).tag.toNat - min (Tr.lt t).tag.toNat (Tr.rt t).tag.toNat))) ∧ Below w.heap.size w w' := by
  have cL := Lib.hid (TreeAt.leftT hN ht)
  have cR := Lib.hid (fun W (h : Below w.heap.size w W) => TreeAt.rightT hN (ht.after hN h))
  have tl : Hid (∀ W q, TreeAt Nd W W.heap.size (Tr.lt t) q → Calls Try.prog 76 #[.pointer q] W fun e w' => e = .returned (.int .u64 ((Tr.lt t).tag.toNat : Int)) ∧ Below W.heap.size W w') := fun W q h => TreeAt.tag hN h
  have tr : Hid (∀ W q, TreeAt Nd W W.heap.size (Tr.rt t) q → Calls Try.prog 76 #[.pointer q] W fun e w' => e = .returned (.int .u64 ((Tr.rt t).tag.toNat : Int)) ∧ Below W.heap.size W w') := fun W q h => TreeAt.tag hN h
  have cG := Lib.hid (fun W => gap_any W (Tr.lt t).tag.toNat (Tr.rt t).tag.toNat (Tr.lt t).tag.isLt (Tr.rt t).tag.isLt)
  obtain ⟨l, hl⟩ : ∃ l, Tr.lt t = l := ⟨_, rfl⟩
  obtain ⟨r, hr⟩ : ∃ l, Tr.rt t = l := ⟨_, rfl⟩
  rw [hl] at cL tl
  rw [hr] at cR tr
  rw [hl, hr] at cG ⊢
  obtain ⟨P, hP⟩ : ∃ P, l.tag.toNat = P := ⟨_, rfl⟩
  obtain ⟨Q, hQ⟩ : ∃ Q, r.tag.toNat = Q := ⟨_, rfl⟩
  rw [hP] at tl
  rw [hQ] at tr
  rw [hP, hQ] at cG ⊢
  obtain ⟨z, hz⟩ : ∃ z, max P Q - min P Q = z := ⟨_, rfl⟩
  rw [hz] at cG ⊢
  obtain ⟨b, hb⟩ : ∃ b, decide (1 < z) = b := ⟨_, rfl⟩
  rw [hb]
  have e1 : decide ((1 : Int) < (z : Int)) = b := by
    rw [← hb]
    exact decide_eq_decide.2 (by omega)
  have hN' := Lib.hid hN
  clear hz hl hr hP hQ ht hN
  go_enter Try.func105, Try.ntmps105
  go_wp2_with fail
  refine cL.out.mono ?_
  rintro e w1 ⟨q, rfl, hL, hbb⟩
  have b1 := Lib.hid hbb
  have L1 := Lib.hid hL
  clear hbb hL cL
  go_wp2_with fail
  refine (tl.out w1 _ L1.out).mono ?_
  rintro e w2 ⟨rfl, hbb⟩
  have b2 := Lib.hid (Below.after b1.out hbb)
  clear hbb L1 b1
  go_wp2_with fail
  refine (cR.out w2 b2.out).mono ?_
  rintro e w3 ⟨q', rfl, hR, hbb⟩
  have b3 := Lib.hid (Below.after b2.out hbb)
  have R3 := Lib.hid hR
  clear hbb hR cR b2
  go_wp2_with fail
  refine (tr.out w3 _ R3.out).mono ?_
  rintro e w4 ⟨rfl, hbb⟩
  have b4 := Lib.hid (Below.after b3.out hbb)
  clear hbb R3 b3
  go_wp2_with fail
  refine (cG.out w4).mono ?_
  rintro e w5 ⟨rfl, rfl⟩
  go_wp2
  go_ret
  exact ⟨by simp, b4.out⟩
set_option maxHeartbeats 4000000 in
theorem avlMake_any (hN : NodeSays Nd) (w : World) (L R : AT) (k v : BitVec 64) (hl : Stand Nd w L) (hr : Stand Nd w R) : Calls Try.prog 43 #[.pointer L.ptr, K k, K v, .pointer R.ptr] w (Made13 Nd L R k v (tagA L.tr R.tr) w) := by
  have t1 : Hid (Calls Try.prog 84 #[.pointer L.ptr, .pointer R.ptr] w fun e w' => e = .returned (.int .u64 ((tagA L.tr R.tr).toNat : Int)) ∧ Below w.heap.size w w') := by
    have := tagOver_any hN w L.tr R.tr L.ptr R.ptr hl.tree hr.tree
    rw [show (max L.tr.tag.toNat R.tr.tag.toNat + 1) % 18446744073709551616 = (tagA L.tr R.tr).toNat from by rw [tagA, BitVec.toNat_ofNat]] at this
    exact this
  have cN : Hid (∀ W, Stand Nd W L → Stand Nd W R → Calls Try.prog 74 #[.pointer L.ptr, K k, K v, .int .u64 ((tagA L.tr R.tr).toNat : Int), .pointer R.ptr] W (Made13 Nd L R k v (tagA L.tr R.tr) W)) := fun W h1 h2 => new13 hN W L R k v (tagA L.tr R.tr) h1 h2
  obtain ⟨G, hG⟩ : ∃ G, tagA L.tr R.tr = G := ⟨_, rfl⟩
  rw [hG] at cN t1 ⊢
  obtain ⟨z, hz⟩ : ∃ z, (G.toNat : Int) = z := ⟨_, rfl⟩
  rw [hz] at cN t1
  have L0 := Lib.hid hl
  have R0 := Lib.hid hr
  have hN' := Lib.hid hN
  obtain ⟨pl, hpl⟩ : ∃ p, L.ptr = p := ⟨_, rfl⟩
  obtain ⟨pr, hpr⟩ : ∃ p, R.ptr = p := ⟨_, rfl⟩
  rw [hpl, hpr] at t1 cN
  rw [hpl, hpr]
  clear hG hz hl hr hN hpl hpr
  go_enter Try.func43, Try.ntmps43
  go_wp2_with fail
  refine t1.out.mono ?_
  rintro e w1 ⟨rfl, hb⟩
  have b1 := Lib.hid hb
  have L1 := Lib.hid (L0.out.after hN'.out hb)
  have R1 := Lib.hid (R0.out.after hN'.out hb)
  clear hb L0 R0 t1
  go_wp2_with fail
  refine (cN.out w1 L1.out R1.out).mono ?_
  rintro e w3 ⟨a, x, rfl, hx, hs, ha, hb⟩
  have B3 := Lib.hid (Below.after b1.out hb)
  have HX := Lib.hid hx
  have HS := Lib.hid hs
  have HA := Lib.hid (Nat.le_trans b1.out.size ha)
  clear hb hx hs ha
  go_wp2
  go_ret
  exact ⟨a, x, rfl, HX.out, HS.out, HA.out, B3.out⟩
theorem avlRank_any (hN : NodeSays Nd) (w : World) (t : Tr) (p : Option Addr) (h : TreeAt Nd w w.heap.size t p) : Calls Try.prog 41 #[.pointer p] w fun e w' => e = .returned (K t.tag) ∧ Below w.heap.size w w' := by
  have t1 : Hid (Calls Try.prog 76 #[.pointer p] w fun e w' => e = .returned (.int .u64 (t.tag.toNat : Int)) ∧ Below w.heap.size w w') := TreeAt.tag hN h
  have e1 := i_of_u t.tag
  obtain ⟨z, hz⟩ : ∃ z, (t.tag.toNat : Int) = z := ⟨_, rfl⟩
  obtain ⟨y, hy⟩ : ∃ z, t.tag.toInt = z := ⟨_, rfl⟩
  rw [hz] at t1 e1
  show Calls _ _ _ _ fun e w' => e = .returned (.int .i64 t.tag.toInt) ∧ _
  rw [hy] at e1 ⊢
  clear hN h hz hy
  go_enter Try.func41, Try.ntmps41
  go_wp2_with fail
  refine t1.out.mono ?_
  rintro e w1 ⟨rfl, hb⟩
  have b1 := Lib.hid hb
  clear hb t1
  go_wp2
  go_ret
  exact ⟨rfl, b1.out⟩
theorem lean_is (t : Tr) : leanA t = (Tr.rt t).tag - (Tr.lt t).tag := by
  cases t with
  | e => rfl
  | n l k v g r => rfl
set_option maxHeartbeats 4000000 in
theorem avlLean_any (hN : NodeSays Nd) (w : World) (t : Tr) (p : Option Addr) (h : TreeAt Nd w w.heap.size t p) : Calls Try.prog 42 #[.pointer p] w fun e w' => e = .returned (K (leanA t)) ∧ Below w.heap.size w w' := by
  rw [lean_is]
  have cR := Lib.hid (TreeAt.rightT hN h)
  have cL := Lib.hid (fun W (h : TreeAt Nd W W.heap.size t p) => TreeAt.leftT hN h)
  have tg : Hid (∀ W t p, TreeAt Nd W W.heap.size t p → Calls Try.prog 76 #[.pointer p] W fun e w' => e = .returned (.int .u64 (t.tag.toNat : Int)) ∧ Below W.heap.size W w') := fun W t p h => TreeAt.tag hN h
  have e1 := u_sub (Tr.rt t).tag (Tr.lt t).tag
  have e2 := i_of_u ((Tr.rt t).tag - (Tr.lt t).tag)
  show Calls _ _ _ _ fun e w' => e = .returned (.int .i64 ((Tr.rt t).tag - (Tr.lt t).tag).toInt) ∧ _
  obtain ⟨l, hl⟩ : ∃ l, Tr.lt t = l := ⟨_, rfl⟩
  obtain ⟨r, hr⟩ : ∃ l, Tr.rt t = l := ⟨_, rfl⟩
  rw [hl, hr] at e1 e2 ⊢
  rw [hl] at cL
  rw [hr] at cR
  obtain ⟨Z, hZ⟩ : ∃ Z, (r.tag - l.tag).toInt = Z := ⟨_, rfl⟩
  obtain ⟨U, hU⟩ : ∃ Z, ((r.tag - l.tag).toNat : Int) = Z := ⟨_, rfl⟩
  obtain ⟨P, hP⟩ : ∃ Z, (l.tag.toNat : Int) = Z := ⟨_, rfl⟩
  obtain ⟨Q, hQ⟩ : ∃ Z, (r.tag.toNat : Int) = Z := ⟨_, rfl⟩
  rw [hZ] at e2 ⊢
  rw [hU] at e1 e2
  rw [hP, hQ] at e1
  have tl : Hid (∀ W p, TreeAt Nd W W.heap.size l p → Calls Try.prog 76 #[.pointer p] W fun e w' => e = .returned (.int .u64 P) ∧ Below W.heap.size W w') := fun W p h => hP ▸ tg.out W l p h
  have tr : Hid (∀ W p, TreeAt Nd W W.heap.size r p → Calls Try.prog 76 #[.pointer p] W fun e w' => e = .returned (.int .u64 Q) ∧ Below W.heap.size W w') := fun W p h => hQ ▸ tg.out W r p h
  have H0 := Lib.hid h
  have hN' := Lib.hid hN
  clear tg hl hr hZ hU hP hQ h hN
  go_enter Try.func42, Try.ntmps42
  go_wp2_with fail
  refine cR.out.mono ?_
  rintro e w1 ⟨q, rfl, hR, hb⟩
  have b1 := Lib.hid hb
  have H1 := Lib.hid (H0.out.after hN'.out hb)
  have R1 := Lib.hid hR
  clear hb hR H0 cR
  go_wp2_with fail
  refine (tr.out w1 _ R1.out).mono ?_
  rintro e w2 ⟨rfl, hb⟩
  have b2 := Lib.hid (Below.after b1.out hb)
  have H2 := Lib.hid (H1.out.after hN'.out hb)
  clear hb H1 R1 b1
  go_wp2_with fail
  refine (cL.out w2 H2.out).mono ?_
  rintro e w3 ⟨q', rfl, hL, hb⟩
  have b3 := Lib.hid (Below.after b2.out hb)
  have L3 := Lib.hid hL
  clear hb hL H2 b2 cL
  go_wp2_with fail
  refine (tl.out w3 _ L3.out).mono ?_
  rintro e w4 ⟨rfl, hb⟩
  have b4 := Lib.hid (Below.after b3.out hb)
  clear hb L3 b3
  go_wp2
  go_ret
  exact ⟨rfl, b4.out⟩
end Go.Proofs.Ytifhnaelkjfmdaa
