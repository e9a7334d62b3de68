/- Layer 15, as landed: AVL trees on the way inward, and what may stand in their places. -/
import Derived.Test.YtifhnaelkjfmdaaJA
import Derived.Test.YtifhnaelkjfmdaaGMap
import Derived.Test.YtifhnaelkjfmdaaGHeld
import Derived.Shelf.Abstract
import Derived.Laws.EntriesVeiled
import Derived.Deep.RegionHeld3
import Derived.Deep.Cut
import Derived.IntWalk
/- Package avl, as landed: tagOver, isWellTagged, gap, the two closures of wants, Make, Rank, Lean. -/
namespace Go.Proofs.Ytifhnaelkjfmdaa
open Go.RowKit Go.Proofs.Treem
set_option maxRecDepth 100000
variable {Nd : NdP}

theorem up14 (m : Nat) : IntKind.u64.wrap ((m : Int) + 1) = (((m + 1) % 18446744073709551616 : Nat) : Int) := by
  rw [IntKind.wrap_u64]
  omega
set_option maxHeartbeats 4000000 in
theorem tagOver_any (hN : NodeSays Nd) (w : World) (l r : Tr) (pl pr : Option Addr) (hl : TreeAt Nd w w.heap.size l pl) (hr : TreeAt Nd w w.heap.size r pr) : Calls Try.prog 84 #[.pointer pl, .pointer pr] w fun e w' => e = .returned (.int .u64 (((max l.tag.toNat r.tag.toNat + 1) % 18446744073709551616 : Nat) : Int)) ∧ Below w.heap.size w w' := by
  have t1 : Hid (Calls Try.prog 76 #[.pointer pl] w fun e w' => e = .returned (.int .u64 (l.tag.toNat : Int)) ∧ Below w.heap.size w w') := TreeAt.tag hN hl
  have t2 : Hid (∀ W, Below w.heap.size w W → Calls Try.prog 76 #[.pointer pr] W fun e w' => e = .returned (.int .u64 (r.tag.toNat : Int)) ∧ Below W.heap.size W w') := fun W h => TreeAt.tag hN (hr.after hN h)
  obtain ⟨P, hP⟩ : ∃ P, l.tag.toNat = P := ⟨_, rfl⟩
  obtain ⟨Q, hQ⟩ : ∃ Q, r.tag.toNat = Q := ⟨_, rfl⟩
  rw [hP] at t1 ⊢
  rw [hQ] at t2 ⊢
  have up1 := up14 P
  have up2 := up14 Q
  obtain ⟨G, hG⟩ : ∃ z : Int, (((max P Q + 1) % 18446744073709551616 : Nat) : Int) = z := ⟨_, rfl⟩
  rw [hG]
  clear hP hQ hl hr hN
  rcases Nat.lt_or_ge P Q with hPQ | hPQ
  · rw [Nat.max_eq_right (Nat.le_of_lt hPQ)] at hG
    rw [hG] at up2
    clear up1 hG
    go_enter Try.func84, Try.ntmps84
    go_wp2_with fail
    refine t1.out.mono ?_
    rintro e w1 ⟨rfl, hb⟩
    have b1 := Lib.hid hb
    clear hb t1
    go_wp2_with fail
    refine (t2.out w1 b1.out).mono ?_
    rintro e w2 ⟨rfl, hb⟩
    have b2 := Lib.hid (Below.after b1.out hb)
    clear hb t2 b1
    go_wp2
    all_goals first
      | (exfalso; omega)
      | (go_ret; exact ⟨rfl, b2.out⟩)
  · rw [Nat.max_eq_left hPQ] at hG
    rw [hG] at up1
    clear up2 hG
    go_enter Try.func84, Try.ntmps84
    go_wp2_with fail
    refine t1.out.mono ?_
    rintro e w1 ⟨rfl, hb⟩
    have b1 := Lib.hid hb
    clear hb t1
    go_wp2_with fail
    refine (t2.out w1 b1.out).mono ?_
    rintro e w2 ⟨rfl, hb⟩
    have b2 := Lib.hid (Below.after b1.out hb)
    clear hb t2 b1
    go_wp2
    all_goals first
      | (exfalso; omega)
      | (go_ret; exact ⟨rfl, b2.out⟩)
set_option maxHeartbeats 4000000 in
theorem gap_any (w : World) (P Q : Nat) (hP : P < 18446744073709551616) (hQ : Q < 18446744073709551616) : Calls Try.prog 106 #[.int .u64 (P : Int), .int .u64 (Q : Int)] w fun e w' => e = .returned (.int .u64 ((max P Q - min P Q : Nat) : Int)) ∧ w = w' := by
  obtain ⟨G, hG⟩ : ∃ z : Int, ((max P Q - min P Q : Nat) : Int) = z := ⟨_, rfl⟩
  rw [hG]
  rcases Nat.lt_or_ge P Q with hPQ | hPQ
  · rw [Nat.max_eq_right (Nat.le_of_lt hPQ), Nat.min_eq_left (Nat.le_of_lt hPQ)] at hG
    have e1 : IntKind.u64.wrap ((Q : Int) - (P : Int)) = G := by rw [← hG, IntKind.wrap_u64]; omega
    clear hG hP hQ
    go_enter Try.func106, Try.ntmps106
    go_wp2
    all_goals first
      | (exfalso; omega)
      | (go_ret; exact ⟨rfl, rfl⟩)
  · rw [Nat.max_eq_left hPQ, Nat.min_eq_right hPQ] at hG
    have e1 : IntKind.u64.wrap ((P : Int) - (Q : Int)) = G := by rw [← hG, IntKind.wrap_u64]; omega
    rcases Nat.lt_or_eq_of_le hPQ with hlt | rfl
    · clear hG hP hQ hPQ
      go_enter Try.func106, Try.ntmps106
      go_wp2
      all_goals first
        | (exfalso; omega)
        | (go_ret; exact ⟨rfl, rfl⟩)
    · obtain rfl : G = 0 := by omega
      clear hG hP hQ hPQ e1
      go_enter Try.func106, Try.ntmps106
      go_wp2
      all_goals first
        | (exfalso; omega)
        | (go_ret; exact ⟨rfl, rfl⟩)
theorem well14 (g m : Nat) (hg : g < 18446744073709551616) (hm : m < 18446744073709551616) (h0 : g ≠ 0) : (g = (m + 1) % 18446744073709551616) = (g = m + 1) := by
  apply propext
  omega
set_option maxHeartbeats 4000000 in
/-- whether the tag is one more than the greater one of the sides' -/
theorem well_any (hN : NodeSays Nd) (w : World) (t : Tr) (p : Option Addr) (ht : TreeAt Nd w w.heap.size t p) : Calls Try.prog 104 #[.pointer p] w fun e w' => e = .returned (.bool (decide (t.tag.toNat = max (Tr.lt t).tag.toNat (Tr.rt t).tag.toNat + 1))) ∧ Below w.heap.size w w' := by
  have tg : Hid (∀ W, Below w.heap.size w W → Calls Try.prog 76 #[.pointer p] W fun e w' => e = .returned (.int .u64 (t.tag.toNat : Int)) ∧ Below W.heap.size W w') := fun W h => TreeAt.tag hN (ht.after hN h)
  have cL := Lib.hid (fun W (h : Below w.heap.size w W) => TreeAt.leftT hN (ht.after hN h))
  have cR := Lib.hid (fun W (h : Below w.heap.size w W) => TreeAt.rightT hN (ht.after hN h))
  have cT := Lib.hid (fun W q q' (h1 : TreeAt Nd W W.heap.size (Tr.lt t) q) (h2 : TreeAt Nd W W.heap.size (Tr.rt t) q') => tagOver_any hN W (Tr.lt t) (Tr.rt t) q q' h1 h2)
  have hw := well14 t.tag.toNat (max (Tr.lt t).tag.toNat (Tr.rt t).tag.toNat) t.tag.isLt (by have h1 := (Tr.lt t).tag.isLt; have h2 := (Tr.rt t).tag.isLt; omega)
  obtain ⟨m, hm⟩ : ∃ z, max (Tr.lt t).tag.toNat (Tr.rt t).tag.toNat = z := ⟨_, rfl⟩
  rw [hm] at cT hw ⊢
  obtain ⟨g, hg⟩ : ∃ z, t.tag.toNat = z := ⟨_, rfl⟩
  rw [hg] at tg hw ⊢
  obtain ⟨b, hb⟩ : ∃ b, decide (g = m + 1) = b := ⟨_, rfl⟩
  obtain ⟨z, hz⟩ : ∃ z, (m + 1) % 18446744073709551616 = z := ⟨_, rfl⟩
  rw [hz] at cT hw
  rw [hb]
  have hN' := Lib.hid hN
  by_cases h0 : g = 0
  · have e0 : ((g : Int) != 0) = false := by rw [h0]; rfl
    obtain rfl : b = false := by rw [← hb]; exact decide_eq_false (by omega)
    clear hb hw hm hg hz cL cR cT h0
    go_enter Try.func104, Try.ntmps104
    go_wp2_with fail
    refine (tg.out w (.refl _ _)).mono ?_
    rintro e w1 ⟨rfl, hb⟩
    have b1 := Lib.hid hb
    clear hb tg
    go_wp2
    go_ret
    exact ⟨rfl, b1.out⟩
  · have e0 : ((g : Int) != 0) = true := by rw [bne_iff_ne]; omega
    have e1 : ((g : Int) == (z : Int)) = b := by
      rw [← hb, ← decide_eq_decide.2 (Iff.of_eq (hw h0))]
      by_cases h : g = z
      · subst h; simp
      · rw [decide_eq_false h, beq_eq_false_iff_ne]; omega
    clear hb hw hm hg hz h0 ht hN
    go_enter Try.func104, Try.ntmps104
    go_wp2_with fail
    refine (tg.out w (.refl _ _)).mono ?_
    rintro e w1 ⟨rfl, hb⟩
    have b1 := Lib.hid hb
    clear hb
    go_wp2_with fail
    refine (tg.out w1 b1.out).mono ?_
    rintro e w2 ⟨rfl, hb⟩
    have b2 := Lib.hid (Below.after b1.out hb)
    clear hb tg b1
    go_wp2_with fail
    refine (cL.out w2 b2.out).mono ?_
    rintro e w3 ⟨q, rfl, hL, hb⟩
    have b3 := Lib.hid (Below.after b2.out hb)
    have L3 := Lib.hid hL
    clear hb hL cL b2
    go_wp2_with fail
    refine (cR.out w3 b3.out).mono ?_
    rintro e w4 ⟨q', rfl, hR, hb⟩
    have b4 := Lib.hid (Below.after b3.out hb)
    have L4 := Lib.hid (L3.out.after hN'.out hb)
    have R4 := Lib.hid hR
    clear hb hR cR b3 L3
    go_wp2_with fail
    refine (cT.out w4 _ _ L4.out R4.out).mono ?_
    rintro e w5 ⟨rfl, hb⟩
    have b5 := Lib.hid (Below.after b4.out hb)
    clear hb cT b4 L4 R4
    go_wp2
    go_ret
    exact ⟨rfl, b5.out⟩
set_option maxHeartbeats 4000000 in
/-- whether the tag is another one than it ought to be -/
theorem missTag_any (hN : NodeSays Nd) (w : World) (t : Tr) (p : Option Addr) (ht : TreeAt Nd w w.heap.size t p) : Calls Try.prog 103 #[.pointer p] w fun e w' => e = .returned (.bool (decide (t.tag.toNat ≠ max (Tr.lt t).tag.toNat (Tr.rt t).tag.toNat + 1))) ∧ Below w.heap.size w w' := by
  have c1 := Lib.hid (well_any hN w t p ht)
  obtain ⟨b, hb⟩ : ∃ b, decide (t.tag.toNat = max (Tr.lt t).tag.toNat (Tr.rt t).tag.toNat + 1) = b := ⟨_, rfl⟩
  have e1 : decide (t.tag.toNat ≠ max (Tr.lt t).tag.toNat (Tr.rt t).tag.toNat + 1) = !b := by rw [← hb, decide_not]
  rw [e1]
  rw [hb] at c1
  clear e1 hb ht hN
  go_enter Try.func103, Try.ntmps103
  go_wp2_with fail
  refine c1.out.mono ?_
  rintro e w1 ⟨rfl, hb⟩
  have b1 := Lib.hid hb
  clear hb c1
  go_wp2
  go_ret
  exact ⟨rfl, b1.out⟩
set_option maxHeartbeats 4000000 in
/-- whether the sides' tags are too far from each other -/
theorem missGap_any (hN : NodeSays Nd) (w : World) (t : Tr) (p : Option Addr) (ht : TreeAt Nd w w.heap.size t p) : Calls Try.prog 105 #[.pointer p] w fun e w' => e = .returned (.bool (decide (1 < max (Tr.lt t).tag.toNat (Tr.rt t).tag.toNat - min (Tr.lt t).tag.toNat (Tr.rt t).tag.toNat))) ∧ Below w.heap.size w w' := by
  have cL := Lib.hid (TreeAt.leftT hN ht)
  have cR := Lib.hid (fun W (h : Below w.heap.size w W) => TreeAt.rightT hN (ht.after hN h))
  have tl : Hid (∀ W q, TreeAt Nd W W.heap.size (Tr.lt t) q → Calls Try.prog 76 #[.pointer q] W fun e w' => e = .returned (.int .u64 ((Tr.lt t).tag.toNat : Int)) ∧ Below W.heap.size W w') := fun W q h => TreeAt.tag hN h
  have tr : Hid (∀ W q, TreeAt Nd W W.heap.size (Tr.rt t) q → Calls Try.prog 76 #[.pointer q] W fun e w' => e = .returned (.int .u64 ((Tr.rt t).tag.toNat : Int)) ∧ Below W.heap.size W w') := fun W q h => TreeAt.tag hN h
  have cG := Lib.hid (fun W => gap_any W (Tr.lt t).tag.toNat (Tr.rt t).tag.toNat (Tr.lt t).tag.isLt (Tr.rt t).tag.isLt)
  obtain ⟨l, hl⟩ : ∃ l, Tr.lt t = l := ⟨_, rfl⟩
  obtain ⟨r, hr⟩ : ∃ l, Tr.rt t = l := ⟨_, rfl⟩
  rw [hl] at cL tl
  rw [hr] at cR tr
  rw [hl, hr] at cG ⊢
  obtain ⟨P, hP⟩ : ∃ P, l.tag.toNat = P := ⟨_, rfl⟩
  obtain ⟨Q, hQ⟩ : ∃ Q, r.tag.toNat = Q := ⟨_, rfl⟩
  rw [hP] at tl
  rw [hQ] at tr
  rw [hP, hQ] at cG ⊢
  obtain ⟨z, hz⟩ : ∃ z, max P Q - min P Q = z := ⟨_, rfl⟩
  rw [hz] at cG ⊢
  obtain ⟨b, hb⟩ : ∃ b, decide (1 < z) = b := ⟨_, rfl⟩
  rw [hb]
  have e1 : decide ((1 : Int) < (z : Int)) = b := by
    rw [← hb]
    exact decide_eq_decide.2 (by omega)
  have hN' := Lib.hid hN
  clear hz hl hr hP hQ ht hN
  go_enter Try.func105, Try.ntmps105
  go_wp2_with fail
  refine cL.out.mono ?_
  rintro e w1 ⟨q, rfl, hL, hbb⟩
  have b1 := Lib.hid hbb
  have L1 := Lib.hid hL
  clear hbb hL cL
  go_wp2_with fail
  refine (tl.out w1 _ L1.out).mono ?_
  rintro e w2 ⟨rfl, hbb⟩
  have b2 := Lib.hid (Below.after b1.out hbb)
  clear hbb L1 b1
  go_wp2_with fail
  refine (cR.out w2 b2.out).mono ?_
  rintro e w3 ⟨q', rfl, hR, hbb⟩
  have b3 := Lib.hid (Below.after b2.out hbb)
  have R3 := Lib.hid hR
  clear hbb hR cR b2
  go_wp2_with fail
  refine (tr.out w3 _ R3.out).mono ?_
  rintro e w4 ⟨rfl, hbb⟩
  have b4 := Lib.hid (Below.after b3.out hbb)
  clear hbb R3 b3
  go_wp2_with fail
  refine (cG.out w4).mono ?_
  rintro e w5 ⟨rfl, rfl⟩
  go_wp2
  go_ret
  exact ⟨by simp, b4.out⟩
set_option maxHeartbeats 4000000 in
theorem avlMake_any (hN : NodeSays Nd) (w : World) (L R : AT) (k v : BitVec 64) (hl : Stand Nd w L) (hr : Stand Nd w R) : Calls Try.prog 43 #[.pointer L.ptr, K k, K v, .pointer R.ptr] w (Made13 Nd L R k v (tagA L.tr R.tr) w) := by
  have t1 : Hid (Calls Try.prog 84 #[.pointer L.ptr, .pointer R.ptr] w fun e w' => e = .returned (.int .u64 ((tagA L.tr R.tr).toNat : Int)) ∧ Below w.heap.size w w') := by
    have := tagOver_any hN w L.tr R.tr L.ptr R.ptr hl.tree hr.tree
    rw [show (max L.tr.tag.toNat R.tr.tag.toNat + 1) % 18446744073709551616 = (tagA L.tr R.tr).toNat from by rw [tagA, BitVec.toNat_ofNat]] at this
    exact this
  have cN : Hid (∀ W, Stand Nd W L → Stand Nd W R → Calls Try.prog 74 #[.pointer L.ptr, K k, K v, .int .u64 ((tagA L.tr R.tr).toNat : Int), .pointer R.ptr] W (Made13 Nd L R k v (tagA L.tr R.tr) W)) := fun W h1 h2 => new13 hN W L R k v (tagA L.tr R.tr) h1 h2
  obtain ⟨G, hG⟩ : ∃ G, tagA L.tr R.tr = G := ⟨_, rfl⟩
  rw [hG] at cN t1 ⊢
  obtain ⟨z, hz⟩ : ∃ z, (G.toNat : Int) = z := ⟨_, rfl⟩
  rw [hz] at cN t1
  have L0 := Lib.hid hl
  have R0 := Lib.hid hr
  have hN' := Lib.hid hN
  obtain ⟨pl, hpl⟩ : ∃ p, L.ptr = p := ⟨_, rfl⟩
  obtain ⟨pr, hpr⟩ : ∃ p, R.ptr = p := ⟨_, rfl⟩
  rw [hpl, hpr] at t1 cN
  rw [hpl, hpr]
  clear hG hz hl hr hN hpl hpr
  go_enter Try.func43, Try.ntmps43
  go_wp2_with fail
  refine t1.out.mono ?_
  rintro e w1 ⟨rfl, hb⟩
  have b1 := Lib.hid hb
  have L1 := Lib.hid (L0.out.after hN'.out hb)
  have R1 := Lib.hid (R0.out.after hN'.out hb)
  clear hb L0 R0 t1
  go_wp2_with fail
  refine (cN.out w1 L1.out R1.out).mono ?_
  rintro e w3 ⟨a, x, rfl, hx, hs, ha, hb⟩
  have B3 := Lib.hid (Below.after b1.out hb)
  have HX := Lib.hid hx
  have HS := Lib.hid hs
  have HA := Lib.hid (Nat.le_trans b1.out.size ha)
  clear hb hx hs ha
  go_wp2
  go_ret
  exact ⟨a, x, rfl, HX.out, HS.out, HA.out, B3.out⟩
theorem avlRank_any (hN : NodeSays Nd) (w : World) (t : Tr) (p : Option Addr) (h : TreeAt Nd w w.heap.size t p) : Calls Try.prog 41 #[.pointer p] w fun e w' => e = .returned (K t.tag) ∧ Below w.heap.size w w' := by
  have t1 : Hid (Calls Try.prog 76 #[.pointer p] w fun e w' => e = .returned (.int .u64 (t.tag.toNat : Int)) ∧ Below w.heap.size w w') := TreeAt.tag hN h
  have e1 := i_of_u t.tag
  obtain ⟨z, hz⟩ : ∃ z, (t.tag.toNat : Int) = z := ⟨_, rfl⟩
  obtain ⟨y, hy⟩ : ∃ z, t.tag.toInt = z := ⟨_, rfl⟩
  rw [hz] at t1 e1
  show Calls _ _ _ _ fun e w' => e = .returned (.int .i64 t.tag.toInt) ∧ _
  rw [hy] at e1 ⊢
  clear hN h hz hy
  go_enter Try.func41, Try.ntmps41
  go_wp2_with fail
  refine t1.out.mono ?_
  rintro e w1 ⟨rfl, hb⟩
  have b1 := Lib.hid hb
  clear hb t1
  go_wp2
  go_ret
  exact ⟨rfl, b1.out⟩
theorem lean_is (t : Tr) : leanA t = (Tr.rt t).tag - (Tr.lt t).tag := by
  cases t with
  | e => rfl
  | n l k v g r => rfl
set_option maxHeartbeats 4000000 in
theorem avlLean_any (hN : NodeSays Nd) (w : World) (t : Tr) (p : Option Addr) (h : TreeAt Nd w w.heap.size t p) : Calls Try.prog 42 #[.pointer p] w fun e w' => e = .returned (K (leanA t)) ∧ Below w.heap.size w w' := by
  rw [lean_is]
  have cR := Lib.hid (TreeAt.rightT hN h)
  have cL := Lib.hid (fun W (h : TreeAt Nd W W.heap.size t p) => TreeAt.leftT hN h)
  have tg : Hid (∀ W t p, TreeAt Nd W W.heap.size t p → Calls Try.prog 76 #[.pointer p] W fun e w' => e = .returned (.int .u64 (t.tag.toNat : Int)) ∧ Below W.heap.size W w') := fun W t p h => TreeAt.tag hN h
  have e1 := u_sub (Tr.rt t).tag (Tr.lt t).tag
  have e2 := i_of_u ((Tr.rt t).tag - (Tr.lt t).tag)
  show Calls _ _ _ _ fun e w' => e = .returned (.int .i64 ((Tr.rt t).tag - (Tr.lt t).tag).toInt) ∧ _
  obtain ⟨l, hl⟩ : ∃ l, Tr.lt t = l := ⟨_, rfl⟩
  obtain ⟨r, hr⟩ : ∃ l, Tr.rt t = l := ⟨_, rfl⟩
  rw [hl, hr] at e1 e2 ⊢
  rw [hl] at cL
  rw [hr] at cR
  obtain ⟨Z, hZ⟩ : ∃ Z, (r.tag - l.tag).toInt = Z := ⟨_, rfl⟩
  obtain ⟨U, hU⟩ : ∃ Z, ((r.tag - l.tag).toNat : Int) = Z := ⟨_, rfl⟩
  obtain ⟨P, hP⟩ : ∃ Z, (l.tag.toNat : Int) = Z := ⟨_, rfl⟩
  obtain ⟨Q, hQ⟩ : ∃ Z, (r.tag.toNat : Int) = Z := ⟨_, rfl⟩
  rw [hZ] at e2 ⊢
  rw [hU] at e1 e2
  rw [hP, hQ] at e1
  have tl : Hid (∀ W p, TreeAt Nd W W.heap.size l p → Calls Try.prog 76 #[.pointer p] W fun e w' => e = .returned (.int .u64 P) ∧ Below W.heap.size W w') := fun W p h => hP ▸ tg.out W l p h
  have tr : Hid (∀ W p, TreeAt Nd W W.heap.size r p → Calls Try.prog 76 #[.pointer p] W fun e w' => e = .returned (.int .u64 Q) ∧ Below W.heap.size W w') := fun W p h => hQ ▸ tg.out W r p h
  have H0 := Lib.hid h
  have hN' := Lib.hid hN
  clear tg hl hr hZ hU hP hQ h hN
  go_enter Try.func42, Try.ntmps42
  go_wp2_with fail
  refine cR.out.mono ?_
  rintro e w1 ⟨q, rfl, hR, hb⟩
  have b1 := Lib.hid hb
  have H1 := Lib.hid (H0.out.after hN'.out hb)
  have R1 := Lib.hid hR
  clear hb hR H0 cR
  go_wp2_with fail
  refine (tr.out w1 _ R1.out).mono ?_
  rintro e w2 ⟨rfl, hb⟩
  have b2 := Lib.hid (Below.after b1.out hb)
  have H2 := Lib.hid (H1.out.after hN'.out hb)
  clear hb H1 R1 b1
  go_wp2_with fail
  refine (cL.out w2 H2.out).mono ?_
  rintro e w3 ⟨q', rfl, hL, hb⟩
  have b3 := Lib.hid (Below.after b2.out hb)
  have L3 := Lib.hid hL
  clear hb hL H2 b2 cL
  go_wp2_with fail
  refine (tl.out w3 _ L3.out).mono ?_
  rintro e w4 ⟨rfl, hb⟩
  have b4 := Lib.hid (Below.after b3.out hb)
  clear hb L3 b3
  go_wp2
  go_ret
  exact ⟨rfl, b4.out⟩
end Go.Proofs.Ytifhnaelkjfmdaa
/- Package avljoin, as landed: excess, Most, the two structs of sides; a node of another inner side. Made by wip/gen/layer15join.py. -/
namespace Go.Proofs.Ytifhnaelkjfmdaa
open Go.RowKit Go.Shelf Go.Proofs.Treem Go.Proofs.Cardm
set_option maxRecDepth 100000
variable {Nd : NdP}

set_option maxHeartbeats 4000000 in
/-- by how much a tree is higher than another one -/
theorem excess_any (hN : NodeSays Nd) (w : World) (l r : Tr) (pl pr : Option Addr) (hl : TreeAt Nd w w.heap.size l pl) (hr : TreeAt Nd w w.heap.size r pr) : Calls Try.prog 87 #[.pointer pl, .pointer pr] w fun e w' => e = .returned (.int .u64 ((l.tag.toNat - r.tag.toNat : Nat) : Int)) ∧ Below w.heap.size w w' := by
  have t1 : Hid (Calls Try.prog 76 #[.pointer pl] w fun e w' => e = .returned (.int .u64 (l.tag.toNat : Int)) ∧ Below w.heap.size w w') := TreeAt.tag hN hl
  have t2 : Hid (∀ W, Below w.heap.size w W → Calls Try.prog 76 #[.pointer pr] W fun e w' => e = .returned (.int .u64 (r.tag.toNat : Int)) ∧ Below W.heap.size W w') := fun W h => TreeAt.tag hN (hr.after hN h)
  have hP9 := l.tag.isLt
  have hQ9 := r.tag.isLt
  obtain ⟨P, hP⟩ : ∃ P, l.tag.toNat = P := ⟨_, rfl⟩
  obtain ⟨Q, hQ⟩ : ∃ Q, r.tag.toNat = Q := ⟨_, rfl⟩
  rw [hP] at t1 hP9 ⊢
  rw [hQ] at t2 hQ9 ⊢
  obtain ⟨G, hG⟩ : ∃ z : Int, ((P - Q : Nat) : Int) = z := ⟨_, rfl⟩
  rw [hG]
  clear hP hQ hl hr hN
  rcases Nat.lt_or_ge P Q with hPQ | hPQ
  · have e1 : IntKind.u64.wrap ((Q : Int) - (Q : Int)) = G := by rw [← hG, IntKind.wrap_u64]; omega
    obtain rfl : G = 0 := by omega
    clear hP9 hQ9
    clear hG
    go_enter Try.func87, Try.ntmps87
    go_wp2_with fail
    refine t1.out.mono ?_
    rintro e w1 ⟨rfl, hb⟩
    have b1 := Lib.hid hb
    clear hb t1
    go_wp2_with fail
    refine (t2.out w1 b1.out).mono ?_
    rintro e w2 ⟨rfl, hb⟩
    have b2 := Lib.hid (Below.after b1.out hb)
    clear hb b1
    go_wp2_with fail
    all_goals first
      | (exfalso; omega)
      | (refine (t2.out w2 b2.out).mono ?_
         rintro e w3 ⟨rfl, hb⟩
         have b3 := Lib.hid (Below.after b2.out hb)
         clear hb b2
         go_wp2
         go_ret
         exact ⟨rfl, b3.out⟩)
  · rcases Nat.lt_or_eq_of_le hPQ with hlt | rfl
    · have e1 : IntKind.u64.wrap ((P : Int) - (Q : Int)) = G := by rw [← hG, IntKind.wrap_u64]; omega
      clear hP9 hQ9 hPQ
      clear hG
      go_enter Try.func87, Try.ntmps87
      go_wp2_with fail
      refine t1.out.mono ?_
      rintro e w1 ⟨rfl, hb⟩
      have b1 := Lib.hid hb
      clear hb t1
      go_wp2_with fail
      refine (t2.out w1 b1.out).mono ?_
      rintro e w2 ⟨rfl, hb⟩
      have b2 := Lib.hid (Below.after b1.out hb)
      clear hb b1
      go_wp2_with fail
      all_goals first
        | (exfalso; omega)
        | (refine (t2.out w2 b2.out).mono ?_
           rintro e w3 ⟨rfl, hb⟩
           have b3 := Lib.hid (Below.after b2.out hb)
           clear hb b2
           go_wp2
           go_ret
           exact ⟨rfl, b3.out⟩)
    · have e1 : IntKind.u64.wrap ((Q : Int) - (Q : Int)) = G := by rw [← hG, IntKind.wrap_u64]; omega
      obtain rfl : G = 0 := by omega
      clear hP9 hQ9 hPQ
      clear hG
      go_enter Try.func87, Try.ntmps87
      go_wp2_with fail
      refine t1.out.mono ?_
      rintro e w1 ⟨rfl, hb⟩
      have b1 := Lib.hid hb
      clear hb t1
      go_wp2_with fail
      refine (t2.out w1 b1.out).mono ?_
      rintro e w2 ⟨rfl, hb⟩
      have b2 := Lib.hid (Below.after b1.out hb)
      clear hb b1
      go_wp2_with fail
      all_goals first
        | (exfalso; omega)
        | (refine (t2.out w2 b2.out).mono ?_
           rintro e w3 ⟨rfl, hb⟩
           have b3 := Lib.hid (Below.after b2.out hb)
           clear hb b2
           go_wp2
           go_ret
           exact ⟨rfl, b3.out⟩)
theorem rank_n (hN : NodeSays Nd) (w : World) (t : Tr) (p : Option Addr) (h : TreeAt Nd w w.heap.size t p) (h1 : t.tag.toNat ≤ 1000) : Calls Try.prog 41 #[.pointer p] w fun e w' => e = .returned (nI t.tag.toNat) ∧ Below w.heap.size w w' :=
  (avlRank_any hN w t p h).mono (by
    rintro e w' ⟨rfl, hb⟩
    exact ⟨by rw [show K t.tag = nI t.tag.toNat from by show Value.int .i64 t.tag.toInt = .int .i64 (t.tag.toNat : Int); rw [BitVec.toInt_eq_toNat_of_lt (by omega)]], hb⟩)
set_option maxHeartbeats 4000000 in
theorem mostJ_any (hN : NodeSays Nd) (w : World) (t u : Tr) (p q : Option Addr) (hl : TreeAt Nd w w.heap.size t p) (hr : TreeAt Nd w w.heap.size u q) (h1 : t.tag.toNat ≤ 1000) (h2 : u.tag.toNat ≤ 1000) : Calls Try.prog 56 #[.pointer p, .pointer q] w fun e w' => e = .returned (nI (mostA t u)) ∧ Below w.heap.size w w' := by
  have t1 := Lib.hid (rank_n hN w t p hl h1)
  have t2 := Lib.hid (fun W (h : Below w.heap.size w W) => rank_n hN W u q (hr.after hN h) h2)
  unfold mostA
  obtain ⟨P, hP⟩ : ∃ P, t.tag.toNat = P := ⟨_, rfl⟩
  obtain ⟨Q, hQ⟩ : ∃ Q, u.tag.toNat = Q := ⟨_, rfl⟩
  rw [hP] at t1 h1 ⊢
  rw [hQ] at t2 h2 ⊢
  have hn : ∀ x, nI x = .int .i64 (x : Int) := fun x => rfl
  rw [hn] at t1 t2 ⊢
  clear hP hQ hl hr hN hn
  rcases Nat.lt_or_ge P Q with hPQ | hPQ
  · rw [Nat.max_eq_right (Nat.le_of_lt hPQ), Nat.min_eq_left (Nat.le_of_lt hPQ)]
    obtain ⟨z, hz⟩ : ∃ d, Q - P = d := ⟨_, rfl⟩
    rw [hz]
    have e0 : (Q : Int) - (P : Int) = (z : Int) := by omega
    have e1 : wrap64 (z : Int) = (z : Int) := by unfold wrap64; omega
    have e2 : wrap64 ((z : Int) + 1) = (z : Int) + 1 := by unfold wrap64; omega
    have e3 : wrap64 ((Q : Int) - (P : Int)) = (z : Int) := by rw [e0, e1]
    go_enter Try.func56, Try.ntmps56
    go_wp2_with fail
    refine t1.out.mono ?_
    rintro e w1 ⟨rfl, hb⟩
    have b1 := Lib.hid hb
    clear hb t1
    go_wp2_with fail
    refine (t2.out w1 b1.out).mono ?_
    rintro e w2 ⟨rfl, hb⟩
    have b2 := Lib.hid (Below.after b1.out hb)
    clear hb t2 b1
    go_wp2
    all_goals first
      | (exfalso; omega)
      | (go_ret; exact ⟨rfl, b2.out⟩)
      | (obtain rfl : z = 0 := by omega
         go_ret
         exact ⟨rfl, b2.out⟩)
  · rw [Nat.max_eq_left hPQ, Nat.min_eq_right hPQ]
    obtain ⟨z, hz⟩ : ∃ d, P - Q = d := ⟨_, rfl⟩
    rw [hz]
    have e0 : (P : Int) - (Q : Int) = (z : Int) := by omega
    have e1 : wrap64 (z : Int) = (z : Int) := by unfold wrap64; omega
    have e2 : wrap64 ((z : Int) + 1) = (z : Int) + 1 := by unfold wrap64; omega
    have e3 : wrap64 ((P : Int) - (Q : Int)) = (z : Int) := by rw [e0, e1]
    go_enter Try.func56, Try.ntmps56
    go_wp2_with fail
    refine t1.out.mono ?_
    rintro e w1 ⟨rfl, hb⟩
    have b1 := Lib.hid hb
    clear hb t1
    go_wp2_with fail
    refine (t2.out w1 b1.out).mono ?_
    rintro e w2 ⟨rfl, hb⟩
    have b2 := Lib.hid (Below.after b1.out hb)
    clear hb t2 b1
    go_wp2
    all_goals first
      | (exfalso; omega)
      | (go_ret; exact ⟨rfl, b2.out⟩)
      | (obtain rfl : z = 0 := by omega
         go_ret
         exact ⟨rfl, b2.out⟩)
/-- the struct of sides: three functions -/
def sidesV (fo fi fm : FuncId) : Value := .agg #[fnV fo, fnV fi, fnV fm]
/-- what the three functions answer; d: the outer side is the left one -/
structure Side15 (Nd : NdP) (d : Bool) (fo fi fm : FuncId) : Prop where
  eo : ∀ args w, (callFunc fo args).run Try.prog w = .ok (.enter fo args) w
  ei : ∀ args w, (callFunc fi args).run Try.prog w = .ok (.enter fi args) w
  em : ∀ args w, (callFunc fm args).run Try.prog w = .ok (.enter fm args) w
  outer : ∀ (W : World) (T : AT), Stand Nd W T → Calls Try.prog fo #[.pointer T.ptr] W fun e w' => e = .returned (.pointer (T.side d).ptr) ∧ Below W.heap.size W w'
  inner : ∀ (W : World) (T : AT), Stand Nd W T → Calls Try.prog fi #[.pointer T.ptr] W fun e w' => e = .returned (.pointer (T.side (!d)).ptr) ∧ Below W.heap.size W w'
  made : ∀ (W : World) (O I : AT) (k v : BitVec 64), Stand Nd W O → Stand Nd W I → Calls Try.prog fm #[.pointer O.ptr, K k, K v, .pointer I.ptr] W (MadeD Nd d O I k v (tagA O.tr I.tr) W)
theorem left15 (hN : NodeSays Nd) (W : World) (T : AT) (h : Stand Nd W T) : Calls Try.prog 30 #[.pointer T.ptr] W fun e w' => e = .returned (.pointer (T.side true).ptr) ∧ Below W.heap.size W w' := by
  cases T with
  | e => exact (hN.left0 W).mono (by rintro e w' ⟨rfl, hb⟩; exact ⟨rfl, hb⟩)
  | n a x l r =>
    obtain ⟨h1, h2, -⟩ := Stand.sides hN h
    exact (hN.left W _ a _ h1).mono (by rintro e w' ⟨rfl, rfl⟩; exact ⟨by rw [h2]; rfl, Below.refl _ _⟩)
theorem right15 (hN : NodeSays Nd) (W : World) (T : AT) (h : Stand Nd W T) : Calls Try.prog 31 #[.pointer T.ptr] W fun e w' => e = .returned (.pointer (T.side false).ptr) ∧ Below W.heap.size W w' := by
  cases T with
  | e => exact (hN.right0 W).mono (by rintro e w' ⟨rfl, hb⟩; exact ⟨rfl, hb⟩)
  | n a x l r =>
    obtain ⟨h1, -, h2, -⟩ := Stand.sides hN h
    exact (hN.right W _ a _ h1).mono (by rintro e w' ⟨rfl, rfl⟩; exact ⟨by rw [h2]; rfl, Below.refl _ _⟩)
set_option maxHeartbeats 4000000 in
theorem madeLeft15 (hN : NodeSays Nd) (w : World) (O I : AT) (k v : BitVec 64) (hO : Stand Nd w O) (hI : Stand Nd w I) : Calls Try.prog 109 #[.pointer O.ptr, K k, K v, .pointer I.ptr] w (MadeD Nd false O I k v (tagA O.tr I.tr) w) := by
  have c1 := Lib.hid (avlMake_any hN w I O k v hI hO)
  have hg : tagA I.tr O.tr = tagA O.tr I.tr := by simp only [tagA, Nat.max_comm]
  rw [hg] at c1
  obtain ⟨g, hG⟩ : ∃ g, tagA O.tr I.tr = g := ⟨_, rfl⟩
  obtain ⟨pl, hpl⟩ : ∃ p, O.ptr = p := ⟨_, rfl⟩
  obtain ⟨pr, hpr⟩ : ∃ p, I.ptr = p := ⟨_, rfl⟩
  rw [hG, hpl, hpr] at c1
  rw [hG, hpl, hpr]
  clear hG hpl hpr hO hI hN hg
  go_enter Try.func109, Try.ntmps109
  go_wp2_with fail
  refine c1.out.mono ?_
  rintro e w1 h
  obtain ⟨a, x, rfl, hx, hs, ha, hb⟩ := h
  have HX := Lib.hid hx
  have HS := Lib.hid hs
  have HA := Lib.hid ha
  have HB := Lib.hid hb
  clear hx hs ha hb
  go_wp2
  go_ret
  exact ⟨a, x, rfl, HX.out, HS.out, HA.out, HB.out⟩
theorem side_right15 (hN : NodeSays Nd) : Side15 Nd true 30 31 43 where
  eo := enters_of Try.func30 (by kernel_rfl) rfl
  ei := enters_of Try.func31 (by kernel_rfl) rfl
  em := enters_of Try.func43 (by kernel_rfl) rfl
  outer := left15 hN
  inner := right15 hN
  made := fun W O I k v hO hI => avlMake_any hN W O I k v hO hI
theorem side_left15 (hN : NodeSays Nd) : Side15 Nd false 31 30 109 where
  eo := enters_of Try.func31 (by kernel_rfl) rfl
  ei := enters_of Try.func30 (by kernel_rfl) rfl
  em := enters_of Try.func109 (by kernel_rfl) rfl
  outer := right15 hN
  inner := left15 hN
  made := fun W O I k v hO hI => madeLeft15 hN W O I k v hO hI
theorem results_agg {P : Program} {fn : Func} {p : Tmp} {ty : TypeId} (h : fn.results = #[.cell p ty]) (tmps : Array Value) (w : World) (g : Nat) (t : TypeId) (cs : Array Value) (fr : Nat × Nat) (d : TypeDesc)
    (hp : tmps.getD p undef = .pointer (some ⟨g, 0, none⟩)) (hg : w.heap[g]? = some (.cells cs t fr))
    (hu : P.underlying ty = some d) (hd : (match d with | .struct _ | .array _ _ => true | _ => false) = true) (hi : (P.info? ty).map (·.size) = some cs.size) :
    (results fn tmps).run P w = .ok (.agg cs) w := by
  have hp' : tmps[p]?.getD undef = .pointer (some ⟨g, 0, none⟩) := by simpa using hp
  simp [results, h, hp', asAddr, run_loadVar_row w g t ty cs fr d hg hu hd hi]
set_option maxHeartbeats 4000000 in
theorem lowOnRight_any (w : World) : Calls Try.prog 90 #[] w fun e w' => e = .returned (sidesV 30 31 43) ∧ Below w.heap.size w w' := by
  go_enter Try.func90, Try.ntmps90
  go_wp2
  exact bodyPost_ret (results_agg rfl _ _ w.heap.size _ _ _ _ rfl (Has.new w 89 #[fnV 30, fnV 31, fnV 43]) Try.underlying89 rfl (by kernel_rfl)) rfl ⟨rfl, (Below.refl _ _).alloc (Nat.le_refl _) _⟩
set_option maxHeartbeats 4000000 in
theorem lowOnLeft_any (w : World) : Calls Try.prog 88 #[] w fun e w' => e = .returned (sidesV 31 30 109) ∧ Below w.heap.size w w' := by
  go_enter Try.func88, Try.ntmps88
  go_wp2
  exact bodyPost_ret (results_agg rfl _ _ w.heap.size _ _ _ _ rfl (Has.new w 89 #[fnV 31, fnV 30, fnV 109]) Try.underlying89 rfl (by kernel_rfl)) rfl ⟨rfl, (Below.refl _ _).alloc (Nat.le_refl _) _⟩
/-- what 'with' makes of a node and a new inner side -/
def With15 (Nd : NdP) (d : Bool) (N T : AT) (w : World) (e : Ending) (w' : World) : Prop := ∃ a x, e = .returned (.pointer (some a)) ∧ (∀ b y l r, N = .n b y l r → x.k = y.k ∧ x.v = y.v) ∧ x.g = tagA (N.side d).tr T.tr ∧ Stand Nd w' (AT.mk d a x (N.side d) T) ∧ w.heap.size ≤ a.block ∧ Below w.heap.size w w'
theorem Stand.side {W : World} {N : AT} (hN : NodeSays Nd) (d : Bool) (h : Stand Nd W N) : Stand Nd W (N.side d) := by
  cases N with
  | e => exact Stand.none_ W
  | n a x l r =>
    obtain ⟨-, -, -, h4, h5⟩ := Stand.sides hN h
    cases d
    · exact h5
    · exact h4
set_option maxHeartbeats 8000000 in
theorem with15_any (hN : NodeSays Nd) {d : Bool} {fo fi fm : FuncId} (hd : Side15 Nd d fo fi fm) (w : World) (aN : Addr) (y : No) (l r T : AT) (hNs : Stand Nd w (.n aN y l r)) (hT : Stand Nd w T) : Calls Try.prog 112 #[sidesV fo fi fm, .pointer (some aN), .pointer T.ptr] w (With15 Nd d (.n aN y l r) T w) := by
  show Calls _ _ #[.agg #[fnV fo, fnV fi, fnV fm], _, _] _ _
  have eo := hd.eo
  have em := hd.em
  obtain ⟨W0, hW0⟩ : ∃ W, w.alloc (.cells #[fnV fo, fnV fi, fnV fm] 89) = W := ⟨_, rfl⟩
  obtain ⟨g0, hg0⟩ : ∃ g, w.heap.size = g := ⟨_, rfl⟩
  have hB0 : Below w.heap.size w W0 := hW0 ▸ (Below.refl _ w).alloc (Nat.le_refl _) _
  have hH0 : Has W0 g0 89 #[fnV fo, fnV fi, fnV fm] := hg0 ▸ hW0 ▸ Has.new w _ _
  have k0 : W0.cell? ⟨g0, 0, none⟩ = some (fnV fo) := hH0.cell 0
  have k1 : W0.cell? ⟨g0, 1, none⟩ = some (fnV fi) := hH0.cell 1
  have k2 : W0.cell? ⟨g0, 2, none⟩ = some (fnV fm) := hH0.cell 2
  have B0 := Lib.hid hB0
  have hN' := Lib.hid hN
  have NS : Hid (Stand Nd W0 (.n aN y l r)) := hNs.after hN hB0
  have TS : Hid (Stand Nd W0 T) := hT.after hN hB0
  have OS : Hid (Stand Nd W0 ((AT.n aN y l r).side d)) := Stand.side hN d NS.out
  have cO : Hid (∀ W, Stand Nd W (.n aN y l r) → Calls Try.prog fo #[.pointer (some aN)] W fun e w' => e = .returned (.pointer ((AT.n aN y l r).side d).ptr) ∧ Below W.heap.size W w') := fun W h => hd.outer W _ h
  have cK : Hid (∀ W, Stand Nd W (.n aN y l r) → Calls Try.prog 107 #[.pointer (some aN)] W fun e w' => e = .returned (K y.k) ∧ W = w') := fun W h => hN.key W _ aN _ (Stand.sides hN h).1
  have cV : Hid (∀ W, Stand Nd W (.n aN y l r) → Calls Try.prog 108 #[.pointer (some aN)] W fun e w' => e = .returned (K y.v) ∧ W = w') := fun W h => hN.val W _ aN _ (Stand.sides hN h).1
  have cM : Hid (∀ W, Stand Nd W ((AT.n aN y l r).side d) → Stand Nd W T → Calls Try.prog fm #[.pointer ((AT.n aN y l r).side d).ptr, K y.k, K y.v, .pointer T.ptr] W (MadeD Nd d ((AT.n aN y l r).side d) T y.k y.v (tagA ((AT.n aN y l r).side d).tr T.tr) W)) := fun W h1 h2 => hd.made W _ _ _ _ h1 h2
  have fin : Hid (∀ a x e u U, e = Ending.returned (.pointer (some a)) → x.k = y.k ∧ x.v = y.v ∧ x.g = tagA ((AT.n aN y l r).side d).tr T.tr → Stand Nd u (AT.mk d a x ((AT.n aN y l r).side d) T) → U ≤ a.block → w.heap.size ≤ U → Below w.heap.size w u → With15 Nd d (.n aN y l r) T w e u) :=
    fun a x e u U h1 h2 h3 h4 h5 h6 => ⟨a, x, h1, fun b y' l' r' e => by cases e; exact ⟨h2.1, h2.2.1⟩, h2.2.2, h3, Nat.le_trans h5 h4, h6⟩
  obtain ⟨O, hO⟩ : ∃ O, (AT.n aN y l r).side d = O := ⟨_, rfl⟩
  obtain ⟨G, hG⟩ : ∃ G, tagA O.tr T.tr = G := ⟨_, rfl⟩
  obtain ⟨R, hR⟩ : ∃ R, With15 Nd d (.n aN y l r) T w = R := ⟨_, rfl⟩
  rw [hO] at cO cM fin OS
  rw [hG] at cM fin
  rw [hR] at fin
  rw [hR]
  obtain ⟨po, hpo⟩ : ∃ p, O.ptr = p := ⟨_, rfl⟩
  obtain ⟨pt, hpt⟩ : ∃ p, T.ptr = p := ⟨_, rfl⟩
  rw [hpo] at cO cM
  rw [hpt] at cM
  rw [hpt]
  have HW0 := Lib.hid hW0
  have HG0 := Lib.hid hg0
  clear hO hG hR hpo hpt hd hNs hT hH0 hB0 hN hW0 hg0
  go_enter Try.func112, Try.ntmps112
  go_wp2_with fail
  rw [HW0.out, HG0.out]
  refine wp_region_held_drew (S := fun W => W.cell? ⟨g0, 0, none⟩ = some (fnV fo) ∧ W.cell? ⟨g0, 1, none⟩ = some (fnV fi) ∧ W.cell? ⟨g0, 2, none⟩ = some (fnV fm) ∧ Below W0.heap.size W0 W) (by kernel_rfl) ⟨k0, k1, k2, (Below.refl _ W0).drew⟩ (fun hS => ?_)
  refine wpAnyH_take (i := 0) (oi := ?dqr1q0) (v := ?dvr1q0) ?hir1q0 (by kernel_rfl) (by kernel_rfl) (by kernel_rfl) ?hQr1q0 (Or.inl ⟨?hwr1q0, ?hyr1q0⟩) hS ?hrr1q0
  case hir1q0 => simp only [List.getElem?_toArray, List.getElem?_cons_zero]; rfl
  case hQr1q0 => exact fun _ _ _ h => h
  case hwr1q0 => rfl
  case hyr1q0 => (intro w hSw; (try dsimp only at hSw); go_simp; (try with_reducible rfl))
  simp only [Act.put, List.setIfInBounds_toArray, List.set_cons_zero, List.set_cons_succ]
  refine wpAnyH_take (i := 1) (oi := ?dqr1q1) (v := ?dvr1q1) ?hir1q1 (by kernel_rfl) (by kernel_rfl) (by kernel_rfl) ?hQr1q1 (Or.inl ⟨?hwr1q1, ?hyr1q1⟩) hS ?hrr1q1
  case hir1q1 => simp only [List.getElem?_toArray, List.getElem?_cons_succ, List.getElem?_cons_zero]; rfl
  case hQr1q1 => exact fun _ _ _ h => h
  case hwr1q1 => rfl
  case hyr1q1 => (intro w hSw; (try dsimp only at hSw); go_simp; (try with_reducible rfl))
  simp only [Act.put, List.setIfInBounds_toArray, List.set_cons_zero, List.set_cons_succ]
  refine wpAnyH_take (i := 2) (oi := ?dqr1q2) (v := ?dvr1q2) ?hir1q2 (by kernel_rfl) (by kernel_rfl) (by kernel_rfl) ?hQr1q2 (Or.inl ⟨?hwr1q2, ?hyr1q2⟩) hS ?hrr1q2
  case hir1q2 => simp only [List.getElem?_toArray, List.getElem?_cons_succ, List.getElem?_cons_zero]; rfl
  case hQr1q2 => exact fun _ _ _ h => h
  case hwr1q2 => rfl
  case hyr1q2 => (intro w hSw; (try dsimp only at hSw); go_simp; (try with_reducible rfl))
  simp only [Act.put, List.setIfInBounds_toArray, List.set_cons_zero, List.set_cons_succ]
  refine wpAnyH_take (i := 3) (oi := ?dqr1q3) (v := ?dvr1q3) ?hir1q3 (by kernel_rfl) (by kernel_rfl) (by kernel_rfl) ?hQr1q3 (Or.inl ⟨?hwr1q3, ?hyr1q3⟩) hS ?hrr1q3
  case hir1q3 => simp only [List.getElem?_toArray, List.getElem?_cons_succ, List.getElem?_cons_zero]; rfl
  case hQr1q3 => exact fun _ _ _ h => h
  case hwr1q3 => rfl
  case hyr1q3 => (intro w hSw; (try dsimp only at hSw); go_simp; (try with_reducible rfl))
  simp only [Act.put, List.setIfInBounds_toArray, List.set_cons_zero, List.set_cons_succ]
  refine wpAnyH_take (i := 4) (oi := ?dqr1q4) (v := ?dvr1q4) ?hir1q4 (by kernel_rfl) (by kernel_rfl) (by kernel_rfl) ?hQr1q4 (Or.inl ⟨?hwr1q4, ?hyr1q4⟩) hS ?hrr1q4
  case hir1q4 => simp only [List.getElem?_toArray, List.getElem?_cons_succ, List.getElem?_cons_zero]; rfl
  case hQr1q4 => exact fun _ _ _ h => h
  case hwr1q4 => rfl
  case hyr1q4 => (intro w hSw; (try dsimp only at hSw); go_simp; (try with_reducible rfl))
  simp only [Act.put, List.setIfInBounds_toArray, List.set_cons_zero, List.set_cons_succ]
  refine wpAnyH_take (i := 6) (oi := ?dqr1q6) (v := ?dvr1q6) ?hir1q6 (by kernel_rfl) (by kernel_rfl) (by kernel_rfl) ?hQr1q6 (Or.inl ⟨?hwr1q6, ?hyr1q6⟩) hS ?hrr1q6
  case hir1q6 => simp only [List.getElem?_toArray, List.getElem?_cons_succ, List.getElem?_cons_zero]; rfl
  case hQr1q6 => exact fun _ _ _ h => h
  case hwr1q6 => rfl
  case hyr1q6 => (intro w hSw; (try dsimp only at hSw); go_simp; (try with_reducible rfl))
  simp only [Act.put, List.setIfInBounds_toArray, List.set_cons_zero, List.set_cons_succ]
  refine wpAnyH_take (i := 8) (oi := ?dqr1q8) (v := ?dvr1q8) ?hir1q8 (by kernel_rfl) (by kernel_rfl) (by kernel_rfl) ?hQr1q8 (Or.inl ⟨?hwr1q8, ?hyr1q8⟩) hS ?hrr1q8
  case hir1q8 => simp only [List.getElem?_toArray, List.getElem?_cons_succ, List.getElem?_cons_zero]; rfl
  case hQr1q8 => exact fun _ _ _ h => h
  case hwr1q8 => rfl
  case hyr1q8 => (intro w hSw; (try dsimp only at hSw); go_simp; (try with_reducible rfl))
  simp only [Act.put, List.setIfInBounds_toArray, List.set_cons_zero, List.set_cons_succ]
  refine wpAnyH_take (i := 10) (oi := ?dqr1q10) (v := ?dvr1q10) ?hir1q10 (by kernel_rfl) (by kernel_rfl) (by kernel_rfl) ?hQr1q10 (Or.inl ⟨?hwr1q10, ?hyr1q10⟩) hS ?hrr1q10
  case hir1q10 => simp only [List.getElem?_toArray, List.getElem?_cons_succ, List.getElem?_cons_zero]; rfl
  case hQr1q10 => exact fun _ _ _ h => h
  case hwr1q10 => rfl
  case hyr1q10 => (intro w hSw; (try dsimp only at hSw); go_simp; (try with_reducible rfl))
  simp only [Act.put, List.setIfInBounds_toArray, List.set_cons_zero, List.set_cons_succ]
  refine wpAnyH_ready (rs := [5]) (by kernel_rfl) (by simp) ?_
  refine AllReadyH.cons (o := ?dqr1q5) ?hir1q5 (fun K hK => ?_) AllReadyH.nil
  case hir1q5 => simp only [List.getElem?_toArray, List.getElem?_cons_succ, List.getElem?_cons_zero]; rfl
  go_simp
  refine (cO.out _ (NS.out.after hN'.out hS.2.2.2)).mono ?_
  rintro e u1 ⟨rfl, hb1⟩
  have hS2 := (And.intro (keep_cell hb1 hS.1) (And.intro (keep_cell hb1 hS.2.1) (And.intro (keep_cell hb1 hS.2.2.1) (Below.after hS.2.2.2 hb1))))
  clear hS
  refine hK.out _ _ hS2 (fun hS => ?_)
  clear hS2 hK K
  try simp only [Act.put, List.setIfInBounds_toArray, List.set_cons_zero, List.set_cons_succ]
  refine wpAnyH_ready (rs := [7]) (by kernel_rfl) (by simp) ?_
  refine AllReadyH.cons (o := ?dqr1q7) ?hir1q7 (fun K hK => ?_) AllReadyH.nil
  case hir1q7 => simp only [List.getElem?_toArray, List.getElem?_cons_succ, List.getElem?_cons_zero]; rfl
  go_simp
  refine (cK.out _ (NS.out.after hN'.out hS.2.2.2)).mono ?_
  rintro e u2 ⟨rfl, rfl⟩
  have hS2 := hS
  clear hS
  refine hK.out _ _ hS2 (fun hS => ?_)
  clear hS2 hK K
  try simp only [Act.put, List.setIfInBounds_toArray, List.set_cons_zero, List.set_cons_succ]
  refine wpAnyH_ready (rs := [9]) (by kernel_rfl) (by simp) ?_
  refine AllReadyH.cons (o := ?dqr1q9) ?hir1q9 (fun K hK => ?_) AllReadyH.nil
  case hir1q9 => simp only [List.getElem?_toArray, List.getElem?_cons_succ, List.getElem?_cons_zero]; rfl
  go_simp
  refine (cV.out _ (NS.out.after hN'.out hS.2.2.2)).mono ?_
  rintro e u3 ⟨rfl, rfl⟩
  have hS2 := hS
  clear hS
  refine hK.out _ _ hS2 (fun hS => ?_)
  clear hS2 hK K
  try simp only [Act.put, List.setIfInBounds_toArray, List.set_cons_zero, List.set_cons_succ]
  refine wpAnyH_ready (rs := [11]) (by kernel_rfl) (by simp) ?_
  refine AllReadyH.cons (o := ?dqr1q11) ?hir1q11 (fun K hK => ?_) AllReadyH.nil
  case hir1q11 => simp only [List.getElem?_toArray, List.getElem?_cons_succ, List.getElem?_cons_zero]; rfl
  go_simp
  have HZ := Lib.hid hS.2.2.2.size
  refine (cM.out _ (OS.out.after hN'.out hS.2.2.2) (TS.out.after hN'.out hS.2.2.2)).mono ?_
  rintro e u4 ⟨a, x, rfl, hx, hs, ha, hb4⟩
  have HX := Lib.hid hx
  have HS := Lib.hid hs
  have HA := Lib.hid ha
  clear hx hs ha
  have hS2 := (And.intro (keep_cell hb4 hS.1) (And.intro (keep_cell hb4 hS.2.1) (And.intro (keep_cell hb4 hS.2.2.1) (Below.after hS.2.2.2 hb4))))
  clear hS
  refine hK.out _ _ hS2 (fun hS => ?_)
  clear hS2 hK K
  try simp only [Act.put, List.setIfInBounds_toArray, List.set_cons_zero, List.set_cons_succ]
  refine wpAnyH_take (i := 12) (oi := ?dqr1q12) (v := ?dvr1q12) ?hir1q12 (by kernel_rfl) (by kernel_rfl) (by kernel_rfl) ?hQr1q12 (Or.inl ⟨?hwr1q12, ?hyr1q12⟩) hS ?hrr1q12
  case hir1q12 => simp only [List.getElem?_toArray, List.getElem?_cons_succ, List.getElem?_cons_zero]; rfl
  case hQr1q12 => exact fun _ _ _ h => h
  case hwr1q12 => rfl
  case hyr1q12 => (intro w hSw; (try dsimp only at hSw); go_simp; (try with_reducible rfl))
  simp only [Act.put, List.setIfInBounds_toArray, List.set_cons_zero, List.set_cons_succ]
  refine wpAnyH_done (by kernel_rfl) ?_ _
  go_wp2
  exact fin.out a x _ _ _ rfl HX.out HS.out HA.out (Nat.le_trans B0.out.size HZ.out) (Below.after B0.out hS.2.2.2)
end Go.Proofs.Ytifhnaelkjfmdaa
/- Package avljoin, as landed: the two turns. Made by wip/gen/layer15join.py. -/
namespace Go.Proofs.Ytifhnaelkjfmdaa
open Go.RowKit Go.Shelf Go.Proofs.Treem Go.Proofs.Cardm
set_option maxRecDepth 100000
variable {Nd : NdP}

/-- what a turn makes of a node and what is to be inside -/
def Once15 (Nd : NdP) (d : Bool) (N : AT) (xT : No) (O I : AT) (w : World) (e : Ending) (w' : World) : Prop := ∃ a x b z, e = .returned (.pointer (some b)) ∧ (∀ c y l r, N = .n c y l r → x.k = y.k ∧ x.v = y.v) ∧ x.g = tagA (N.side d).tr O.tr ∧ (z.k = xT.k ∧ z.v = xT.v ∧ z.g = tagA (AT.mk d a x (N.side d) O).tr I.tr) ∧ Stand Nd w' (AT.mk d b z (AT.mk d a x (N.side d) O) I) ∧ (w.heap.size ≤ a.block ∧ w.heap.size ≤ b.block) ∧ Below w.heap.size w w'
def Twice15 (Nd : NdP) (d : Bool) (N : AT) (xT xM : No) (MO MI I : AT) (w : World) (e : Ending) (w' : World) : Prop := ∃ a x b z c u, e = .returned (.pointer (some b)) ∧ (∀ c y l r, N = .n c y l r → x.k = y.k ∧ x.v = y.v) ∧ x.g = tagA (N.side d).tr MO.tr ∧ (u.k = xT.k ∧ u.v = xT.v ∧ u.g = tagA MI.tr I.tr) ∧ (z.k = xM.k ∧ z.v = xM.v ∧ z.g = tagA (AT.mk d a x (N.side d) MO).tr (AT.mk d c u MI I).tr) ∧ Stand Nd w' (AT.mk d b z (AT.mk d a x (N.side d) MO) (AT.mk d c u MI I)) ∧ (w.heap.size ≤ a.block ∧ w.heap.size ≤ b.block ∧ w.heap.size ≤ c.block) ∧ Below w.heap.size w w'
theorem side_of {d : Bool} {a : Addr} {x : No} {O I : AT} : (AT.mk d a x O I).side d = O := AT.mk_out d a x O I
theorem keyD15 (hN : NodeSays Nd) {d : Bool} {a : Addr} {x : No} {O I : AT} (W : World) (h : Stand Nd W (AT.mk d a x O I)) : Calls Try.prog 107 #[.pointer (some a)] W fun e w' => e = .returned (K x.k) ∧ W = w' := hN.key W _ a _ (Stand.sides hN h).1
theorem valD15 (hN : NodeSays Nd) {d : Bool} {a : Addr} {x : No} {O I : AT} (W : World) (h : Stand Nd W (AT.mk d a x O I)) : Calls Try.prog 108 #[.pointer (some a)] W fun e w' => e = .returned (K x.v) ∧ W = w' := hN.val W _ a _ (Stand.sides hN h).1
theorem outD15 {d : Bool} {fo fi fm : FuncId} (hd : Side15 Nd d fo fi fm) {a : Addr} {x : No} {O I : AT} (W : World) (h : Stand Nd W (AT.mk d a x O I)) : Calls Try.prog fo #[.pointer (some a)] W fun e w' => e = .returned (.pointer O.ptr) ∧ Below W.heap.size W w' := by
  have := hd.outer W _ h
  rwa [AT.mk_out] at this
theorem inD15 {d : Bool} {fo fi fm : FuncId} (hd : Side15 Nd d fo fi fm) {a : Addr} {x : No} {O I : AT} (W : World) (h : Stand Nd W (AT.mk d a x O I)) : Calls Try.prog fi #[.pointer (some a)] W fun e w' => e = .returned (.pointer I.ptr) ∧ Below W.heap.size W w' := by
  have := hd.inner W _ h
  rwa [AT.mk_in] at this
set_option maxHeartbeats 8000000 in
theorem once15_any (hN : NodeSays Nd) {d : Bool} {fo fi fm : FuncId} (hd : Side15 Nd d fo fi fm) (w : World) (aN : Addr) (y : No) (l r : AT) (aT : Addr) (xT : No) (O I : AT) (hNs : Stand Nd w (.n aN y l r)) (hT : Stand Nd w (AT.mk d aT xT O I)) : Calls Try.prog 114 #[sidesV fo fi fm, .pointer (some aN), .pointer (some aT)] w (Once15 Nd d (.n aN y l r) xT O I w) := by
  have cO := Lib.hid (fun W (h : Stand Nd W (AT.mk d aT xT O I)) => outD15 hd W h)
  have cI := Lib.hid (fun W (h : Stand Nd W (AT.mk d aT xT O I)) => inD15 hd W h)
  have cK := Lib.hid (fun W (h : Stand Nd W (AT.mk d aT xT O I)) => keyD15 hN W h)
  have cV := Lib.hid (fun W (h : Stand Nd W (AT.mk d aT xT O I)) => valD15 hN W h)
  have cW := Lib.hid (fun W (h1 : Stand Nd W (.n aN y l r)) (h2 : Stand Nd W O) => with15_any hN hd W aN y l r O h1 h2)
  have cM : Hid (∀ W a x, Stand Nd W (AT.mk d a x ((AT.n aN y l r).side d) O) → Stand Nd W I → Calls Try.prog fm #[.pointer (some a), K xT.k, K xT.v, .pointer I.ptr] W (MadeD Nd d (AT.mk d a x ((AT.n aN y l r).side d) O) I xT.k xT.v (tagA (AT.mk d a x ((AT.n aN y l r).side d) O).tr I.tr) W)) := fun W a x h1 h2 => hd.made W _ _ _ _ h1 h2
  show Calls _ _ #[.agg #[fnV fo, fnV fi, fnV fm], _, _] _ _
  have hsv : sidesV fo fi fm = .agg #[fnV fo, fnV fi, fnV fm] := rfl
  rw [hsv] at cW
  have eo := hd.eo
  have ei := hd.ei
  have em := hd.em
  obtain ⟨W0, hW0⟩ : ∃ W, w.alloc (.cells #[fnV fo, fnV fi, fnV fm] 89) = W := ⟨_, rfl⟩
  obtain ⟨g0, hg0⟩ : ∃ g, w.heap.size = g := ⟨_, rfl⟩
  have hB0 : Below w.heap.size w W0 := hW0 ▸ (Below.refl _ w).alloc (Nat.le_refl _) _
  have hH0 : Has W0 g0 89 #[fnV fo, fnV fi, fnV fm] := hg0 ▸ hW0 ▸ Has.new w _ _
  have k0 : W0.cell? ⟨g0, 0, none⟩ = some (fnV fo) := hH0.cell 0
  have k1 : W0.cell? ⟨g0, 1, none⟩ = some (fnV fi) := hH0.cell 1
  have k2 : W0.cell? ⟨g0, 2, none⟩ = some (fnV fm) := hH0.cell 2
  have B0 := Lib.hid hB0
  have hN' := Lib.hid hN
  have NS : Hid (Stand Nd W0 (.n aN y l r)) := hNs.after hN hB0
  have TS : Hid (Stand Nd W0 (AT.mk d aT xT O I)) := hT.after hN hB0
  have OS : Hid (Stand Nd W0 O) := Stand.out hN TS.out
  have IS : Hid (Stand Nd W0 I) := Stand.inn hN TS.out
  have fin : Hid (∀ a x b z u, (∀ c y' l' r', AT.n aN y l r = .n c y' l' r' → x.k = y'.k ∧ x.v = y'.v) → x.g = tagA ((AT.n aN y l r).side d).tr O.tr → z.k = xT.k ∧ z.v = xT.v ∧ z.g = tagA (AT.mk d a x ((AT.n aN y l r).side d) O).tr I.tr → Stand Nd u (AT.mk d b z (AT.mk d a x ((AT.n aN y l r).side d) O) I) → w.heap.size ≤ a.block → w.heap.size ≤ b.block → Below w.heap.size w u → Once15 Nd d (.n aN y l r) xT O I w (.returned (.pointer (some b))) u) :=
    fun a x b z u h1 h2 h3 h4 h5 h6 h7 => ⟨a, x, b, z, rfl, h1, h2, h3, h4, ⟨h5, h6⟩, h7⟩
  have HW0 := Lib.hid hW0
  have HG0 := Lib.hid hg0
  obtain ⟨R, hR⟩ : ∃ R, Once15 Nd d (.n aN y l r) xT O I w = R := ⟨_, rfl⟩
  rw [hR] at fin
  rw [hR]
  obtain ⟨po, hpo⟩ : ∃ p, O.ptr = p := ⟨_, rfl⟩
  obtain ⟨pt, hpt⟩ : ∃ p, I.ptr = p := ⟨_, rfl⟩
  rw [hpo] at cO cW
  rw [hpt] at cI cM
  obtain ⟨kT, hkT⟩ : ∃ k, xT.k = k := ⟨_, rfl⟩
  obtain ⟨vT, hvT⟩ : ∃ k, xT.v = k := ⟨_, rfl⟩
  rw [hkT] at cK cM fin
  rw [hvT] at cV cM fin
  clear hR hd hNs hT hH0 hB0 hN hW0 hg0 hsv hpo hpt hkT hvT
  go_enter Try.func114, Try.ntmps114
  go_wp2_with fail
  rw [HW0.out, HG0.out]
  refine wp_region_held_drew (S := fun W => W.cell? ⟨g0, 0, none⟩ = some (fnV fo) ∧ W.cell? ⟨g0, 1, none⟩ = some (fnV fi) ∧ W.cell? ⟨g0, 2, none⟩ = some (fnV fm) ∧ Below W0.heap.size W0 W) (by kernel_rfl) ⟨k0, k1, k2, (Below.refl _ W0).drew⟩ (fun hS => ?_)
  refine wpAnyH_take (i := 0) (oi := ?dqr2q0) (v := ?dvr2q0) ?hir2q0 (by kernel_rfl) (by kernel_rfl) (by kernel_rfl) ?hQr2q0 (Or.inl ⟨?hwr2q0, ?hyr2q0⟩) hS ?hrr2q0
  case hir2q0 => simp only [List.getElem?_toArray, List.getElem?_cons_zero]; rfl
  case hQr2q0 => exact fun _ _ _ h => h
  case hwr2q0 => rfl
  case hyr2q0 => (intro w hSw; (try dsimp only at hSw); go_simp; (try with_reducible rfl))
  simp only [Act.put, List.setIfInBounds_toArray, List.set_cons_zero, List.set_cons_succ]
  refine wpAnyH_take (i := 1) (oi := ?dqr2q1) (v := ?dvr2q1) ?hir2q1 (by kernel_rfl) (by kernel_rfl) (by kernel_rfl) ?hQr2q1 (Or.inl ⟨?hwr2q1, ?hyr2q1⟩) hS ?hrr2q1
  case hir2q1 => simp only [List.getElem?_toArray, List.getElem?_cons_succ, List.getElem?_cons_zero]; rfl
  case hQr2q1 => exact fun _ _ _ h => h
  case hwr2q1 => rfl
  case hyr2q1 => (intro w hSw; (try dsimp only at hSw); go_simp; (try with_reducible rfl))
  simp only [Act.put, List.setIfInBounds_toArray, List.set_cons_zero, List.set_cons_succ]
  refine wpAnyH_take (i := 2) (oi := ?dqr2q2) (v := ?dvr2q2) ?hir2q2 (by kernel_rfl) (by kernel_rfl) (by kernel_rfl) ?hQr2q2 (Or.inl ⟨?hwr2q2, ?hyr2q2⟩) hS ?hrr2q2
  case hir2q2 => simp only [List.getElem?_toArray, List.getElem?_cons_succ, List.getElem?_cons_zero]; rfl
  case hQr2q2 => exact fun _ _ _ h => h
  case hwr2q2 => rfl
  case hyr2q2 => (intro w hSw; (try dsimp only at hSw); go_simp; (try with_reducible rfl))
  simp only [Act.put, List.setIfInBounds_toArray, List.set_cons_zero, List.set_cons_succ]
  refine wpAnyH_take (i := 3) (oi := ?dqr2q3) (v := ?dvr2q3) ?hir2q3 (by kernel_rfl) (by kernel_rfl) (by kernel_rfl) ?hQr2q3 (Or.inl ⟨?hwr2q3, ?hyr2q3⟩) hS ?hrr2q3
  case hir2q3 => simp only [List.getElem?_toArray, List.getElem?_cons_succ, List.getElem?_cons_zero]; rfl
  case hQr2q3 => exact fun _ _ _ h => h
  case hwr2q3 => rfl
  case hyr2q3 => (intro w hSw; (try dsimp only at hSw); go_simp; (try with_reducible rfl))
  simp only [Act.put, List.setIfInBounds_toArray, List.set_cons_zero, List.set_cons_succ]
  refine wpAnyH_take (i := 4) (oi := ?dqr2q4) (v := ?dvr2q4) ?hir2q4 (by kernel_rfl) (by kernel_rfl) (by kernel_rfl) ?hQr2q4 (Or.inl ⟨?hwr2q4, ?hyr2q4⟩) hS ?hrr2q4
  case hir2q4 => simp only [List.getElem?_toArray, List.getElem?_cons_succ, List.getElem?_cons_zero]; rfl
  case hQr2q4 => exact fun _ _ _ h => h
  case hwr2q4 => rfl
  case hyr2q4 => (intro w hSw; (try dsimp only at hSw); go_simp; (try with_reducible rfl))
  simp only [Act.put, List.setIfInBounds_toArray, List.set_cons_zero, List.set_cons_succ]
  refine wpAnyH_take (i := 5) (oi := ?dqr2q5) (v := ?dvr2q5) ?hir2q5 (by kernel_rfl) (by kernel_rfl) (by kernel_rfl) ?hQr2q5 (Or.inl ⟨?hwr2q5, ?hyr2q5⟩) hS ?hrr2q5
  case hir2q5 => simp only [List.getElem?_toArray, List.getElem?_cons_succ, List.getElem?_cons_zero]; rfl
  case hQr2q5 => exact fun _ _ _ h => h
  case hwr2q5 => rfl
  case hyr2q5 => (intro w hSw; (try dsimp only at hSw); go_simp; (try with_reducible rfl))
  simp only [Act.put, List.setIfInBounds_toArray, List.set_cons_zero, List.set_cons_succ]
  refine wpAnyH_take (i := 6) (oi := ?dqr2q6) (v := ?dvr2q6) ?hir2q6 (by kernel_rfl) (by kernel_rfl) (by kernel_rfl) ?hQr2q6 (Or.inl ⟨?hwr2q6, ?hyr2q6⟩) hS ?hrr2q6
  case hir2q6 => simp only [List.getElem?_toArray, List.getElem?_cons_succ, List.getElem?_cons_zero]; rfl
  case hQr2q6 => exact fun _ _ _ h => h
  case hwr2q6 => rfl
  case hyr2q6 => (intro w hSw; (try dsimp only at hSw); go_simp; (try with_reducible rfl))
  simp only [Act.put, List.setIfInBounds_toArray, List.set_cons_zero, List.set_cons_succ]
  refine wpAnyH_take (i := 9) (oi := ?dqr2q9) (v := ?dvr2q9) ?hir2q9 (by kernel_rfl) (by kernel_rfl) (by kernel_rfl) ?hQr2q9 (Or.inl ⟨?hwr2q9, ?hyr2q9⟩) hS ?hrr2q9
  case hir2q9 => simp only [List.getElem?_toArray, List.getElem?_cons_succ, List.getElem?_cons_zero]; rfl
  case hQr2q9 => exact fun _ _ _ h => h
  case hwr2q9 => rfl
  case hyr2q9 => (intro w hSw; (try dsimp only at hSw); go_simp; (try with_reducible rfl))
  simp only [Act.put, List.setIfInBounds_toArray, List.set_cons_zero, List.set_cons_succ]
  refine wpAnyH_take (i := 11) (oi := ?dqr2q11) (v := ?dvr2q11) ?hir2q11 (by kernel_rfl) (by kernel_rfl) (by kernel_rfl) ?hQr2q11 (Or.inl ⟨?hwr2q11, ?hyr2q11⟩) hS ?hrr2q11
  case hir2q11 => simp only [List.getElem?_toArray, List.getElem?_cons_succ, List.getElem?_cons_zero]; rfl
  case hQr2q11 => exact fun _ _ _ h => h
  case hwr2q11 => rfl
  case hyr2q11 => (intro w hSw; (try dsimp only at hSw); go_simp; (try with_reducible rfl))
  simp only [Act.put, List.setIfInBounds_toArray, List.set_cons_zero, List.set_cons_succ]
  refine wpAnyH_take (i := 13) (oi := ?dqr2q13) (v := ?dvr2q13) ?hir2q13 (by kernel_rfl) (by kernel_rfl) (by kernel_rfl) ?hQr2q13 (Or.inl ⟨?hwr2q13, ?hyr2q13⟩) hS ?hrr2q13
  case hir2q13 => simp only [List.getElem?_toArray, List.getElem?_cons_succ, List.getElem?_cons_zero]; rfl
  case hQr2q13 => exact fun _ _ _ h => h
  case hwr2q13 => rfl
  case hyr2q13 => (intro w hSw; (try dsimp only at hSw); go_simp; (try with_reducible rfl))
  simp only [Act.put, List.setIfInBounds_toArray, List.set_cons_zero, List.set_cons_succ]
  refine wpAnyH_take (i := 14) (oi := ?dqr2q14) (v := ?dvr2q14) ?hir2q14 (by kernel_rfl) (by kernel_rfl) (by kernel_rfl) ?hQr2q14 (Or.inl ⟨?hwr2q14, ?hyr2q14⟩) hS ?hrr2q14
  case hir2q14 => simp only [List.getElem?_toArray, List.getElem?_cons_succ, List.getElem?_cons_zero]; rfl
  case hQr2q14 => exact fun _ _ _ h => h
  case hwr2q14 => rfl
  case hyr2q14 => (intro w hSw; (try dsimp only at hSw); go_simp; (try with_reducible rfl))
  simp only [Act.put, List.setIfInBounds_toArray, List.set_cons_zero, List.set_cons_succ]
  refine wpAnyH_take (i := 15) (oi := ?dqr2q15) (v := ?dvr2q15) ?hir2q15 (by kernel_rfl) (by kernel_rfl) (by kernel_rfl) ?hQr2q15 (Or.inl ⟨?hwr2q15, ?hyr2q15⟩) hS ?hrr2q15
  case hir2q15 => simp only [List.getElem?_toArray, List.getElem?_cons_succ, List.getElem?_cons_zero]; rfl
  case hQr2q15 => exact fun _ _ _ h => h
  case hwr2q15 => rfl
  case hyr2q15 => (intro w hSw; (try dsimp only at hSw); go_simp; (try with_reducible rfl))
  simp only [Act.put, List.setIfInBounds_toArray, List.set_cons_zero, List.set_cons_succ]
  refine wpAnyH_ready (rs := [7]) (by kernel_rfl) (by simp) ?_
  refine AllReadyH.cons (o := ?dqr2q7) ?hir2q7 (fun K hK => ?_) AllReadyH.nil
  case hir2q7 => simp only [List.getElem?_toArray, List.getElem?_cons_succ, List.getElem?_cons_zero]; rfl
  go_simp
  refine (cO.out _ (TS.out.after hN'.out hS.2.2.2)).mono ?_
  rintro e u1 ⟨rfl, hb1⟩
  have hS2 := (And.intro (keep_cell hb1 hS.1) (And.intro (keep_cell hb1 hS.2.1) (And.intro (keep_cell hb1 hS.2.2.1) (Below.after hS.2.2.2 hb1))))
  clear hS
  refine hK.out _ _ hS2 (fun hS => ?_)
  clear hS2 hK K
  try simp only [Act.put, List.setIfInBounds_toArray, List.set_cons_zero, List.set_cons_succ]
  refine wpAnyH_ready (rs := [8]) (by kernel_rfl) (by simp) ?_
  refine AllReadyH.cons (o := ?dqr2q8) ?hir2q8 (fun K hK => ?_) AllReadyH.nil
  case hir2q8 => simp only [List.getElem?_toArray, List.getElem?_cons_succ, List.getElem?_cons_zero]; rfl
  go_simp
  have Z1 := Lib.hid hS.2.2.2.size
  refine (cW.out _ (NS.out.after hN'.out hS.2.2.2) (OS.out.after hN'.out hS.2.2.2)).mono ?_
  rintro e u2 ⟨a, x, rfl, hx, hxg, hs, ha, hb2⟩
  have HX := Lib.hid hx
  have HXG := Lib.hid hxg
  have HS := Lib.hid hs
  have HA := Lib.hid (Nat.le_trans Z1.out ha)
  clear hx hxg hs ha
  have hS2 := (And.intro (keep_cell hb2 hS.1) (And.intro (keep_cell hb2 hS.2.1) (And.intro (keep_cell hb2 hS.2.2.1) (Below.after hS.2.2.2 hb2))))
  clear hS
  refine hK.out _ _ hS2 (fun hS => ?_)
  clear hS2 hK K
  try simp only [Act.put, List.setIfInBounds_toArray, List.set_cons_zero, List.set_cons_succ]
  refine wpAnyH_ready (rs := [10]) (by kernel_rfl) (by simp) ?_
  refine AllReadyH.cons (o := ?dqr2q10) ?hir2q10 (fun K hK => ?_) AllReadyH.nil
  case hir2q10 => simp only [List.getElem?_toArray, List.getElem?_cons_succ, List.getElem?_cons_zero]; rfl
  go_simp
  refine (cK.out _ (TS.out.after hN'.out hS.2.2.2)).mono ?_
  rintro e u3 ⟨rfl, rfl⟩
  have hS2 := hS
  clear hS
  refine hK.out _ _ hS2 (fun hS => ?_)
  clear hS2 hK K
  try simp only [Act.put, List.setIfInBounds_toArray, List.set_cons_zero, List.set_cons_succ]
  refine wpAnyH_ready (rs := [12]) (by kernel_rfl) (by simp) ?_
  refine AllReadyH.cons (o := ?dqr2q12) ?hir2q12 (fun K hK => ?_) AllReadyH.nil
  case hir2q12 => simp only [List.getElem?_toArray, List.getElem?_cons_succ, List.getElem?_cons_zero]; rfl
  go_simp
  refine (cV.out _ (TS.out.after hN'.out hS.2.2.2)).mono ?_
  rintro e u4 ⟨rfl, rfl⟩
  have hS2 := hS
  clear hS
  refine hK.out _ _ hS2 (fun hS => ?_)
  clear hS2 hK K
  try simp only [Act.put, List.setIfInBounds_toArray, List.set_cons_zero, List.set_cons_succ]
  refine wpAnyH_ready (rs := [16]) (by kernel_rfl) (by simp) ?_
  refine AllReadyH.cons (o := ?dqr2q16) ?hir2q16 (fun K hK => ?_) AllReadyH.nil
  case hir2q16 => simp only [List.getElem?_toArray, List.getElem?_cons_succ, List.getElem?_cons_zero]; rfl
  go_simp
  refine (cI.out _ (TS.out.after hN'.out hS.2.2.2)).mono ?_
  rintro e u5 ⟨rfl, hb5⟩
  have hS2 := (And.intro (keep_cell hb5 hS.1) (And.intro (keep_cell hb5 hS.2.1) (And.intro (keep_cell hb5 hS.2.2.1) (Below.after hS.2.2.2 hb5))))
  clear hS
  refine hK.out _ _ hS2 (fun hS => ?_)
  clear hS2 hK K
  try simp only [Act.put, List.setIfInBounds_toArray, List.set_cons_zero, List.set_cons_succ]
  refine wpAnyH_ready (rs := [17]) (by kernel_rfl) (by simp) ?_
  refine AllReadyH.cons (o := ?dqr2q17) ?hir2q17 (fun K hK => ?_) AllReadyH.nil
  case hir2q17 => simp only [List.getElem?_toArray, List.getElem?_cons_succ, List.getElem?_cons_zero]; rfl
  go_simp
  have Z5 := Lib.hid hS.2.2.2.size
  refine (cM.out _ a x (HS.out.after hN'.out hb5) (IS.out.after hN'.out hS.2.2.2)).mono ?_
  rintro e u6 ⟨b, z, rfl, hz, hs, hb, hb6⟩
  have HZ := Lib.hid hz
  have HS6 := Lib.hid hs
  have HB := Lib.hid (Nat.le_trans Z5.out hb)
  clear hz hs hb
  have hS2 := (And.intro (keep_cell hb6 hS.1) (And.intro (keep_cell hb6 hS.2.1) (And.intro (keep_cell hb6 hS.2.2.1) (Below.after hS.2.2.2 hb6))))
  clear hS
  refine hK.out _ _ hS2 (fun hS => ?_)
  clear hS2 hK K
  try simp only [Act.put, List.setIfInBounds_toArray, List.set_cons_zero, List.set_cons_succ]
  refine wpAnyH_take (i := 18) (oi := ?dqr2q18) (v := ?dvr2q18) ?hir2q18 (by kernel_rfl) (by kernel_rfl) (by kernel_rfl) ?hQr2q18 (Or.inl ⟨?hwr2q18, ?hyr2q18⟩) hS ?hrr2q18
  case hir2q18 => simp only [List.getElem?_toArray, List.getElem?_cons_succ, List.getElem?_cons_zero]; rfl
  case hQr2q18 => exact fun _ _ _ h => h
  case hwr2q18 => rfl
  case hyr2q18 => (intro w hSw; (try dsimp only at hSw); go_simp; (try with_reducible rfl))
  simp only [Act.put, List.setIfInBounds_toArray, List.set_cons_zero, List.set_cons_succ]
  refine wpAnyH_done (by kernel_rfl) ?_ _
  go_wp2
  exact fin.out a x b z _ HX.out HXG.out HZ.out HS6.out (Nat.le_trans B0.out.size HA.out) (Nat.le_trans B0.out.size HB.out) (Below.after B0.out hS.2.2.2)
set_option maxHeartbeats 16000000 in
theorem twice15_any (hN : NodeSays Nd) {d : Bool} {fo fi fm : FuncId} (hd : Side15 Nd d fo fi fm) (w : World) (aN : Addr) (y : No) (l r : AT) (aT aM : Addr) (xT xM : No) (MO MI I : AT) (hNs : Stand Nd w (.n aN y l r)) (hT : Stand Nd w (AT.mk d aT xT (AT.mk d aM xM MO MI) I)) : Calls Try.prog 113 #[sidesV fo fi fm, .pointer (some aN), .pointer (some aT)] w (Twice15 Nd d (.n aN y l r) xT xM MO MI I w) := by
  have cO := Lib.hid (fun W (h : Stand Nd W (AT.mk d aT xT (AT.mk d aM xM MO MI) I)) => outD15 hd W h)
  have cTI := Lib.hid (fun W (h : Stand Nd W (AT.mk d aT xT (AT.mk d aM xM MO MI) I)) => inD15 hd W h)
  have cTK := Lib.hid (fun W (h : Stand Nd W (AT.mk d aT xT (AT.mk d aM xM MO MI) I)) => keyD15 hN W h)
  have cTV := Lib.hid (fun W (h : Stand Nd W (AT.mk d aT xT (AT.mk d aM xM MO MI) I)) => valD15 hN W h)
  have cMO := Lib.hid (fun W (h : Stand Nd W (AT.mk d aM xM MO MI)) => outD15 hd W h)
  have cMI := Lib.hid (fun W (h : Stand Nd W (AT.mk d aM xM MO MI)) => inD15 hd W h)
  have cMK := Lib.hid (fun W (h : Stand Nd W (AT.mk d aM xM MO MI)) => keyD15 hN W h)
  have cMV := Lib.hid (fun W (h : Stand Nd W (AT.mk d aM xM MO MI)) => valD15 hN W h)
  have cW := Lib.hid (fun W (h1 : Stand Nd W (.n aN y l r)) (h2 : Stand Nd W MO) => with15_any hN hd W aN y l r MO h1 h2)
  have cL : Hid (∀ W, Stand Nd W MI → Stand Nd W I → Calls Try.prog fm #[.pointer MI.ptr, K xT.k, K xT.v, .pointer I.ptr] W (MadeD Nd d MI I xT.k xT.v (tagA MI.tr I.tr) W)) := fun W h1 h2 => hd.made W _ _ _ _ h1 h2
  have cM : Hid (∀ W a x c u, Stand Nd W (AT.mk d a x ((AT.n aN y l r).side d) MO) → Stand Nd W (AT.mk d c u MI I) → Calls Try.prog fm #[.pointer (some a), K xM.k, K xM.v, .pointer (some c)] W (MadeD Nd d (AT.mk d a x ((AT.n aN y l r).side d) MO) (AT.mk d c u MI I) xM.k xM.v (tagA (AT.mk d a x ((AT.n aN y l r).side d) MO).tr (AT.mk d c u MI I).tr) W)) := fun W a x c u h1 h2 => hd.made W _ _ _ _ h1 h2
  have ptm : (AT.mk d aM xM MO MI).ptr = some aM := rfl
  rw [ptm] at cO
  show Calls _ _ #[.agg #[fnV fo, fnV fi, fnV fm], _, _] _ _
  have hsv : sidesV fo fi fm = .agg #[fnV fo, fnV fi, fnV fm] := rfl
  rw [hsv] at cW
  have eo := hd.eo
  have ei := hd.ei
  have em := hd.em
  obtain ⟨W0, hW0⟩ : ∃ W, w.alloc (.cells #[fnV fo, fnV fi, fnV fm] 89) = W := ⟨_, rfl⟩
  obtain ⟨g0, hg0⟩ : ∃ g, w.heap.size = g := ⟨_, rfl⟩
  have hB0 : Below w.heap.size w W0 := hW0 ▸ (Below.refl _ w).alloc (Nat.le_refl _) _
  have hH0 : Has W0 g0 89 #[fnV fo, fnV fi, fnV fm] := hg0 ▸ hW0 ▸ Has.new w _ _
  have k0 : W0.cell? ⟨g0, 0, none⟩ = some (fnV fo) := hH0.cell 0
  have k1 : W0.cell? ⟨g0, 1, none⟩ = some (fnV fi) := hH0.cell 1
  have k2 : W0.cell? ⟨g0, 2, none⟩ = some (fnV fm) := hH0.cell 2
  have B0 := Lib.hid hB0
  have hN' := Lib.hid hN
  have NS0 : Hid (Stand Nd W0 (.n aN y l r)) := hNs.after hN hB0
  have TS0 : Hid (Stand Nd W0 (AT.mk d aT xT (AT.mk d aM xM MO MI) I)) := hT.after hN hB0
  have fin : Hid (∀ a x b z c u U, (∀ c y' l' r', AT.n aN y l r = .n c y' l' r' → x.k = y'.k ∧ x.v = y'.v) → x.g = tagA ((AT.n aN y l r).side d).tr MO.tr → u.k = xT.k ∧ u.v = xT.v ∧ u.g = tagA MI.tr I.tr → z.k = xM.k ∧ z.v = xM.v ∧ z.g = tagA (AT.mk d a x ((AT.n aN y l r).side d) MO).tr (AT.mk d c u MI I).tr → Stand Nd U (AT.mk d b z (AT.mk d a x ((AT.n aN y l r).side d) MO) (AT.mk d c u MI I)) → w.heap.size ≤ a.block → w.heap.size ≤ b.block → w.heap.size ≤ c.block → Below w.heap.size w U → Twice15 Nd d (.n aN y l r) xT xM MO MI I w (.returned (.pointer (some b))) U) :=
    fun a x b z c u U h1 h2 h3 h4 h5 h6 h7 h8 h9 => ⟨a, x, b, z, c, u, rfl, h1, h2, h3, h4, h5, ⟨h6, h7, h8⟩, h9⟩
  have HW0 := Lib.hid hW0
  have HG0 := Lib.hid hg0
  obtain ⟨R, hR⟩ : ∃ R, Twice15 Nd d (.n aN y l r) xT xM MO MI I w = R := ⟨_, rfl⟩
  rw [hR] at fin
  rw [hR]
  obtain ⟨po, hpo⟩ : ∃ p, MO.ptr = p := ⟨_, rfl⟩
  obtain ⟨pq, hpq⟩ : ∃ p, MI.ptr = p := ⟨_, rfl⟩
  obtain ⟨pt, hpt⟩ : ∃ p, I.ptr = p := ⟨_, rfl⟩
  rw [hpo] at cMO cW
  rw [hpq] at cMI cL
  rw [hpt] at cTI cL
  obtain ⟨kT, hkT⟩ : ∃ k, xT.k = k := ⟨_, rfl⟩
  obtain ⟨vT, hvT⟩ : ∃ k, xT.v = k := ⟨_, rfl⟩
  rw [hkT] at cTK cL fin
  rw [hvT] at cTV cL fin
  obtain ⟨kM, hkM⟩ : ∃ k, xM.k = k := ⟨_, rfl⟩
  obtain ⟨vM, hvM⟩ : ∃ k, xM.v = k := ⟨_, rfl⟩
  rw [hkM] at cMK cM fin
  rw [hvM] at cMV cM fin
  clear hR hd hNs hT hB0 hN hW0 hg0 hsv hpo hpq hpt hkT hvT hkM hvM ptm
  go_enter Try.func113, Try.ntmps113
  go_wp2_with fail
  rw [HW0.out, HG0.out]
  refine (cO.out _ TS0.out).mono ?_
  rintro e W1 ⟨rfl, hb⟩
  have B1 := Lib.hid (Below.after B0.out hb)
  have j0 : W1.cell? ⟨g0, 0, none⟩ = some (fnV fo) := keep_cell hb k0
  have j1 : W1.cell? ⟨g0, 1, none⟩ = some (fnV fi) := keep_cell hb k1
  have j2 : W1.cell? ⟨g0, 2, none⟩ = some (fnV fm) := keep_cell hb k2
  have NS := Lib.hid (NS0.out.after hN'.out hb)
  have TS := Lib.hid (TS0.out.after hN'.out hb)
  have MS : Hid (Stand Nd W1 (AT.mk d aM xM MO MI)) := Stand.out hN'.out TS.out
  have OS : Hid (Stand Nd W1 MO) := Stand.out hN'.out MS.out
  have QS : Hid (Stand Nd W1 MI) := Stand.inn hN'.out MS.out
  have IS : Hid (Stand Nd W1 I) := Stand.inn hN'.out TS.out
  clear hb k0 k1 k2 NS0 TS0 cO hH0
  go_wp2_with fail
  refine wp_region_held_drew (S := fun W => W.cell? ⟨g0, 0, none⟩ = some (fnV fo) ∧ W.cell? ⟨g0, 1, none⟩ = some (fnV fi) ∧ W.cell? ⟨g0, 2, none⟩ = some (fnV fm) ∧ Below W1.heap.size W1 W) (by kernel_rfl) ⟨j0, j1, j2, (Below.refl _ W1).drew⟩ (fun hS => ?_)
  refine wpAnyH_take (i := 0) (oi := ?dqr3q0) (v := ?dvr3q0) ?hir3q0 (by kernel_rfl) (by kernel_rfl) (by kernel_rfl) ?hQr3q0 (Or.inl ⟨?hwr3q0, ?hyr3q0⟩) hS ?hrr3q0
  case hir3q0 => simp only [List.getElem?_toArray, List.getElem?_cons_zero]; rfl
  case hQr3q0 => exact fun _ _ _ h => h
  case hwr3q0 => rfl
  case hyr3q0 => (intro w hSw; (try dsimp only at hSw); go_simp; (try with_reducible rfl))
  simp only [Act.put, List.setIfInBounds_toArray, List.set_cons_zero, List.set_cons_succ]
  refine wpAnyH_take (i := 1) (oi := ?dqr3q1) (v := ?dvr3q1) ?hir3q1 (by kernel_rfl) (by kernel_rfl) (by kernel_rfl) ?hQr3q1 (Or.inl ⟨?hwr3q1, ?hyr3q1⟩) hS ?hrr3q1
  case hir3q1 => simp only [List.getElem?_toArray, List.getElem?_cons_succ, List.getElem?_cons_zero]; rfl
  case hQr3q1 => exact fun _ _ _ h => h
  case hwr3q1 => rfl
  case hyr3q1 => (intro w hSw; (try dsimp only at hSw); go_simp; (try with_reducible rfl))
  simp only [Act.put, List.setIfInBounds_toArray, List.set_cons_zero, List.set_cons_succ]
  refine wpAnyH_take (i := 2) (oi := ?dqr3q2) (v := ?dvr3q2) ?hir3q2 (by kernel_rfl) (by kernel_rfl) (by kernel_rfl) ?hQr3q2 (Or.inl ⟨?hwr3q2, ?hyr3q2⟩) hS ?hrr3q2
  case hir3q2 => simp only [List.getElem?_toArray, List.getElem?_cons_succ, List.getElem?_cons_zero]; rfl
  case hQr3q2 => exact fun _ _ _ h => h
  case hwr3q2 => rfl
  case hyr3q2 => (intro w hSw; (try dsimp only at hSw); go_simp; (try with_reducible rfl))
  simp only [Act.put, List.setIfInBounds_toArray, List.set_cons_zero, List.set_cons_succ]
  refine wpAnyH_take (i := 3) (oi := ?dqr3q3) (v := ?dvr3q3) ?hir3q3 (by kernel_rfl) (by kernel_rfl) (by kernel_rfl) ?hQr3q3 (Or.inl ⟨?hwr3q3, ?hyr3q3⟩) hS ?hrr3q3
  case hir3q3 => simp only [List.getElem?_toArray, List.getElem?_cons_succ, List.getElem?_cons_zero]; rfl
  case hQr3q3 => exact fun _ _ _ h => h
  case hwr3q3 => rfl
  case hyr3q3 => (intro w hSw; (try dsimp only at hSw); go_simp; (try with_reducible rfl))
  simp only [Act.put, List.setIfInBounds_toArray, List.set_cons_zero, List.set_cons_succ]
  refine wpAnyH_take (i := 4) (oi := ?dqr3q4) (v := ?dvr3q4) ?hir3q4 (by kernel_rfl) (by kernel_rfl) (by kernel_rfl) ?hQr3q4 (Or.inl ⟨?hwr3q4, ?hyr3q4⟩) hS ?hrr3q4
  case hir3q4 => simp only [List.getElem?_toArray, List.getElem?_cons_succ, List.getElem?_cons_zero]; rfl
  case hQr3q4 => exact fun _ _ _ h => h
  case hwr3q4 => rfl
  case hyr3q4 => (intro w hSw; (try dsimp only at hSw); go_simp; (try with_reducible rfl))
  simp only [Act.put, List.setIfInBounds_toArray, List.set_cons_zero, List.set_cons_succ]
  refine wpAnyH_take (i := 5) (oi := ?dqr3q5) (v := ?dvr3q5) ?hir3q5 (by kernel_rfl) (by kernel_rfl) (by kernel_rfl) ?hQr3q5 (Or.inl ⟨?hwr3q5, ?hyr3q5⟩) hS ?hrr3q5
  case hir3q5 => simp only [List.getElem?_toArray, List.getElem?_cons_succ, List.getElem?_cons_zero]; rfl
  case hQr3q5 => exact fun _ _ _ h => h
  case hwr3q5 => rfl
  case hyr3q5 => (intro w hSw; (try dsimp only at hSw); go_simp; (try with_reducible rfl))
  simp only [Act.put, List.setIfInBounds_toArray, List.set_cons_zero, List.set_cons_succ]
  refine wpAnyH_take (i := 6) (oi := ?dqr3q6) (v := ?dvr3q6) ?hir3q6 (by kernel_rfl) (by kernel_rfl) (by kernel_rfl) ?hQr3q6 (Or.inl ⟨?hwr3q6, ?hyr3q6⟩) hS ?hrr3q6
  case hir3q6 => simp only [List.getElem?_toArray, List.getElem?_cons_succ, List.getElem?_cons_zero]; rfl
  case hQr3q6 => exact fun _ _ _ h => h
  case hwr3q6 => rfl
  case hyr3q6 => (intro w hSw; (try dsimp only at hSw); go_simp; (try with_reducible rfl))
  simp only [Act.put, List.setIfInBounds_toArray, List.set_cons_zero, List.set_cons_succ]
  refine wpAnyH_take (i := 9) (oi := ?dqr3q9) (v := ?dvr3q9) ?hir3q9 (by kernel_rfl) (by kernel_rfl) (by kernel_rfl) ?hQr3q9 (Or.inl ⟨?hwr3q9, ?hyr3q9⟩) hS ?hrr3q9
  case hir3q9 => simp only [List.getElem?_toArray, List.getElem?_cons_succ, List.getElem?_cons_zero]; rfl
  case hQr3q9 => exact fun _ _ _ h => h
  case hwr3q9 => rfl
  case hyr3q9 => (intro w hSw; (try dsimp only at hSw); go_simp; (try with_reducible rfl))
  simp only [Act.put, List.setIfInBounds_toArray, List.set_cons_zero, List.set_cons_succ]
  refine wpAnyH_take (i := 11) (oi := ?dqr3q11) (v := ?dvr3q11) ?hir3q11 (by kernel_rfl) (by kernel_rfl) (by kernel_rfl) ?hQr3q11 (Or.inl ⟨?hwr3q11, ?hyr3q11⟩) hS ?hrr3q11
  case hir3q11 => simp only [List.getElem?_toArray, List.getElem?_cons_succ, List.getElem?_cons_zero]; rfl
  case hQr3q11 => exact fun _ _ _ h => h
  case hwr3q11 => rfl
  case hyr3q11 => (intro w hSw; (try dsimp only at hSw); go_simp; (try with_reducible rfl))
  simp only [Act.put, List.setIfInBounds_toArray, List.set_cons_zero, List.set_cons_succ]
  refine wpAnyH_take (i := 13) (oi := ?dqr3q13) (v := ?dvr3q13) ?hir3q13 (by kernel_rfl) (by kernel_rfl) (by kernel_rfl) ?hQr3q13 (Or.inl ⟨?hwr3q13, ?hyr3q13⟩) hS ?hrr3q13
  case hir3q13 => simp only [List.getElem?_toArray, List.getElem?_cons_succ, List.getElem?_cons_zero]; rfl
  case hQr3q13 => exact fun _ _ _ h => h
  case hwr3q13 => rfl
  case hyr3q13 => (intro w hSw; (try dsimp only at hSw); go_simp; (try with_reducible rfl))
  simp only [Act.put, List.setIfInBounds_toArray, List.set_cons_zero, List.set_cons_succ]
  refine wpAnyH_take (i := 14) (oi := ?dqr3q14) (v := ?dvr3q14) ?hir3q14 (by kernel_rfl) (by kernel_rfl) (by kernel_rfl) ?hQr3q14 (Or.inl ⟨?hwr3q14, ?hyr3q14⟩) hS ?hrr3q14
  case hir3q14 => simp only [List.getElem?_toArray, List.getElem?_cons_succ, List.getElem?_cons_zero]; rfl
  case hQr3q14 => exact fun _ _ _ h => h
  case hwr3q14 => rfl
  case hyr3q14 => (intro w hSw; (try dsimp only at hSw); go_simp; (try with_reducible rfl))
  simp only [Act.put, List.setIfInBounds_toArray, List.set_cons_zero, List.set_cons_succ]
  refine wpAnyH_take (i := 15) (oi := ?dqr3q15) (v := ?dvr3q15) ?hir3q15 (by kernel_rfl) (by kernel_rfl) (by kernel_rfl) ?hQr3q15 (Or.inl ⟨?hwr3q15, ?hyr3q15⟩) hS ?hrr3q15
  case hir3q15 => simp only [List.getElem?_toArray, List.getElem?_cons_succ, List.getElem?_cons_zero]; rfl
  case hQr3q15 => exact fun _ _ _ h => h
  case hwr3q15 => rfl
  case hyr3q15 => (intro w hSw; (try dsimp only at hSw); go_simp; (try with_reducible rfl))
  simp only [Act.put, List.setIfInBounds_toArray, List.set_cons_zero, List.set_cons_succ]
  refine wpAnyH_take (i := 16) (oi := ?dqr3q16) (v := ?dvr3q16) ?hir3q16 (by kernel_rfl) (by kernel_rfl) (by kernel_rfl) ?hQr3q16 (Or.inl ⟨?hwr3q16, ?hyr3q16⟩) hS ?hrr3q16
  case hir3q16 => simp only [List.getElem?_toArray, List.getElem?_cons_succ, List.getElem?_cons_zero]; rfl
  case hQr3q16 => exact fun _ _ _ h => h
  case hwr3q16 => rfl
  case hyr3q16 => (intro w hSw; (try dsimp only at hSw); go_simp; (try with_reducible rfl))
  simp only [Act.put, List.setIfInBounds_toArray, List.set_cons_zero, List.set_cons_succ]
  refine wpAnyH_take (i := 17) (oi := ?dqr3q17) (v := ?dvr3q17) ?hir3q17 (by kernel_rfl) (by kernel_rfl) (by kernel_rfl) ?hQr3q17 (Or.inl ⟨?hwr3q17, ?hyr3q17⟩) hS ?hrr3q17
  case hir3q17 => simp only [List.getElem?_toArray, List.getElem?_cons_succ, List.getElem?_cons_zero]; rfl
  case hQr3q17 => exact fun _ _ _ h => h
  case hwr3q17 => rfl
  case hyr3q17 => (intro w hSw; (try dsimp only at hSw); go_simp; (try with_reducible rfl))
  simp only [Act.put, List.setIfInBounds_toArray, List.set_cons_zero, List.set_cons_succ]
  refine wpAnyH_take (i := 19) (oi := ?dqr3q19) (v := ?dvr3q19) ?hir3q19 (by kernel_rfl) (by kernel_rfl) (by kernel_rfl) ?hQr3q19 (Or.inl ⟨?hwr3q19, ?hyr3q19⟩) hS ?hrr3q19
  case hir3q19 => simp only [List.getElem?_toArray, List.getElem?_cons_succ, List.getElem?_cons_zero]; rfl
  case hQr3q19 => exact fun _ _ _ h => h
  case hwr3q19 => rfl
  case hyr3q19 => (intro w hSw; (try dsimp only at hSw); go_simp; (try with_reducible rfl))
  simp only [Act.put, List.setIfInBounds_toArray, List.set_cons_zero, List.set_cons_succ]
  refine wpAnyH_take (i := 21) (oi := ?dqr3q21) (v := ?dvr3q21) ?hir3q21 (by kernel_rfl) (by kernel_rfl) (by kernel_rfl) ?hQr3q21 (Or.inl ⟨?hwr3q21, ?hyr3q21⟩) hS ?hrr3q21
  case hir3q21 => simp only [List.getElem?_toArray, List.getElem?_cons_succ, List.getElem?_cons_zero]; rfl
  case hQr3q21 => exact fun _ _ _ h => h
  case hwr3q21 => rfl
  case hyr3q21 => (intro w hSw; (try dsimp only at hSw); go_simp; (try with_reducible rfl))
  simp only [Act.put, List.setIfInBounds_toArray, List.set_cons_zero, List.set_cons_succ]
  refine wpAnyH_take (i := 23) (oi := ?dqr3q23) (v := ?dvr3q23) ?hir3q23 (by kernel_rfl) (by kernel_rfl) (by kernel_rfl) ?hQr3q23 (Or.inl ⟨?hwr3q23, ?hyr3q23⟩) hS ?hrr3q23
  case hir3q23 => simp only [List.getElem?_toArray, List.getElem?_cons_succ, List.getElem?_cons_zero]; rfl
  case hQr3q23 => exact fun _ _ _ h => h
  case hwr3q23 => rfl
  case hyr3q23 => (intro w hSw; (try dsimp only at hSw); go_simp; (try with_reducible rfl))
  simp only [Act.put, List.setIfInBounds_toArray, List.set_cons_zero, List.set_cons_succ]
  refine wpAnyH_take (i := 24) (oi := ?dqr3q24) (v := ?dvr3q24) ?hir3q24 (by kernel_rfl) (by kernel_rfl) (by kernel_rfl) ?hQr3q24 (Or.inl ⟨?hwr3q24, ?hyr3q24⟩) hS ?hrr3q24
  case hir3q24 => simp only [List.getElem?_toArray, List.getElem?_cons_succ, List.getElem?_cons_zero]; rfl
  case hQr3q24 => exact fun _ _ _ h => h
  case hwr3q24 => rfl
  case hyr3q24 => (intro w hSw; (try dsimp only at hSw); go_simp; (try with_reducible rfl))
  simp only [Act.put, List.setIfInBounds_toArray, List.set_cons_zero, List.set_cons_succ]
  refine wpAnyH_take (i := 25) (oi := ?dqr3q25) (v := ?dvr3q25) ?hir3q25 (by kernel_rfl) (by kernel_rfl) (by kernel_rfl) ?hQr3q25 (Or.inl ⟨?hwr3q25, ?hyr3q25⟩) hS ?hrr3q25
  case hir3q25 => simp only [List.getElem?_toArray, List.getElem?_cons_succ, List.getElem?_cons_zero]; rfl
  case hQr3q25 => exact fun _ _ _ h => h
  case hwr3q25 => rfl
  case hyr3q25 => (intro w hSw; (try dsimp only at hSw); go_simp; (try with_reducible rfl))
  simp only [Act.put, List.setIfInBounds_toArray, List.set_cons_zero, List.set_cons_succ]
  refine wpAnyH_ready (rs := [7]) (by kernel_rfl) (by simp) ?_
  refine AllReadyH.cons (o := ?dqr3q7) ?hir3q7 (fun K hK => ?_) AllReadyH.nil
  case hir3q7 => simp only [List.getElem?_toArray, List.getElem?_cons_succ, List.getElem?_cons_zero]; rfl
  go_simp
  refine (cMO.out _ (MS.out.after hN'.out hS.2.2.2)).mono ?_
  rintro e u1 ⟨rfl, hb1⟩
  have hS2 := (And.intro (keep_cell hb1 hS.1) (And.intro (keep_cell hb1 hS.2.1) (And.intro (keep_cell hb1 hS.2.2.1) (Below.after hS.2.2.2 hb1))))
  clear hS
  refine hK.out _ _ hS2 (fun hS => ?_)
  clear hS2 hK K
  try simp only [Act.put, List.setIfInBounds_toArray, List.set_cons_zero, List.set_cons_succ]
  refine wpAnyH_ready (rs := [8]) (by kernel_rfl) (by simp) ?_
  refine AllReadyH.cons (o := ?dqr3q8) ?hir3q8 (fun K hK => ?_) AllReadyH.nil
  case hir3q8 => simp only [List.getElem?_toArray, List.getElem?_cons_succ, List.getElem?_cons_zero]; rfl
  go_simp
  have Z1 := Lib.hid hS.2.2.2.size
  refine (cW.out _ (NS.out.after hN'.out hS.2.2.2) (OS.out.after hN'.out hS.2.2.2)).mono ?_
  rintro e u2 ⟨a, x, rfl, hx, hxg, hs, ha, hb2⟩
  have HX := Lib.hid hx
  have HXG := Lib.hid hxg
  have HS := Lib.hid hs
  have HA := Lib.hid (Nat.le_trans Z1.out ha)
  clear hx hxg hs ha
  have hS2 := (And.intro (keep_cell hb2 hS.1) (And.intro (keep_cell hb2 hS.2.1) (And.intro (keep_cell hb2 hS.2.2.1) (Below.after hS.2.2.2 hb2))))
  clear hS
  refine hK.out _ _ hS2 (fun hS => ?_)
  clear hS2 hK K
  try simp only [Act.put, List.setIfInBounds_toArray, List.set_cons_zero, List.set_cons_succ]
  refine wpAnyH_ready (rs := [10]) (by kernel_rfl) (by simp) ?_
  refine AllReadyH.cons (o := ?dqr3q10) ?hir3q10 (fun K hK => ?_) AllReadyH.nil
  case hir3q10 => simp only [List.getElem?_toArray, List.getElem?_cons_succ, List.getElem?_cons_zero]; rfl
  go_simp
  refine (cMK.out _ (MS.out.after hN'.out hS.2.2.2)).mono ?_
  rintro e u3 ⟨rfl, rfl⟩
  have hS2 := hS
  clear hS
  refine hK.out _ _ hS2 (fun hS => ?_)
  clear hS2 hK K
  try simp only [Act.put, List.setIfInBounds_toArray, List.set_cons_zero, List.set_cons_succ]
  refine wpAnyH_ready (rs := [12]) (by kernel_rfl) (by simp) ?_
  refine AllReadyH.cons (o := ?dqr3q12) ?hir3q12 (fun K hK => ?_) AllReadyH.nil
  case hir3q12 => simp only [List.getElem?_toArray, List.getElem?_cons_succ, List.getElem?_cons_zero]; rfl
  go_simp
  refine (cMV.out _ (MS.out.after hN'.out hS.2.2.2)).mono ?_
  rintro e u4 ⟨rfl, rfl⟩
  have hS2 := hS
  clear hS
  refine hK.out _ _ hS2 (fun hS => ?_)
  clear hS2 hK K
  try simp only [Act.put, List.setIfInBounds_toArray, List.set_cons_zero, List.set_cons_succ]
  refine wpAnyH_ready (rs := [18]) (by kernel_rfl) (by simp) ?_
  refine AllReadyH.cons (o := ?dqr3q18) ?hir3q18 (fun K hK => ?_) AllReadyH.nil
  case hir3q18 => simp only [List.getElem?_toArray, List.getElem?_cons_succ, List.getElem?_cons_zero]; rfl
  go_simp
  refine (cMI.out _ (MS.out.after hN'.out hS.2.2.2)).mono ?_
  rintro e u5 ⟨rfl, hb5⟩
  have HS5 := Lib.hid (HS.out.after hN'.out hb5)
  have hS2 := (And.intro (keep_cell hb5 hS.1) (And.intro (keep_cell hb5 hS.2.1) (And.intro (keep_cell hb5 hS.2.2.1) (Below.after hS.2.2.2 hb5))))
  clear hS
  refine hK.out _ _ hS2 (fun hS => ?_)
  clear hS2 hK K
  try simp only [Act.put, List.setIfInBounds_toArray, List.set_cons_zero, List.set_cons_succ]
  refine wpAnyH_ready (rs := [20]) (by kernel_rfl) (by simp) ?_
  refine AllReadyH.cons (o := ?dqr3q20) ?hir3q20 (fun K hK => ?_) AllReadyH.nil
  case hir3q20 => simp only [List.getElem?_toArray, List.getElem?_cons_succ, List.getElem?_cons_zero]; rfl
  go_simp
  refine (cTK.out _ (TS.out.after hN'.out hS.2.2.2)).mono ?_
  rintro e u6 ⟨rfl, rfl⟩
  have hS2 := hS
  clear hS
  refine hK.out _ _ hS2 (fun hS => ?_)
  clear hS2 hK K
  try simp only [Act.put, List.setIfInBounds_toArray, List.set_cons_zero, List.set_cons_succ]
  refine wpAnyH_ready (rs := [22]) (by kernel_rfl) (by simp) ?_
  refine AllReadyH.cons (o := ?dqr3q22) ?hir3q22 (fun K hK => ?_) AllReadyH.nil
  case hir3q22 => simp only [List.getElem?_toArray, List.getElem?_cons_succ, List.getElem?_cons_zero]; rfl
  go_simp
  refine (cTV.out _ (TS.out.after hN'.out hS.2.2.2)).mono ?_
  rintro e u7 ⟨rfl, rfl⟩
  have hS2 := hS
  clear hS
  refine hK.out _ _ hS2 (fun hS => ?_)
  clear hS2 hK K
  try simp only [Act.put, List.setIfInBounds_toArray, List.set_cons_zero, List.set_cons_succ]
  refine wpAnyH_ready (rs := [26]) (by kernel_rfl) (by simp) ?_
  refine AllReadyH.cons (o := ?dqr3q26) ?hir3q26 (fun K hK => ?_) AllReadyH.nil
  case hir3q26 => simp only [List.getElem?_toArray, List.getElem?_cons_succ, List.getElem?_cons_zero]; rfl
  go_simp
  refine (cTI.out _ (TS.out.after hN'.out hS.2.2.2)).mono ?_
  rintro e u8 ⟨rfl, hb8⟩
  have HS8 := Lib.hid (HS5.out.after hN'.out hb8)
  have hS2 := (And.intro (keep_cell hb8 hS.1) (And.intro (keep_cell hb8 hS.2.1) (And.intro (keep_cell hb8 hS.2.2.1) (Below.after hS.2.2.2 hb8))))
  clear hS
  refine hK.out _ _ hS2 (fun hS => ?_)
  clear hS2 hK K
  try simp only [Act.put, List.setIfInBounds_toArray, List.set_cons_zero, List.set_cons_succ]
  refine wpAnyH_ready (rs := [27]) (by kernel_rfl) (by simp) ?_
  refine AllReadyH.cons (o := ?dqr3q27) ?hir3q27 (fun K hK => ?_) AllReadyH.nil
  case hir3q27 => simp only [List.getElem?_toArray, List.getElem?_cons_succ, List.getElem?_cons_zero]; rfl
  go_simp
  have Z8 := Lib.hid hS.2.2.2.size
  refine (cL.out _ (QS.out.after hN'.out hS.2.2.2) (IS.out.after hN'.out hS.2.2.2)).mono ?_
  rintro e u9 ⟨c, u, rfl, hu, hs, hc, hb9⟩
  have HU := Lib.hid hu
  have HC := Lib.hid hs
  have HCB := Lib.hid (Nat.le_trans Z8.out hc)
  have HS9 := Lib.hid (HS8.out.after hN'.out hb9)
  clear hu hs hc
  have hS2 := (And.intro (keep_cell hb9 hS.1) (And.intro (keep_cell hb9 hS.2.1) (And.intro (keep_cell hb9 hS.2.2.1) (Below.after hS.2.2.2 hb9))))
  clear hS
  refine hK.out _ _ hS2 (fun hS => ?_)
  clear hS2 hK K
  try simp only [Act.put, List.setIfInBounds_toArray, List.set_cons_zero, List.set_cons_succ]
  refine wpAnyH_ready (rs := [28]) (by kernel_rfl) (by simp) ?_
  refine AllReadyH.cons (o := ?dqr3q28) ?hir3q28 (fun K hK => ?_) AllReadyH.nil
  case hir3q28 => simp only [List.getElem?_toArray, List.getElem?_cons_succ, List.getElem?_cons_zero]; rfl
  go_simp
  have Z9 := Lib.hid hS.2.2.2.size
  refine (cM.out _ a x c u HS9.out HC.out).mono ?_
  rintro e u10 ⟨b, z, rfl, hz, hs, hb, hb10⟩
  have HZ := Lib.hid hz
  have HS10 := Lib.hid hs
  have HB := Lib.hid (Nat.le_trans Z9.out hb)
  clear hz hs hb
  have hS2 := (And.intro (keep_cell hb10 hS.1) (And.intro (keep_cell hb10 hS.2.1) (And.intro (keep_cell hb10 hS.2.2.1) (Below.after hS.2.2.2 hb10))))
  clear hS
  refine hK.out _ _ hS2 (fun hS => ?_)
  clear hS2 hK K
  try simp only [Act.put, List.setIfInBounds_toArray, List.set_cons_zero, List.set_cons_succ]
  refine wpAnyH_take (i := 29) (oi := ?dqr3q29) (v := ?dvr3q29) ?hir3q29 (by kernel_rfl) (by kernel_rfl) (by kernel_rfl) ?hQr3q29 (Or.inl ⟨?hwr3q29, ?hyr3q29⟩) hS ?hrr3q29
  case hir3q29 => simp only [List.getElem?_toArray, List.getElem?_cons_succ, List.getElem?_cons_zero]; rfl
  case hQr3q29 => exact fun _ _ _ h => h
  case hwr3q29 => rfl
  case hyr3q29 => (intro w hSw; (try dsimp only at hSw); go_simp; (try with_reducible rfl))
  simp only [Act.put, List.setIfInBounds_toArray, List.set_cons_zero, List.set_cons_succ]
  refine wpAnyH_done (by kernel_rfl) ?_ _
  go_wp2
  exact fin.out a x b z c u _ HX.out HXG.out HU.out HZ.out HS10.out (Nat.le_trans B1.out.size HA.out) (Nat.le_trans B1.out.size HB.out) (Nat.le_trans B1.out.size HCB.out) (Below.after B1.out hS.2.2.2)
end Go.Proofs.Ytifhnaelkjfmdaa
namespace Go.Proofs.Ytifhnaelkjfmdaa
open Go.RowKit Go.Proofs.Treem Go.Proofs.Cardm
variable {Nd : NdP}

theorem tagA_comm (l r : Tr) : tagA l r = tagA r l := by simp only [tagA, Nat.max_comm]
theorem _root_.Go.Proofs.Treem.Av.node {d : Bool} {a : Addr} {x : No} {O I : AT} {p q : Nat} (hO : Av O.tr p) (hI : Av I.tr q) (hg : x.g = tagA O.tr I.tr) (h1 : p ≤ q + 1) (h2 : q ≤ p + 1) (hf : p ≤ 1000 ∧ q ≤ 1000) : Av (AT.mk d a x O I).tr (max p q + 1) := by
  cases d
  · show Av (.n I.tr x.k x.v x.g O.tr) _
    rw [hg, tagA_comm, Nat.max_comm]
    exact hI.make hO x.k x.v h2 h1 ⟨hf.2, hf.1⟩
  · show Av (.n O.tr x.k x.v x.g I.tr) _
    rw [hg]
    exact hO.make hI x.k x.v h1 h2 hf
theorem _root_.Go.Proofs.Treem.Av.apart {d : Bool} {a : Addr} {x : No} {O I : AT} {h : Nat} (t : Av (AT.mk d a x O I).tr h) : ∃ p q, Av O.tr p ∧ Av I.tr q ∧ h = max p q + 1 ∧ p ≤ q + 1 ∧ q ≤ p + 1 := by
  cases d
  · obtain ⟨p, q, h1, h2, h3, h4, h5, -⟩ := Av.parts (l := I.tr) (r := O.tr) t
    exact ⟨q, p, h2, h1, by omega, h5, h4⟩
  · obtain ⟨p, q, h1, h2, h3, h4, h5, -⟩ := Av.parts (l := O.tr) (r := I.tr) t
    exact ⟨p, q, h1, h2, h3, h4, h5⟩
theorem _root_.Go.Proofs.Treem.Av.same {t : Tr} {p q : Nat} (h : Av t p) (k : Av t q) : p = q := by rw [← h.high, k.high]
/-- heights on the way inward -/
theorem Way.av {d : Bool} {H : AT} {h : Nat} (hH : Av H.tr h) : ∀ {ps : List AT} {T : AT}, Way d H ps T → ∃ q, Av T.tr q ∧ q + ps.length ≤ h
  | [], T, e => by
    obtain rfl : T = H := e
    exact ⟨h, hH, Nat.le_refl _⟩
  | N :: ps, T, ⟨⟨a, x, O, e⟩, k⟩ => by
    obtain ⟨q, h1, h2⟩ := k.av hH
    rw [e] at h1
    obtain ⟨p, q', -, k2, k3, -, -⟩ := h1.apart
    refine ⟨q', k2, ?_⟩
    rw [List.length_cons]; omega
/-- how far the way goes: as long as what is there is higher by 2 than the lower tree -/
theorem Way.far {d : Bool} {H : AT} {h lw : Nat} (hH : Av H.tr h) {N : AT} {ps : List AT} {T : AT} (hw : Way d H (N :: ps) T) (hn : lw + 2 ≤ N.tr.tag.toNat) : (N :: ps).length + lw + 1 ≤ h ∧ ∃ q, Av T.tr q ∧ lw ≤ q := by
  obtain ⟨⟨a, x, O, e⟩, k⟩ := hw
  obtain ⟨q, h1, h2⟩ := k.av hH
  rw [h1.tag] at hn
  rw [e] at h1
  obtain ⟨p, q', -, k2, k3, k4, k5⟩ := h1.apart
  refine ⟨?_, q', k2, by omega⟩
  rw [List.length_cons]; omega
/-- what stands in the place of M: a tree that may be, as high, or one higher, of M's pairs, the pair, and those of the lower tree -/
structure Rep (d : Bool) (H L : AT) (k v : BitVec 64) (base : List Addr) (ps : List AT) (M T : AT) (c : Nat) : Prop where
  way : Way d H ps M
  made : ∃ a x O I p q, T = AT.mk d a x O I ∧ a ∉ base ∧ Av O.tr p ∧ Av I.tr q ∧ Av T.tr (max p q + 1) ∧ p ≤ q + 1 ∧ q ≤ p + 1 ∧ ∃ m, Av M.tr m ∧ (max p q + 1 = m ∨ (max p q + 1 = m + 1 ∧ (p = q → ∀ N r, ps = N :: r → Av (N.side d).tr (m + 1))))
  pairs : prD d T.tr = prD d M.tr ++ (k, v) :: prD d L.tr
  few : freshS base T ≤ c + 1
/-- what comes of it, once no turn is left to be made -/
structure Fin (d : Bool) (H L : AT) (k v : BitVec 64) (base : List Addr) (n : Nat) (ps : List AT) (M T : AT) (c : Nat) : Prop where
  way : Way d H ps M
  made : ∃ a x O I t m, T = AT.mk d a x O I ∧ a ∉ base ∧ Av T.tr t ∧ Av M.tr m ∧ (t = m ∨ (t = m + 1 ∧ ps = []))
  pairs : prD d T.tr = prD d M.tr ++ (k, v) :: prD d L.tr
  few : freshS base T ≤ c + 2 ∧ (freshS base T ≤ c + 1 ∨ 1 ≤ n)
/-- the beginning -/
theorem Rep.start {d : Bool} {H L : AT} {k v : BitVec 64} {base : List Addr} {ps : List AT} {M : AT} {a : Addr} {x : No} {h lw : Nat} (hH : Av H.tr h) (hL : Av L.tr lw) (hh : lw ≤ h) (hb : h ≤ 900) (hw : Way d H ps M) (hps : ∀ N ∈ ps, lw + 2 ≤ N.tr.tag.toNat) (hM : M.tr.tag.toNat ≤ lw + 1)
    (hx : x.k = k ∧ x.v = v ∧ x.g = tagA M.tr L.tr) (ha : a ∉ base) (oH : ∀ b ∈ H.addrs, b ∈ base) (oL : ∀ b ∈ L.addrs, b ∈ base) : Rep d H L k v base ps M (AT.mk d a x M L) 0 := by
  obtain ⟨m, hm, hml⟩ := hw.av hH
  rw [hm.tag] at hM
  have hlo : lw ≤ m := by
    cases ps with
    | nil =>
      obtain rfl : M = H := hw
      rw [hm.same hH]; exact hh
    | cons N r =>
      obtain ⟨-, q, h1, h2⟩ := Way.far hH hw (hps N (List.mem_cons_self ..))
      rw [hm.same h1]; exact h2
  refine ⟨hw, ⟨a, x, M, L, m, lw, rfl, ha, hm, hL, hm.node hL hx.2.2 (by omega) (by omega) (by omega), by omega, by omega, m, hm, .inr ⟨by omega, ?_⟩⟩, ?_, ?_⟩
  · intro e N r er
    subst er
    have hn := hps N (List.mem_cons_self ..)
    obtain ⟨⟨aN, xN, O, eN⟩, kN⟩ := hw
    obtain ⟨q, h1, -⟩ := kN.av hH
    rw [h1.tag] at hn
    rw [eN] at h1
    obtain ⟨p, q', k1, k2, k3, k4, k5⟩ := h1.apart
    have := k2.same hm
    rw [eN, AT.mk_out]
    rwa [show m + 1 = p by omega]
  · rw [prD_mk, hx.1, hx.2.1]
  · rw [freshS_mk, freshS_old (J := M) (fun b hb => oH b (hw.old.1 b hb)), freshS_old oL, if_neg ha]; omega
/-- a node on the way, of another inner side -/
theorem Rep.with_ {d : Bool} {H L : AT} {k v : BitVec 64} {base : List Addr} {N : AT} {ps : List AT} {M T : AT} {c : Nat} {h : Nat} (hH : Av H.tr h) (hb : h ≤ 900) (r : Rep d H L k v base (N :: ps) M T c) (ht : T.tr.tag.toNat ≤ (N.side d).tr.tag.toNat + 1) {a : Addr} {x : No} (hx : ∀ b y l r, N = .n b y l r → x.k = y.k ∧ x.v = y.v) (hg : x.g = tagA (N.side d).tr T.tr) (ha : a ∉ base) (oH : ∀ b ∈ H.addrs, b ∈ base) :
    Rep d H L k v base ps N (AT.mk d a x (N.side d) T) (c + 1) := by
  obtain ⟨hw, ⟨aT, xT, O, I, p, q, -, -, hO, hI, hT, hpq, hqp, m, hm, htm⟩, hp, hf⟩ := r
  obtain ⟨⟨aN, xN, ON, eN⟩, kN⟩ := hw
  obtain ⟨n, h1, h2⟩ := kN.av hH
  have oN : ∀ b ∈ ON.addrs, b ∈ base := fun b hb => oH b (kN.old.1 b (eN ▸ AT.mem_mk.2 (.inr (.inl hb))))
  subst eN
  rw [AT.mk_out] at ht hg ⊢
  obtain ⟨o, m', k1, k2, k3, k4, k5⟩ := h1.apart
  obtain rfl := k2.same hm
  rw [hT.tag, k1.tag] at ht
  refine ⟨kN, ⟨a, x, ON, T, o, max p q + 1, rfl, ha, k1, hT, k1.node hT hg (by omega) (by omega) (by omega), by omega, by omega, n, h1, ?_⟩, ?_, ?_⟩
  · by_cases hc : max o (max p q + 1) + 1 = n
    · exact .inl hc
    · exact .inr ⟨by omega, fun e => by omega⟩
  · obtain ⟨e1, e2⟩ := hx aN xN _ _ rfl
    rw [prD_mk, prD_mk, hp, e1, e2]; simp
  · rw [freshS_mk, freshS_old oN, if_neg ha]; omega
theorem Rep.fin {d : Bool} {H L : AT} {k v : BitVec 64} {base : List Addr} {M T : AT} {c n : Nat} (r : Rep d H L k v base [] M T c) : Fin d H L k v base n [] M T c := by
  obtain ⟨hw, ⟨aT, xT, O, I, p, q, e, ha, hO, hI, hT, hpq, hqp, m, hm, htm⟩, hp, hf⟩ := r
  exact ⟨hw, ⟨aT, xT, O, I, _, m, e, ha, hT, hm, htm.imp id fun h => ⟨h.1, rfl⟩⟩, hp, by omega, .inl hf⟩
/-- where a turn is to be made -/
theorem Rep.turns {d : Bool} {H L : AT} {k v : BitVec 64} {base : List Addr} {N : AT} {ps : List AT} {M T : AT} {c : Nat} {h : Nat} (hH : Av H.tr h) (r : Rep d H L k v base (N :: ps) M T c) (ht : ¬ T.tr.tag.toNat ≤ (N.side d).tr.tag.toNat + 1) :
    ∃ aT xT O I o, T = AT.mk d aT xT O I ∧ aT ∉ base ∧ Av (N.side d).tr o ∧ Av N.tr (o + 2) ∧ ((O.tr.tag.toNat ≤ I.tr.tag.toNat ∧ Av O.tr o ∧ Av I.tr (o + 1)) ∨ (I.tr.tag.toNat < O.tr.tag.toNat ∧ Av O.tr (o + 1) ∧ Av I.tr o)) := by
  obtain ⟨hw, ⟨aT, xT, O, I, p, q, eT, haT, hO, hI, hT, hpq, hqp, m, hm, htm⟩, hp, hf⟩ := r
  obtain ⟨⟨aN, xN, ON, eN⟩, kN⟩ := hw
  obtain ⟨n, h1, h2⟩ := kN.av hH
  subst eN
  rw [AT.mk_out] at ht ⊢
  obtain ⟨o, m', k1, k2, k3, k4, k5⟩ := h1.apart
  obtain rfl := k2.same hm
  rw [hT.tag, k1.tag] at ht
  refine ⟨aT, xT, O, I, o, eT, haT, k1, by rwa [show o + 2 = n by omega], ?_⟩
  have hne : p ≠ q := fun e => by
    rcases htm with h | ⟨h, hl⟩
    · omega
    · have := (hl e _ _ rfl)
      rw [AT.mk_out] at this
      have := this.same k1
      omega
  rw [hO.tag, hI.tag]
  rcases Nat.lt_or_gt_of_ne hne with h | h
  · exact .inl ⟨by omega, by rwa [show o = p by omega], by rwa [show o + 1 = q by omega]⟩
  · exact .inr ⟨by omega, by rwa [show o + 1 = p by omega], by rwa [show o = q by omega]⟩
theorem Rep.once {d : Bool} {H L : AT} {k v : BitVec 64} {base : List Addr} {N : AT} {ps : List AT} {M O I : AT} {c h o n : Nat} {aT : Addr} {xT : No} (hb : h ≤ 900) (ho : o ≤ h) (r : Rep d H L k v base (N :: ps) M (AT.mk d aT xT O I) c) (haT : aT ∉ base)
    (k1 : Av (N.side d).tr o) (k2 : Av N.tr (o + 2)) (k3 : Av O.tr o) (k4 : Av I.tr (o + 1)) {a b : Addr} {x y : No} (hx : ∀ b' y' l r, N = .n b' y' l r → x.k = y'.k ∧ x.v = y'.v) (hg : x.g = tagA (N.side d).tr O.tr) (hy : y.k = xT.k ∧ y.v = xT.v ∧ y.g = tagA (AT.mk d a x (N.side d) O).tr I.tr) (hab : a ∉ base ∧ b ∉ base) (oH : ∀ b ∈ H.addrs, b ∈ base) :
    Fin d H L k v base (n + 1) ps N (AT.mk d b y (AT.mk d a x (N.side d) O) I) (c + 1) := by
  obtain ⟨hw, -, hp, hf⟩ := r
  obtain ⟨⟨aN, xN, ON, eN⟩, kN⟩ := hw
  have oN : ∀ b ∈ ON.addrs, b ∈ base := fun b hb => oH b (kN.old.1 b (eN ▸ AT.mem_mk.2 (.inr (.inl hb))))
  subst eN
  rw [AT.mk_out] at k1 hg hy ⊢
  have j1 : Av (AT.mk d a x ON O).tr (o + 1) := by
    have := k1.node (d := d) (a := a) k3 hg (by omega) (by omega) (by omega)
    rwa [Nat.max_self] at this
  have j2 : Av (AT.mk d b y (AT.mk d a x ON O) I).tr (o + 2) := by
    have := j1.node (d := d) (a := b) k4 hy.2.2 (by omega) (by omega) (by omega)
    rwa [Nat.max_self] at this
  obtain ⟨e1, e2⟩ := hx aN xN _ _ rfl
  refine ⟨kN, ⟨b, y, _, I, o + 2, o + 2, rfl, hab.2, j2, k2, .inl rfl⟩, ?_, ?_, .inr (by omega)⟩
  · rw [prD_mk] at hp
    rw [prD_mk, prD_mk, prD_mk, e1, e2, hy.1, hy.2.1]
    simp only [List.append_assoc, List.cons_append]
    rw [hp]
  · rw [freshS_mk, if_neg haT] at hf
    rw [freshS_mk, freshS_mk, freshS_old oN, if_neg hab.1, if_neg hab.2]
    omega
theorem Rep.twice {d : Bool} {H L : AT} {k v : BitVec 64} {base : List Addr} {N : AT} {ps : List AT} {M MO MI I : AT} {c h o n : Nat} {aT aM : Addr} {xT xM : No} (hb : h ≤ 900) (ho : o ≤ h) (r : Rep d H L k v base (N :: ps) M (AT.mk d aT xT (AT.mk d aM xM MO MI) I) c) (haT : aT ∉ base)
    (k1 : Av (N.side d).tr o) (k2 : Av N.tr (o + 2)) (k3 : Av (AT.mk d aM xM MO MI).tr (o + 1)) (k4 : Av I.tr o) {a b e : Addr} {x y z : No} (hx : ∀ b' y' l r, N = .n b' y' l r → x.k = y'.k ∧ x.v = y'.v) (hg : x.g = tagA (N.side d).tr MO.tr) (hz : z.k = xT.k ∧ z.v = xT.v ∧ z.g = tagA MI.tr I.tr)
    (hy : y.k = xM.k ∧ y.v = xM.v ∧ y.g = tagA (AT.mk d a x (N.side d) MO).tr (AT.mk d e z MI I).tr) (hab : a ∉ base ∧ b ∉ base ∧ e ∉ base) (oH : ∀ b ∈ H.addrs, b ∈ base) :
    Fin d H L k v base (n + 1) ps N (AT.mk d b y (AT.mk d a x (N.side d) MO) (AT.mk d e z MI I)) (c + 1) := by
  obtain ⟨hw, -, hp, hf⟩ := r
  obtain ⟨⟨aN, xN, ON, eN⟩, kN⟩ := hw
  have oN : ∀ b ∈ ON.addrs, b ∈ base := fun b hb => oH b (kN.old.1 b (eN ▸ AT.mem_mk.2 (.inr (.inl hb))))
  subst eN
  rw [AT.mk_out] at k1 hg hy ⊢
  obtain ⟨s, t, i1, i2, i3, i4, i5⟩ := k3.apart
  have j1 : Av (AT.mk d a x ON MO).tr (o + 1) := by
    have := k1.node (d := d) (a := a) i1 hg (by omega) (by omega) (by omega)
    rwa [show max o s = o by omega] at this
  have j3 : Av (AT.mk d e z MI I).tr (o + 1) := by
    have := i2.node (d := d) (a := e) k4 hz.2.2 (by omega) (by omega) (by omega)
    rwa [show max t o = o by omega] at this
  have j2 : Av (AT.mk d b y (AT.mk d a x ON MO) (AT.mk d e z MI I)).tr (o + 2) := by
    have := j1.node (d := d) (a := b) j3 hy.2.2 (by omega) (by omega) (by omega)
    rwa [Nat.max_self] at this
  obtain ⟨e1, e2⟩ := hx aN xN _ _ rfl
  refine ⟨kN, ⟨b, y, _, _, o + 2, o + 2, rfl, hab.2.1, j2, k2, .inl rfl⟩, ?_, ?_, .inr (by omega)⟩
  · rw [prD_mk, prD_mk] at hp
    rw [prD_mk, prD_mk, prD_mk, prD_mk, e1, e2, hy.1, hy.2.1, hz.1, hz.2.1]
    simp only [List.append_assoc, List.cons_append] at hp ⊢
    rw [hp]
  · rw [freshS_mk, freshS_mk, if_neg haT] at hf
    rw [freshS_mk, freshS_mk, freshS_mk, freshS_old oN, if_neg hab.1, if_neg hab.2.1, if_neg hab.2.2]
    have : freshS base MO + freshS base MI ≤ freshS base MO + (if aM ∈ base then 0 else 1) + freshS base MI := by omega
    omega
/-- behind the turn: a node on the way, of another inner side -/
theorem Fin.with_ {d : Bool} {H L : AT} {k v : BitVec 64} {base : List Addr} {N : AT} {ps : List AT} {M T : AT} {c n : Nat} {h : Nat} (hH : Av H.tr h) (hb : h ≤ 900) (r : Fin d H L k v base n (N :: ps) M T c) {a : Addr} {x : No} (hx : ∀ b y l r, N = .n b y l r → x.k = y.k ∧ x.v = y.v) (hg : x.g = tagA (N.side d).tr T.tr) (ha : a ∉ base) (oH : ∀ b ∈ H.addrs, b ∈ base) :
    Fin d H L k v base n ps N (AT.mk d a x (N.side d) T) (c + 1) := by
  obtain ⟨hw, ⟨aT, xT, O, I, t, m, -, -, hT, hm, htm⟩, hp, hf⟩ := r
  obtain ⟨⟨aN, xN, ON, eN⟩, kN⟩ := hw
  obtain ⟨nn, h1, h2⟩ := kN.av hH
  have oN : ∀ b ∈ ON.addrs, b ∈ base := fun b hb => oH b (kN.old.1 b (eN ▸ AT.mem_mk.2 (.inr (.inl hb))))
  subst eN
  rw [AT.mk_out] at hg ⊢
  obtain ⟨o, m', k1, k2, k3, k4, k5⟩ := h1.apart
  obtain rfl := k2.same hm
  obtain rfl : t = m' := htm.elim id fun h => by cases h.2
  refine ⟨kN, ⟨a, x, ON, T, _, nn, rfl, ha, k1.node hT hg (by omega) (by omega) (by omega), h1, .inl k3.symm⟩, ?_, ?_⟩
  · obtain ⟨e1, e2⟩ := hx aN xN _ _ rfl
    rw [prD_mk, prD_mk, hp, e1, e2]; simp
  · rw [freshS_mk, freshS_old oN, if_neg ha]; omega
/-- the end -/
theorem Fin.done {d : Bool} {H L : AT} {k v : BitVec 64} {base : List Addr} {M T : AT} {n h lw : Nat} (hH : Av H.tr h) (hh : lw ≤ h) (hn : n = 0 ∨ n + lw + 1 ≤ h) (r : Fin d H L k v base n [] M T n) :
    errA T.tr = 0 ∧ prD d T.tr = prD d H.tr ++ (k, v) :: prD d L.tr ∧ (T.tr.tag.toNat = h ∨ T.tr.tag.toNat = h + 1) ∧ 1 ≤ newC T.addrs base ∧ newC T.addrs base ≤ h - lw + 1 := by
  obtain ⟨hw, ⟨aT, xT, O, I, t, m, e, ha, hT, hm, htm⟩, hp, hf⟩ := r
  obtain rfl : M = H := hw
  obtain rfl := hm.same hH
  refine ⟨hT.err, hp, ?_, ?_, ?_⟩
  · rw [hT.tag]; exact htm.imp id And.left
  · rw [e]; exact new_root ha _ _ _
  · have := new_le_S base T
    omega
end Go.Proofs.Ytifhnaelkjfmdaa
