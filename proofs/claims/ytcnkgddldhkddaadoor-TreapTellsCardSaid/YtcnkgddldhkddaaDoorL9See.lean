/- Layer 9: what a tree tells of itself (see, See, Is). -/
import Derived.Test.YtcnkgddldhkddaaDoorL9Make
namespace Go.Proofs.YtcnkgddldhkddaaDoor
open Go.RowKit Go.Proofs.Treem
variable {Nd : NdP}

set_option maxHeartbeats 8000000 in
theorem see9 (hN : NodeSays Nd) (base B : Nat) (hBb : B ≤ base) : ∀ (t : Tr) (p : Option Addr) (v : Value) (n d : Nat) (L : List Bd) (zd : Int), zd = (d : Int) → n + t.size ≤ 5000 → d + t.size ≤ 2000 → ∀ w : World, base ≤ w.heap.size → TreeAt Nd w B t p → w.ownsRow base 52 7 v n (flat7 L) →
    Calls Tryd.prog 55 #[.pointer p, v, .int .i64 zd] w fun e w' => ∃ v', e = .returned (.tuple #[v', .bool true]) ∧ w'.ownsRow base 52 7 v' (n + t.size) (flat7 (L ++ t.told)) ∧ Below base w w' := by
  intro t
  induction t with
  | e =>
    intro p v n d L zd hzd h5 h2 w hb hT ho
    obtain rfl : p = none := hT
    have e1 : L ++ Tr.told .e = L := List.append_nil L
    rw [e1]
    have ho' := Lib.hid ho
    clear ho h5 h2 hzd e1
    go_enter Tryd.func55, Tryd.ntmps55
    go_wp2
    go_ret2
    exact ⟨_, rfl, ho'.out, Below.refl _ _⟩
  | n tl k vv g tr ihl ihr =>
    intro p v n d L zd hzd h5 h2 w hb hT ho
    subst hzd
    obtain ⟨a, pl, pr, rfl, hnd, hTl, hTr⟩ := hT
    obtain ⟨A, c, rfl, -, -, -⟩ := own_slice ho
    obtain ⟨i, hi⟩ : ∃ i, tl.size = i := ⟨_, rfl⟩
    obtain ⟨j, hj⟩ : ∃ j, tr.size = j := ⟨_, rfl⟩
    have hsz : (Tr.n tl k vv g tr).size = 1 + i + j := by rw [Tr.size, hi, hj]
    rw [hsz] at h5 h2 ⊢
    rw [hi, hj] at hnd
    have hL := Lib.hid (fun v n d L zd hzd h5 h2 w hb ho hT => ihl pl v n d L zd hzd (hi ▸ h5) (hi ▸ h2) w hb hT ho)
    have hR := Lib.hid (fun v n d L zd hzd h5 h2 w hb ho hT => ihr pr v n d L zd hzd (hj ▸ h5) (hj ▸ h2) w hb hT ho)
    rw [hi] at hL
    rw [hj] at hR
    have hdisL := hTl.is
    have hdisR := hTr.is
    obtain ⟨m, hm⟩ : ∃ m, BitVec.ofNat 64 (1 + i + j) = m := ⟨_, rfl⟩
    obtain ⟨q, hq⟩ : ∃ q, tl.sum + vv + tr.sum = q := ⟨_, rfl⟩
    rw [hm, hq] at hnd
    have d1 : decide ((5000 : Int) < (n : Int)) = false := decide_eq_false (by omega)
    have d2 : decide ((2000 : Int) < (d : Int)) = false := decide_eq_false (by omega)
    have hnd' := Lib.hid hnd
    have hN' := Lib.hid hN
    have ho' := Lib.hid ho
    have hTl' := Lib.hid hTl
    have hTr' := Lib.hid hTr
    have hm' := Lib.hid hm
    have hq' := Lib.hid hq
    have hi' := Lib.hid hi
    have hj' := Lib.hid hj
    have hdL := Lib.hid hdisL
    have hdR := Lib.hid hdisR
    clear ihl ihr hsz hnd hN ho hTl hTr hm hq hi hj hdisL hdisR
    obtain ⟨i0, hin, e0⟩ : ∃ i0, Tryd.prog.info? 52 = some i0 ∧ (i0.zero, i0.size, i0.bytes) = (some (.agg #[.int .i64 0, .int .i64 0, .int .i64 0, .int .i64 0, .int .u64 0, .bool false, .bool false]), 7, 48) := by
      have hi0 := info_bead
      cases hh : Tryd.prog.info? 52 with
      | none => rw [hh] at hi0; cases hi0
      | some i0 => rw [hh] at hi0; exact ⟨i0, rfl, Option.some.inj hi0⟩
    have hz0 : i0.zero = some (.agg #[.int .i64 0, .int .i64 0, .int .i64 0, .int .i64 0, .int .u64 0, .bool false, .bool false]) := congrArg Prod.fst e0
    have hz1 : i0.size = 7 := congrArg (fun q => q.2.1) e0
    have hz2 : i0.bytes = 48 := congrArg (fun q => q.2.2) e0
    clear e0
    have o0 := Lib.hid (ho'.out.alloc (.cells #[K k, K vv, K q, K m, G64 g, .bool pl.isSome, .bool pr.isSome] 52))
    have b0 := Lib.hid ((Below.refl base w).alloc hb (.cells #[K k, K vv, K q, K m, G64 g, .bool pl.isSome, .bool pr.isSome] 52))
    have ro0 : Hid (Row (w.alloc (.cells #[K k, K vv, K q, K m, G64 g, .bool pl.isSome, .bool pr.isSome] 52)) (w.heap.size + 1) (some ⟨w.heap.size, 0, none⟩) (flat7 [⟨k, vv, q, m, g, pl.isSome, pr.isSome⟩])) := by have := (Has.new w 52 #[K k, K vv, K q, K m, G64 g, .bool pl.isSome, .bool pr.isSome]).row; rw [World.size_alloc] at this; exact this
    go_enter Tryd.func55, Tryd.ntmps55
    go_wp2_with (first
      | (go_at_call 28; (with_reducible refine (hN'.out.key _ _ _ _ hnd'.out).mono ?_); rintro e w' ⟨rfl, rfl⟩)
      | (go_at_call 51; (with_reducible refine (hN'.out.val _ _ _ _ hnd'.out).mono ?_); rintro e w' ⟨rfl, rfl⟩)
      | (go_at_call 37; (with_reducible refine (hN'.out.tag _ _ _ _ hnd'.out).mono ?_); rintro e w' ⟨rfl, rfl⟩)
      | (go_at_call 33; (with_reducible refine (hN'.out.size _ _ _ _ hnd'.out).mono ?_); rintro e w' ⟨rfl, rfl⟩)
      | (go_at_call 40; (with_reducible refine (hN'.out.sum _ _ _ _ hnd'.out).mono ?_); rintro e w' ⟨rfl, rfl⟩)
      | (go_at_call 29; (with_reducible refine (hN'.out.left _ _ _ _ hnd'.out).mono ?_); rintro e w' ⟨rfl, rfl⟩)
      | (go_at_call 30; (with_reducible refine (hN'.out.right _ _ _ _ hnd'.out).mono ?_); rintro e w' ⟨rfl, rfl⟩)
      | (at_builtin; refine wpList_append_row rfl _ _ 22 rfl base 52 i0 (.agg #[.int .i64 0, .int .i64 0, .int .i64 0, .int .i64 0, .int .u64 0, .bool false, .bool false]) 7 48 Tryd.underlying22 hin hz0 hz1 hz2 rfl (by decide) (.slice A n c) n (flat7 L) rfl o0.out (some ⟨w.heap.size, 0, none⟩) 1 1 (flat7 [⟨k, vv, q, m, g, pl.isSome, pr.isSome⟩]) rfl (by simp) (Nat.le_refl _) rfl (w.heap.size + 1) ro0.out (flat7_one _) (by unfold maxLen; omega) (by omega) (Nat.le_trans hb b0.out.size) ?_)
      | fail)
    intro v1 w1 hown hgrow
    have o1 : Hid (w1.ownsRow base 52 7 v1 (n + 1) (flat7 (L ++ [⟨k, vv, q, m, g, pl.isSome, pr.isSome⟩]))) := by show w1.ownsRow _ _ _ _ _ _; rw [flat7_append]; exact hown
    have b1 := Lib.hid (b0.out.grown hgrow (Nat.le_trans hb b0.out.size) (fun r e => (o0.out.lt r e).1))
    clear hown hgrow o0 b0 ro0
    have s1 : base ≤ w1.heap.size := Nat.le_trans hb b1.out.size
    go_wp2_with (first
      | (go_at_call 29; (with_reducible refine (hN'.out.left _ _ _ _ (hN'.out.next hnd'.out (b1.out.mono hBb))).mono ?_); rintro e w' ⟨rfl, rfl⟩)
      | fail)
    refine (hL.out v1 (n + 1) (d + 1) _ _ (by simp) (by omega) (by omega) w1 s1 o1.out (hTl'.out.next hN'.out (b1.out.mono hBb))).mono ?_
    rintro e w2 ⟨v2, rfl, ho2, hb2⟩
    have o2 := Lib.hid ho2
    have b2 := Lib.hid (b1.out.trans hb2)
    have s2 : base ≤ w2.heap.size := Nat.le_trans hb b2.out.size
    clear ho2 hb2 o1 b1 s1 hL
    go_wp2_with (first
      | (go_at_call 30; (with_reducible refine (hN'.out.right _ _ _ _ (hN'.out.next hnd'.out (b2.out.mono hBb))).mono ?_); rintro e w' ⟨rfl, rfl⟩)
      | fail)
    refine (hR.out v2 (n + 1 + i) (d + 1) _ _ (by simp) (by omega) (by omega) w2 s2 o2.out (hTr'.out.next hN'.out (b2.out.mono hBb))).mono ?_
    rintro e w3 ⟨v3, rfl, ho3, hb3⟩
    have o3 := Lib.hid ho3
    have b3 := Lib.hid (b2.out.trans hb3)
    clear ho3 hb3 o2 b2 s2 hR
    go_wp2
    go_ret2
    refine ⟨v3, rfl, ?_, b3.out⟩
    have e1 : L ++ Tr.told (.n tl k vv g tr) = L ++ [⟨k, vv, q, m, g, pl.isSome, pr.isSome⟩] ++ tl.told ++ tr.told := by
      rw [Tr.told, hi'.out, hj'.out, hm'.out, hq'.out, ← hdL.out, ← hdR.out, List.append_assoc, List.append_assoc]; rfl
    have e2 : n + (1 + i + j) = n + 1 + i + j := by omega
    rw [e1, e2]
    exact o3.out

theorem told_zero (t : Tr) : [] ++ t.told = t.told := rfl
/-- what a tree tells of itself -/
theorem See9 (hN : NodeSays Nd) (t : Tr) (p : Option Addr) (h2 : t.size ≤ 2000) (w : World) (hT : TreeAt Nd w w.heap.size t p) :
    Calls Tryd.prog 44 #[.pointer p] w fun e w' => ∃ v', e = .returned (.tuple #[v', .bool true]) ∧ w'.ownsRow w.heap.size 52 7 v' t.size (flat7 t.told) ∧ Below w.heap.size w w' := by
  have h0 := see9 hN w.heap.size w.heap.size (Nat.le_refl _) t p (.slice none 0 0) 0 0 [] 0 rfl (by omega) (by omega) w (Nat.le_refl _) hT (World.ownsRow_nil _ _ _ _)
  rw [told_zero, Nat.zero_add] at h0
  have c0 := Lib.hid h0
  clear h0 h2 hT hN
  go_enter Tryd.func44, Tryd.ntmps44
  go_wp2_with (go_at_call 55; refine c0.out.mono ?_; rintro e w' ⟨v', rfl, o1, b1⟩)
  go_ret2
  exact ⟨v', rfl, o1, b1⟩
/-- a tree is just that of its beads -/
theorem Is9 (hN : NodeSays Nd) (t : Tr) (p : Option Addr) (h2 : t.size ≤ 2000) (A : Option Addr) (n c : Nat) (hn : t.size = n) (w : World) (hT : TreeAt Nd w w.heap.size t p) (hl : LieB w w.heap.size A n c t.told) :
    Calls Tryd.prog 23 #[.pointer p, .slice A n c] w fun e w' => e = .returned (.bool true) ∧ Below w.heap.size w w' := by
  have c0 := Lib.hid (See9 hN t p h2 w hT)
  rw [hn] at c0
  have hl' := Lib.hid hl
  have ht := Lib.hid ((told_len t).trans hn)
  have hn6 : n ≤ 6000 := by omega
  clear h2 hT hN hl hn
  go_enter Tryd.func23, Tryd.ntmps23
  go_wp2_with fail
  refine c0.out.mono ?_
  rintro e w1 ⟨v1, rfl, o1, b1⟩
  obtain ⟨A1, c1, rfl, q1⟩ := LieB.of_own ht.out hn6 o1
  have q1' := Lib.hid q1
  have b1' := Lib.hid b1
  clear q1 b1 o1 c0
  go_wp2_with (go_at_call 45; refine (same9_yes _ _ _ _ _ _ _ q1'.out ((hl'.out.next b1'.out).more b1'.out.size)).mono ?_; rintro e w2 ⟨rfl, b2⟩)
  go_ret
  exact ⟨rfl, Below.after b1'.out b2⟩
end Go.Proofs.YtcnkgddldhkddaaDoor
