/- Layer 11, as landed: Same. -/
import Derived.Test.YtlhnjgmjkoafpaaDoorJM
import Derived.Test.YtlhnjgmjkoafpaaDoorL9Says
import Derived.Test.YtlhnjgmjkoafpaaDoorL9Same
import Derived.Test.YtlhnjgmjkoafpaaDoorGApp
import Derived.Test.YtlhnjgmjkoafpaaDoorGOwn
import Derived.Laws.OwnMore
import Derived.Deep.LoopGhost
import Derived.Test.YtlhnjgmjkoafpaaDoorL9Rules
import Derived.Test.YtlhnjgmjkoafpaaDoorGHeld
import Derived.Deep.RegionHeld3
import Derived.Deep.RegionLaw
import Derived.Deep.Cut
import Derived.LaidEqlPtr
/- Layer 11, as landed (gen/layer11bead.py): a node's bead; that of the empty tree. -/
namespace Go.Proofs.YtlhnjgmjkoafpaaDoor
open Go.RowKit Go.Proofs.Treem
set_option maxRecDepth 100000

/-- the bead of a tree's node -/
def beadT : Tr → Bd
  | .e => ⟨0#64, 0#64, 0#64, 0#64, 0#64, false, false⟩
  | .n l k v g r => ⟨k, v, l.sum + v + r.sum, BitVec.ofNat 64 (1 + l.size + r.size), g, l.is, r.is⟩
set_option maxHeartbeats 4000000 in
theorem bead_node (w : World) (B : Nat) (a : Addr) (x : No) (hx : NdS w B a x) (hB : B ≤ w.heap.size) : Calls Tryd.prog 28 #[.pointer (some a)] w fun e w' => e = .returned (bdV ⟨x.k, x.v, x.sum, x.size, x.g, x.l.isSome, x.r.isSome⟩) ∧ Below w.heap.size w w' := by
  obtain ⟨sz, hsz⟩ : ∃ sz, w.heap.size = sz := ⟨_, rfl⟩
  obtain ⟨W, hW⟩ : ∃ W, w.alloc (.cells #[.int .i64 0, .int .i64 0, .int .i64 0, .int .i64 0, .int .u64 0, .bool false, .bool false] 44) = W := ⟨_, rfl⟩
  have hb : Hid (Below sz w W) := hW ▸ hsz ▸ (Below.refl _ w).alloc (Nat.le_refl _) _
  have g1 : Hid (Has W sz 44 #[.int .i64 0, .int .i64 0, .int .i64 0, .int .i64 0, .int .u64 0, .bool false, .bool false]) := hW ▸ new_at hsz _ _
  have HS := Lib.hid hsz
  have HW := Lib.hid hW
  have hX := node_says.next hx (hb.out.mono (hsz ▸ hB))
  have c0 := Lib.hid (node_says.key W B a x hX)
  have c1 := Lib.hid (node_says.val W B a x hX)
  have c2 := Lib.hid (node_says.sum W B a x hX)
  have c3 := Lib.hid (node_says.size W B a x hX)
  have c4 := Lib.hid (node_says.tag W B a x hX)
  have c5 := Lib.hid (node_says.left W B a x hX)
  have c6 := Lib.hid (node_says.right W B a x hX)
  have w0 := g1.out.free 0
  have w1 := g1.out.free 1
  have w2 := g1.out.free 2
  have w3 := g1.out.free 3
  have w4 := g1.out.free 4
  have w5 := g1.out.free 5
  have w6 := g1.out.free 6
  have r0 := g1.out.cell 0
  have r1 := g1.out.cell 1
  have r2 := g1.out.cell 2
  have r3 := g1.out.cell 3
  have r4 := g1.out.cell 4
  have r5 := g1.out.cell 5
  have r6 := g1.out.cell 6
  simp only [List.getElem?_toArray, List.getElem?_cons_zero, List.getElem?_cons_succ] at r0 r1 r2 r3 r4 r5 r6
  clear hx hX hsz hW
  obtain ⟨xl, xr, xk, xv, xg, xs, xm⟩ := x
  go_enter Tryd.func28, Tryd.ntmps28
  go_wp2_with fail
  rw [HS.out, HW.out]
  refine c0.out.mono ?_
  rintro e w' ⟨rfl, rfl⟩
  go_wp2_with fail
  refine c1.out.mono ?_
  rintro e w' ⟨rfl, rfl⟩
  go_wp2_with fail
  refine c2.out.mono ?_
  rintro e w' ⟨rfl, rfl⟩
  go_wp2_with fail
  refine c3.out.mono ?_
  rintro e w' ⟨rfl, rfl⟩
  go_wp2_with fail
  refine c4.out.mono ?_
  rintro e w' ⟨rfl, rfl⟩
  go_wp2_with fail
  refine c5.out.mono ?_
  rintro e w' ⟨rfl, rfl⟩
  go_wp2_with fail
  refine c6.out.mono ?_
  rintro e w' ⟨rfl, rfl⟩
  go_wp2_with fail
  obtain ⟨Y, hY⟩ : ∃ Y, (((((((W.setCell ⟨sz, 0, none⟩ (K xk)).setCell ⟨sz, 1, none⟩ (K xv)).setCell ⟨sz, 2, none⟩ (K xm)).setCell ⟨sz, 3, none⟩ (K xs)).setCell ⟨sz, 4, none⟩ (G64 xg)).setCell ⟨sz, 5, none⟩ (.bool xl.isSome)).setCell ⟨sz, 6, none⟩ (.bool xr.isSome)) = Y := ⟨_, rfl⟩
  have hH : Has Y sz 44 #[K xk, K xv, K xm, K xs, G64 xg, .bool xl.isSome, .bool xr.isSome] := hY ▸ bead_put g1.out _ _ _ _ _ _ _
  have hbY : Below sz w Y := hY ▸ put_below hb.out _ _ _ _ _ _ _
  rw [hY]
  refine bodyPost_ret (results_row1 rfl _ _ sz 44 _ (0, 0) _ rfl hH Tryd.underlying44 rfl (by kernel_rfl)) rfl ?_
  exact ⟨rfl, HS.out ▸ hbY⟩
set_option maxHeartbeats 4000000 in
theorem bead_none (w : World) : Calls Tryd.prog 28 #[.pointer none] w fun e w' => e = .returned (.agg #[.int .i64 0, .int .i64 0, .int .i64 0, .int .i64 0, .int .u64 0, .bool false, .bool false]) ∧ Below w.heap.size w w' := by
  obtain ⟨sz, hsz⟩ : ∃ sz, w.heap.size = sz := ⟨_, rfl⟩
  obtain ⟨W, hW⟩ : ∃ W, w.alloc (.cells #[.int .i64 0, .int .i64 0, .int .i64 0, .int .i64 0, .int .u64 0, .bool false, .bool false] 44) = W := ⟨_, rfl⟩
  have hb : Hid (Below sz w W) := hW ▸ hsz ▸ (Below.refl _ w).alloc (Nat.le_refl _) _
  have g1 : Hid (Has W sz 44 #[.int .i64 0, .int .i64 0, .int .i64 0, .int .i64 0, .int .u64 0, .bool false, .bool false]) := hW ▸ new_at hsz _ _
  have HS := Lib.hid hsz
  have HW := Lib.hid hW
  clear hsz hW
  have b0 : Hid (Below W.heap.size W W) := Below.refl _ _
  have c0 := Lib.hid (node_says.key0 W)
  go_enter Tryd.func28, Tryd.ntmps28
  go_wp2_with fail
  rw [HS.out, HW.out]
  refine c0.out.mono ?_
  rintro e w0w ⟨rfl, hbb⟩
  have b1 := Lib.hid (Below.after b0.out hbb)
  clear hbb b0
  have c1 := Lib.hid (node_says.val0 w0w)
  go_wp2_with fail
  refine c1.out.mono ?_
  rintro e w1w ⟨rfl, hbb⟩
  have b2 := Lib.hid (Below.after b1.out hbb)
  clear hbb b1
  have c2 := Lib.hid (node_says.sum0 w1w)
  go_wp2_with fail
  refine c2.out.mono ?_
  rintro e w2w ⟨rfl, hbb⟩
  have b3 := Lib.hid (Below.after b2.out hbb)
  clear hbb b2
  have c3 := Lib.hid (node_says.size0 w2w)
  go_wp2_with fail
  refine c3.out.mono ?_
  rintro e w3w ⟨rfl, hbb⟩
  have b4 := Lib.hid (Below.after b3.out hbb)
  clear hbb b3
  have c4 := Lib.hid (node_says.tag0 w3w)
  go_wp2_with fail
  refine c4.out.mono ?_
  rintro e w4w ⟨rfl, hbb⟩
  have b5 := Lib.hid (Below.after b4.out hbb)
  clear hbb b4
  have c5 := Lib.hid (node_says.left0 w4w)
  go_wp2_with fail
  refine c5.out.mono ?_
  rintro e w5w ⟨rfl, hbb⟩
  have b6 := Lib.hid (Below.after b5.out hbb)
  clear hbb b5
  have c6 := Lib.hid (node_says.right0 w5w)
  go_wp2_with fail
  refine c6.out.mono ?_
  rintro e w6w ⟨rfl, hbb⟩
  have b7 := Lib.hid (Below.after b6.out hbb)
  clear hbb b6
  have g2 := Lib.hid (g1.out.next b7.out)
  have hb2 := Lib.hid (hb.out.trans (b7.out.mono (by have := hb.out.size; have := g1.out.lt; omega)))
  have w0 := g2.out.free 0
  have w1 := g2.out.free 1
  have w2 := g2.out.free 2
  have w3 := g2.out.free 3
  have w4 := g2.out.free 4
  have w5 := g2.out.free 5
  have w6 := g2.out.free 6
  have r0 := g2.out.cell 0
  have r1 := g2.out.cell 1
  have r2 := g2.out.cell 2
  have r3 := g2.out.cell 3
  have r4 := g2.out.cell 4
  have r5 := g2.out.cell 5
  have r6 := g2.out.cell 6
  simp only [List.getElem?_toArray, List.getElem?_cons_zero, List.getElem?_cons_succ] at r0 r1 r2 r3 r4 r5 r6
  go_wp2_with fail
  obtain ⟨Y, hY⟩ : ∃ Y, (((((((w6w.setCell ⟨sz, 0, none⟩ (.int .i64 0)).setCell ⟨sz, 1, none⟩ (.int .i64 0)).setCell ⟨sz, 2, none⟩ (.int .i64 0)).setCell ⟨sz, 3, none⟩ (.int .i64 0)).setCell ⟨sz, 4, none⟩ (.int .u64 0)).setCell ⟨sz, 5, none⟩ (.bool false)).setCell ⟨sz, 6, none⟩ (.bool false)) = Y := ⟨_, rfl⟩
  have hH : Has Y sz 44 #[.int .i64 0, .int .i64 0, .int .i64 0, .int .i64 0, .int .u64 0, .bool false, .bool false] := hY ▸ bead_put g2.out _ _ _ _ _ _ _
  have hbY : Below sz w Y := hY ▸ put_below hb2.out _ _ _ _ _ _ _
  rw [hY]
  refine bodyPost_ret (results_row1 rfl _ _ sz 44 _ (0, 0) _ rfl hH Tryd.underlying44 rfl (by kernel_rfl)) rfl ?_
  exact ⟨rfl, HS.out ▸ hbY⟩
theorem bead_any (t : Tr) (p : Option Addr) (w : World) (h : TreeAt NdS w w.heap.size t p) : Calls Tryd.prog 28 #[.pointer p] w fun e w' => e = .returned (bdV (beadT t)) ∧ Below w.heap.size w w' := by
  cases t with
  | e =>
    obtain rfl : p = none := h
    exact bead_none w
  | n l k v g r =>
    obtain ⟨a, pl, pr, rfl, hx, hl, hr⟩ := h
    have h1 := hl.is
    have h2 := hr.is
    rw [beadT, h1, h2]
    exact bead_node w _ a _ hx (Nat.le_refl _)
end Go.Proofs.YtlhnjgmjkoafpaaDoor
/- Layer 11, as landed: List. -/
namespace Go.Proofs.YtlhnjgmjkoafpaaDoor
open Go.RowKit Go.Proofs.Treem
set_option maxRecDepth 100000

/-- trees that are still to be told, the next one first -/
abbrev Stk := List (Tr × Option Addr)
def ptrs (us : Stk) : List Value := us.reverse.map fun u => .pointer u.2
def toldS (us : Stk) : List Bd := us.flatMap fun u => u.1.told
def loadS : Stk → Nat
  | [] => 0
  | u :: us => 2 * u.1.size + 1 + loadS us
theorem ptrs_cons (u : Tr × Option Addr) (us : Stk) : ptrs (u :: us) = ptrs us ++ [.pointer u.2] := by simp [ptrs]
theorem ptrs_len (us : Stk) : (ptrs us).length = us.length := by simp [ptrs]
theorem loadS_len : ∀ us : Stk, us.length ≤ loadS us
  | [] => Nat.le_refl _
  | u :: us => by have := loadS_len us; simp only [List.length_cons, loadS]; omega
theorem toldS_cons (u : Tr × Option Addr) (us : Stk) : toldS (u :: us) = u.1.told ++ toldS us := by simp [toldS]
theorem size_ptr (W : World) : (sizeOf 25).run Tryd.prog W = .ok 1 W := by kernel_rfl
theorem info_ptr : (Tryd.prog.info? 25).map (fun i => (i.zero, i.size, i.bytes)) = some (some (.pointer none), 1, 8) := by kernel_rfl
/-- how far List has come -/
def LRel (w : World) (t : Tr) (k : Nat) (l op : Value) (wr : World) : Prop := ∃ (us : Stk) (L : List Bd), wr.ownsRow w.heap.size 44 7 l L.length (flat7 L) ∧ wr.ownsRow w.heap.size 25 1 op us.length (ptrs us) ∧ (∀ u ∈ us, TreeAt NdS w w.heap.size u.1 u.2) ∧ Below w.heap.size w wr ∧ L ++ toldS us = t.told ∧ loadS us = k ∧ k ≤ 2 * t.size + 1
/-- what List answers -/
def Listed (w : World) (t : Tr) (e : Ending) (w' : World) : Prop := ∃ A c, e = .returned (.slice A t.size c) ∧ LieB w' w'.heap.size A t.size c t.told ∧ Below w.heap.size w w'
set_option maxHeartbeats 4000000 in
theorem list_any (w : World) (t : Tr) (p : Option Addr) (hT : TreeAt NdS w w.heap.size t p) (h5 : t.size ≤ 5000) :
    Calls Tryd.prog 13 #[.pointer p] w (Listed w t) := by
  obtain ⟨i0, hin, hz0, hz1, hz2⟩ := info_parts info_bead
  obtain ⟨j0, jin, jz0, jz1, jz2⟩ := info_parts info_ptr
  have hstart : LRel w t (2 * t.size + 1) (.slice none 0 0) (.slice (some ⟨w.heap.size, 0, none⟩) 1 1) (w.alloc (.cells #[.pointer p] 25)) := by
    refine ⟨[(t, p)], [], World.ownsRow_nil _ _ _ _, ?_, ?_, (Below.refl _ w).alloc (Nat.le_refl _) _, by simp [toldS], rfl, Nat.le_refl _⟩
    · exact World.ownsRow_lit w #[.pointer p] 1 (Nat.le_refl _) (by unfold maxLen; omega) rfl
    · intro u hu
      rw [List.mem_singleton.1 hu]; exact hT
  have hS := Lib.hid hstart
  clear hstart hT
  go_enter Tryd.func13, Tryd.ntmps13
  go_wp2_with fail
  go_loopg [3, 4] (2 * t.size + 1) (fun k l op wr => LRel w t k l op wr)
  case atStart => exact hS.out
  case round =>
    obtain ⟨us, L, hl, hop, htr, hb, htold, hk, hk2⟩ := hrel
    clear hS
    cases us with
    | nil =>
      obtain ⟨A, c, rfl, -, -, -⟩ := own_slice hop
      have htold' : L = t.told := by simpa [toldS] using htold
      subst htold'
      have hlen := told_len t
      rw [hlen] at hl
      obtain ⟨A1, c1, rfl, hL⟩ := LieB.of_own hlen (by omega) hl
      have hL' := Lib.hid hL
      have hb' := Lib.hid hb
      have d1 : decide ((0 : Int) < ((0 : Nat) : Int)) = false := by decide
      clear hl hop htr hb htold hk hlen hL
      go_wp2
      go_ret
      exact ⟨A1, c1, rfl, hL'.out, hb'.out⟩
    | cons u rs =>
      obtain ⟨tu, pu⟩ := u
      obtain ⟨g, c, rfl, hg, hnc, hcm⟩ := own_full hop (by simp)
      obtain ⟨n, hn⟩ : ∃ n, rs.length = n := ⟨_, rfl⟩
      rw [ptrs_cons] at hop
      have hlen1 : List.length ((tu, pu) :: rs) = n + 1 := by rw [List.length_cons, hn]
      rw [hlen1] at hop hnc
      rw [hlen1]
      have hcell := hop.cellAt n (by omega)
      rw [List.getElem?_append_right (by rw [ptrs_len, hn]; exact Nat.le_refl _), ptrs_len, hn, Nat.sub_self] at hcell
      have hcell' : wr.cell? ⟨g, n, none⟩ = some (.pointer pu) := hcell
      have hop1 := owned_take hop n (by omega)
      have htake : (ptrs rs ++ [Value.pointer pu]).take (n * 1) = ptrs rs := by rw [Nat.mul_one, ← hn, ← ptrs_len, List.take_left]
      rw [htake] at hop1
      have hap := rows_apart hl hop1 (by decide)
      have hTu := htr (tu, pu) (List.mem_cons_self ..)
      have hload := loadS_len rs
      have hk3 : 2 * tu.size + 1 + loadS rs = gk := hk
      have hLlen : L.length + tu.size ≤ t.size := by
        have := congrArg List.length htold
        rw [List.length_append, toldS_cons, List.length_append, told_len, told_len] at this
        have e2 : (tu, pu).1.size = tu.size := rfl
        omega
      have cut := cut_to (P := Tryd.prog) Tryd.underlying53 size_ptr (some ⟨g, 0, none⟩) (n + 1) c n (n : Int) rfl (by omega)
      have d1 : decide ((0 : Int) < ((n + 1 : Nat) : Int)) = true := decide_eq_true (by omega)
      have hnb : n ≤ 10000 := by omega
      obtain ⟨A, c2, rfl, -, -, -⟩ := own_slice hl
      clear hcell hlen1 htake
      have hl' := Lib.hid hl
      have hop' := Lib.hid hop1
      have htr' := Lib.hid htr
      have hb' := Lib.hid hb
      have htold' := Lib.hid htold
      have hap' := Lib.hid hap
      have hTu' := Lib.hid hTu
      have hk3' := Lib.hid hk3
      have hn' := Lib.hid hn
      have hLlen' := Lib.hid hLlen
      clear hl hop hop1 htr hb htold hap hTu hk hk3 hn hload hLlen
      cases tu with
      | e =>
        obtain rfl : pu = none := hTu'.out
        go_wp2
        go_roundg (loadS rs)
        case measure => have := hk3'.out; omega
        case rel => exact ⟨rs, L, hl'.out, by rw [hn'.out]; exact hop'.out, fun u hu => htr'.out u (List.mem_cons_of_mem _ hu), hb'.out, htold'.out, rfl, by have := hk3'.out; omega⟩
      | n tl kk vv gg tr =>
        obtain ⟨a, pl, pr, rfl, hx, hTl, hTr⟩ := hTu'.out
        obtain ⟨m, hm⟩ : ∃ m, BitVec.ofNat 64 (1 + tl.size + tr.size) = m := ⟨_, rfl⟩
        obtain ⟨q, hq⟩ : ∃ q, tl.sum + vv + tr.sum = q := ⟨_, rfl⟩
        rw [hm, hq] at hx
        have h1 := hTl.is
        have h2 := hTr.is
        have htold2 : Hid (L ++ [⟨kk, vv, q, m, gg, pl.isSome, pr.isSome⟩] ++ toldS ((tl, pl) :: (tr, pr) :: rs) = t.told) := by
          have := htold'.out
          rw [toldS_cons, Tr.told, hm, hq, h1, h2] at this
          show _ = _
          rw [toldS_cons, toldS_cons, ← this]
          simp
        have hk4 : Hid (loadS ((tl, pl) :: (tr, pr) :: rs) < gk ∧ L.length < 5000) := by
          have h3 := hk3'.out
          have h4 := hLlen'.out
          rw [Tr.size] at h3 h4
          simp only [loadS]
          exact ⟨by omega, by omega⟩
        have cB := Lib.hid (bead_node wr w.heap.size a _ (node_says.next hx hb'.out) hb'.out.size)
        have hx' := Lib.hid hx
        have hTl' := Lib.hid hTl
        have hTr' := Lib.hid hTr
        clear hx hTl hTr hm hq h1 h2 htold' hk3' hLlen' hTu'
        go_wp2_with fail
        refine cB.out.mono ?_
        rintro e w1 ⟨rfl, hb1⟩
        have l1 := Lib.hid (owned_next hl'.out hb1)
        have o1 := Lib.hid (owned_next hop'.out hb1)
        have b1 := Lib.hid (hb'.out.trans (hb1.mono hb'.out.size))
        clear hb1 cB hl' hop'
        obtain ⟨X, hX⟩ : ∃ X, w1.alloc (.cells #[K kk, K vv, K q, K m, G64 gg, .bool pl.isSome, .bool pr.isSome] 44) = X := ⟨_, rfl⟩
        obtain ⟨s1, hs1⟩ : ∃ s1, w1.heap.size = s1 := ⟨_, rfl⟩
        have l2 : Hid (X.ownsRow w.heap.size 44 7 (.slice A L.length c2) L.length (flat7 L)) := hX ▸ l1.out.alloc _
        have o2 : Hid (X.ownsRow w.heap.size 25 1 (.slice (some ⟨g, 0, none⟩) n c) n (ptrs rs)) := hX ▸ o1.out.alloc _
        have b2 : Hid (Below w.heap.size w X) := hX ▸ b1.out.alloc b1.out.size _
        have r2 : Hid (Row X (s1 + 1) (some ⟨s1, 0, none⟩) (flat7 [⟨kk, vv, q, m, gg, pl.isSome, pr.isSome⟩])) := by
          have := (new_at hs1 44 #[K kk, K vv, K q, K m, G64 gg, .bool pl.isSome, .bool pr.isSome]).row
          rw [size_next hs1, hX] at this
          exact this
        have HX := Lib.hid hX
        have HS1 := Lib.hid hs1
        clear hX hs1 l1 o1 b1
        have hX1 : w.heap.size ≤ X.heap.size := b2.out.size
        have hLk := hk4.out.2
        go_wp2_with (first
          | (at_builtin; rw [HX.out, HS1.out]; refine wpList_append_row rfl _ _ 22 rfl w.heap.size 44 i0 (.agg #[.int .i64 0, .int .i64 0, .int .i64 0, .int .i64 0, .int .u64 0, .bool false, .bool false]) 7 48 Tryd.underlying22 hin hz0 hz1 hz2 rfl (by decide) (.slice A L.length c2) L.length (flat7 L) rfl l2.out (some ⟨s1, 0, none⟩) 1 1 (flat7 [⟨kk, vv, q, m, gg, pl.isSome, pr.isSome⟩]) rfl (by simp) (Nat.le_refl _) rfl (s1 + 1) r2.out (flat7_one _) (by unfold maxLen; omega) (by omega) hX1 ?_
             intro v3 w3 ho3 hg3)
          | fail)
        have o3 := Lib.hid (o2.out.kept hg3 (rows_apart o2.out l2.out (by decide)))
        have b3 := Lib.hid (b2.out.grown hg3 hX1 (fun r e => (l2.out.lt r e).1))
        have l3 : Hid (w3.ownsRow w.heap.size 44 7 v3 (L.length + 1) (flat7 (L ++ [⟨kk, vv, q, m, gg, pl.isSome, pr.isSome⟩]))) := by show w3.ownsRow _ _ _ _ _ _; rw [flat7_append]; exact ho3
        clear ho3 hg3 l2 o2 b2 r2 HX HS1 hX1
        refine (node_says.right w3 w.heap.size a _ (node_says.next hx'.out b3.out)).mono ?_
        rintro e w' ⟨rfl, rfl⟩
        go_wp2_with fail
        refine (node_says.left w3 w.heap.size a _ (node_says.next hx'.out b3.out)).mono ?_
        rintro e w' ⟨rfl, rfl⟩
        obtain ⟨X, hX⟩ : ∃ X, w3.alloc (.cells #[.pointer pr, .pointer pl] 25) = X := ⟨_, rfl⟩
        obtain ⟨s3, hs3⟩ : ∃ s3, w3.heap.size = s3 := ⟨_, rfl⟩
        have l4 : Hid (X.ownsRow w.heap.size 44 7 v3 (L.length + 1) (flat7 (L ++ [⟨kk, vv, q, m, gg, pl.isSome, pr.isSome⟩]))) := hX ▸ l3.out.alloc _
        have o4 : Hid (X.ownsRow w.heap.size 25 1 (.slice (some ⟨g, 0, none⟩) n c) n (ptrs rs)) := hX ▸ o3.out.alloc _
        have b4 : Hid (Below w.heap.size w X) := hX ▸ b3.out.alloc b3.out.size _
        have r4 : Hid (Row X (s3 + 1) (some ⟨s3, 0, none⟩) [.pointer pr, .pointer pl]) := by
          have := (new_at hs3 25 #[.pointer pr, .pointer pl]).row
          rw [size_next hs3, hX] at this
          exact this
        have HX := Lib.hid hX
        have HS1 := Lib.hid hs3
        have hX1 : w.heap.size ≤ X.heap.size := b4.out.size
        clear hX hs3 l3 o3 b3
        go_wp2_with (first
          | (at_builtin; rw [HX.out, HS1.out]; refine wpList_append_row rfl _ _ 53 rfl w.heap.size 25 j0 (.pointer none) 1 8 Tryd.underlying53 jin jz0 jz1 jz2 rfl (by decide) (.slice (some ⟨g, 0, none⟩) n c) n (ptrs rs) rfl o4.out (some ⟨s3, 0, none⟩) 2 2 [.pointer pr, .pointer pl] rfl (by simp) (Nat.le_refl _) rfl (s3 + 1) r4.out (fun u hu => by simp at hu; rcases hu with rfl | rfl <;> rfl) (by unfold maxLen; omega) (by omega) hX1 ?_
             intro v5 w5 ho5 hg5)
          | fail)
        have l5 := Lib.hid (l4.out.kept hg5 (rows_apart l4.out o4.out (by decide)))
        have b5 := Lib.hid (b4.out.grown hg5 hX1 (fun r e => (o4.out.lt r e).1))
        have o5 : Hid (w5.ownsRow w.heap.size 25 1 v5 (n + 2) (ptrs ((tl, pl) :: (tr, pr) :: rs))) := by
          show w5.ownsRow _ _ _ _ _ _
          rw [ptrs_cons, ptrs_cons, List.append_assoc]
          exact ho5
        clear ho5 hg5
        go_roundg (loadS ((tl, pl) :: (tr, pr) :: rs))
        case measure => exact hk4.out.1
        case rel =>
          refine ⟨(tl, pl) :: (tr, pr) :: rs, L ++ [⟨kk, vv, q, m, gg, pl.isSome, pr.isSome⟩], ?_, ?_, ?_, b5.out, htold2.out, rfl, by have := hk4.out.1; omega⟩
          · rw [List.length_append]; exact l5.out
          · have e3 : List.length ((tl, pl) :: (tr, pr) :: rs) = n + 2 := by simp only [List.length_cons]; rw [hn'.out]
            rw [e3]; exact o5.out
          · intro u hu
            rcases List.mem_cons.1 hu with rfl | hu
            · exact hTl'.out
            · rcases List.mem_cons.1 hu with rfl | hu
              · exact hTr'.out
              · exact htr'.out u (List.mem_cons_of_mem _ hu)
end Go.Proofs.YtlhnjgmjkoafpaaDoor
namespace Go.Proofs.YtlhnjgmjkoafpaaDoor
open Go.RowKit Go.Proofs.Treem
set_option maxRecDepth 100000

/-- one pointer leads to one tree -/
theorem tree_det {W : World} {B : Nat} : ∀ {t u : Tr} {p : Option Addr}, TreeAt NdS W B t p → TreeAt NdS W B u p → t = u
  | .e, .e, _, _, _ => rfl
  | .e, .n .., p, h, ⟨a, _, _, e, _⟩ => by rw [show p = none from h] at e; cases e
  | .n .., .e, p, ⟨a, _, _, e, _⟩, h => by rw [show p = none from h] at e; cases e
  | .n l k v g r, .n l' k' v' g' r', p, ⟨a, pl, pr, e, hx, h1, h2⟩, ⟨a', pl', pr', e', hx', h1', h2'⟩ => by
    rw [e] at e'
    cases e'
    obtain ⟨b, eb, _, hh, _⟩ := hx
    obtain ⟨b', eb', _, hh', _⟩ := hx'
    rw [eb] at eb'
    cases eb'
    have := hh.symm.trans hh'
    simp only [Option.some.injEq, Obj.cells.injEq, and_true, Array.mk.injEq, List.cons.injEq, Value.int.injEq, Value.pointer.injEq, true_and] at this
    obtain ⟨c1, c2, c3, _, _, c6, c7⟩ := this
    subst c6 c7
    rw [tree_det h1 h1', tree_det h2 h2', BitVec.eq_of_toInt_eq c1, BitVec.eq_of_toInt_eq c2, BitVec.eq_of_toNat_eq (by omega : g.toNat = g'.toNat)]
theorem ptr_cmp {W : World} {B : Nat} {t u : Tr} {p q : Option Addr} (h : TreeAt NdS W B t p) (k : TreeAt NdS W B u q) : (binOp .eql 25 (.pointer p) (.pointer q)).run Tryd.prog W = .ok (.bool (decide (p = q))) W := by
  by_cases e : p = q
  · subst e
    rw [decide_eq_true rfl]
    exact ptr_eql W p
  · rw [decide_eq_false e]
    cases t with
    | e =>
      obtain rfl : p = none := h
      cases q with
      | none => exact absurd rfl e
      | some b =>
        obtain ⟨j, hj, _⟩ := node_info
        have h0 : ∀ d, (Op.equalIn (d + 1) 25 (.pointer none) (.pointer (some b))).run Tryd.prog W = .ok false W := fun d => by
          simp [Op.equalIn, run_underlying Tryd.underlying25]
        simp only [binOp]
        simp [Op.equal, Op.maxDepth, h0 9999]
    | n l kk v g r =>
      obtain ⟨a, pl, pr, rfl, hx, _, _⟩ := h
      cases u with
      | e =>
        obtain rfl : q = none := k
        exact run_eql_pointer_nil W _ (some a) Tryd.underlying25
      | n l' kk' v' g' r' =>
        obtain ⟨b, ql, qr, rfl, hy, _, _⟩ := k
        obtain ⟨ca, ta, ha⟩ := node_says.lies hx
        obtain ⟨cb, tb, hb⟩ := node_says.lies hy
        obtain ⟨j, hj, hs⟩ := node_info
        exact run_eql_ptr_other W Tryd.underlying25 hj hs (fun e' => e (by rw [e'])) ha hb
/-- of two trees the roots' beads are the same -/
theorem beads_apart {t u : Tr} (ht : t.size ≤ 5000) (hu : u.size ≤ 5000) (h : beadT t = beadT u) : (t = .e ∧ u = .e) ∨ ∃ tl tr ul ur k v g, t = .n tl k v g tr ∧ u = .n ul k v g ur := by
  cases t with
  | e =>
    cases u with
    | e => exact .inl ⟨rfl, rfl⟩
    | n l k v g r =>
      have := congrArg Bd.size h
      simp only [beadT] at this
      have e := congrArg BitVec.toNat this
      rw [Tr.size] at hu
      rw [BitVec.toNat_ofNat, BitVec.toNat_ofNat] at e
      omega
  | n l k v g r =>
    cases u with
    | e =>
      have := congrArg Bd.size h
      simp only [beadT] at this
      have e := congrArg BitVec.toNat this
      rw [Tr.size] at ht
      rw [BitVec.toNat_ofNat, BitVec.toNat_ofNat] at e
      omega
    | n l' k' v' g' r' =>
      simp only [beadT, Bd.mk.injEq] at h
      obtain ⟨rfl, rfl, _, _, rfl, _, _⟩ := h
      exact .inr ⟨l, r, l', r', k, v, g, rfl, rfl⟩
/-- pairs of trees that are still to be held against each other, the next one first -/
structure Pr where
  t : Tr
  p : Option Addr
  u : Tr
  q : Option Addr
def twos (us : List Pr) : List Value := us.reverse.flatMap fun x => [.pointer x.p, .pointer x.q]
def loadP : List Pr → Nat
  | [] => 0
  | x :: us => 2 * x.t.size + 1 + loadP us
theorem twos_cons (x : Pr) (us : List Pr) : twos (x :: us) = twos us ++ [.pointer x.p, .pointer x.q] := by simp [twos]
theorem twos_len (us : List Pr) : (twos us).length = us.length * 2 := by
  induction us with
  | nil => rfl
  | cons x us ih => rw [twos_cons, List.length_append, ih, List.length_cons]; simp only [List.length_cons, List.length_nil]; omega
theorem loadP_len : ∀ us : List Pr, us.length ≤ loadP us
  | [] => Nat.le_refl _
  | u :: us => by have := loadP_len us; simp only [List.length_cons, loadP]; omega
theorem size_two (W : World) : (sizeOf 64).run Tryd.prog W = .ok 2 W := by kernel_rfl
theorem info_two : (Tryd.prog.info? 64).map (fun i => (i.zero, i.size, i.bytes)) = some (some (.agg #[.pointer none, .pointer none]), 2, 16) := by kernel_rfl
theorem same_next {X W W' : World} {s : Nat} {u v : Value} (h : W.cell? ⟨s, 0, none⟩ = some u ∧ W.cell? ⟨s, 1, none⟩ = some v ∧ Below X.heap.size X W) (hb : Below W.heap.size W W') :
    W'.cell? ⟨s, 0, none⟩ = some u ∧ W'.cell? ⟨s, 1, none⟩ = some v ∧ Below X.heap.size X W' := ⟨keep_cell hb h.1, keep_cell hb h.2.1, Below.after h.2.2 hb⟩
/-- how far Same has come -/
def SRel (w : World) (b : Bool) (k : Nat) (op : Value) (wr : World) : Prop := ∃ us : List Pr, wr.ownsRow w.heap.size 64 2 op us.length (twos us) ∧ (∀ x ∈ us, TreeAt NdS w w.heap.size x.t x.p ∧ TreeAt NdS w w.heap.size x.u x.q ∧ x.t.size ≤ 5000 ∧ x.u.size ≤ 5000) ∧ Below w.heap.size w wr ∧ (b = true ↔ ∀ x ∈ us, x.t = x.u) ∧ loadP us = k ∧ k ≤ 10001
set_option maxHeartbeats 4000000 in
theorem same_any (w : World) (t u : Tr) (p q : Option Addr) (b : Bool) (hbt : b = true ↔ t = u) (hT : TreeAt NdS w w.heap.size t p) (hU : TreeAt NdS w w.heap.size u q) (h5 : t.size ≤ 5000) (h6 : u.size ≤ 5000) :
    Calls Tryd.prog 16 #[.pointer p, .pointer q] w fun e w' => e = .returned (.bool b) ∧ Below w.heap.size w w' := by
  obtain ⟨j0, jin, jz0, jz1, jz2⟩ := info_parts info_two
  have hstart : SRel w b (2 * t.size + 1) (.slice (some ⟨w.heap.size, 0, none⟩) 1 1) (w.alloc (.cells #[.pointer p, .pointer q] 64)) := by
    refine ⟨[⟨t, p, u, q⟩], World.ownsRow_lit w #[.pointer p, .pointer q] 1 (Nat.le_refl _) (by unfold maxLen; omega) rfl, ?_, (Below.refl _ w).alloc (Nat.le_refl _) _, by simpa using hbt, rfl, by omega⟩
    intro x hx
    rw [List.mem_singleton.1 hx]; exact ⟨hT, hU, h5, h6⟩
  have hS := Lib.hid hstart
  clear hstart hT hU hbt
  go_enter Tryd.func16, Tryd.ntmps16
  go_wp2_with fail
  go_loopg [5] (2 * t.size + 1) (fun k op wr => SRel w b k op wr)
  case atStart => exact hS.out
  case round =>
    obtain ⟨us, hop, htr, hb, hbt, hk, hk2⟩ := hrel
    clear hS
    cases us with
    | nil =>
      obtain ⟨A, c, rfl, -, -, -⟩ := own_slice hop
      obtain rfl : b = true := hbt.2 (by simp)
      have hb' := Lib.hid hb
      have d1 : decide ((0 : Int) < ((0 : Nat) : Int)) = false := by decide
      clear hop htr hb hk hbt
      go_wp2
      go_ret
      exact ⟨rfl, hb'.out⟩
    | cons x rs =>
      obtain ⟨ta, pa, tc, pc⟩ := x
      obtain ⟨g, c, rfl, hg, hnc, hcm⟩ := own_full hop (by simp)
      obtain ⟨n, hn⟩ : ∃ n, rs.length = n := ⟨_, rfl⟩
      rw [twos_cons] at hop
      have hlen1 : List.length (⟨ta, pa, tc, pc⟩ :: rs) = n + 1 := by rw [List.length_cons, hn]
      rw [hlen1] at hop hnc
      rw [hlen1]
      have hgs := (hop.lt g rfl).2
      have hcell0 := hop.cellAt (n * 2) (by omega)
      have hcell1 := hop.cellAt (n * 2 + 1) (by omega)
      rw [List.getElem?_append_right (by rw [twos_len, hn]; omega), twos_len, hn, Nat.sub_self] at hcell0
      rw [List.getElem?_append_right (by rw [twos_len, hn]; omega), twos_len, hn, show n * 2 + 1 - n * 2 = 1 by omega] at hcell1
      have g0 : wr.cell? ⟨g, n * 2, none⟩ = some (.pointer pa) := hcell0
      have g1 : wr.cell? ⟨g, n * 2 + 1, none⟩ = some (.pointer pc) := hcell1
      have hop1 := owned_take hop n (by omega)
      have htake : (twos rs ++ [Value.pointer pa, Value.pointer pc]).take (n * 2) = twos rs := by rw [← hn, ← twos_len, List.take_left]
      rw [htake] at hop1
      obtain ⟨hTa, hTc, z1, z2⟩ := htr ⟨ta, pa, tc, pc⟩ (List.mem_cons_self ..)
      have hload := loadP_len rs
      have hk3 : 2 * ta.size + 1 + loadP rs = gk := hk
      have cut := cut_to (P := Tryd.prog) Tryd.underlying65 size_two (some ⟨g, 0, none⟩) (n + 1) c n (n : Int) rfl (by omega)
      have d1 : decide ((0 : Int) < ((n + 1 : Nat) : Int)) = true := decide_eq_true (by omega)
      have hnb : n ≤ 10001 := by omega
      obtain ⟨X, hX⟩ : ∃ X, wr.alloc (.cells #[.pointer pa, .pointer pc] 64) = X := ⟨_, rfl⟩
      obtain ⟨s, hs⟩ : ∃ s, wr.heap.size = s := ⟨_, rfl⟩
      have hgs2 : g < s := hs ▸ hgs
      clear hgs
      have hbX : Hid (Below w.heap.size w X) := hX ▸ hb.alloc hb.size _
      have gX : Hid (Has X s 64 #[.pointer pa, .pointer pc]) := hX ▸ new_at hs _ _
      have hopX : Hid (X.ownsRow w.heap.size 64 2 (.slice (some ⟨g, 0, none⟩) n c) n (twos rs)) := hX ▸ hop1.alloc _
      have hTaX : Hid (TreeAt NdS X X.heap.size ta pa) := (hTa.next node_says hbX.out).more node_says hbX.out.size
      have hTcX : Hid (TreeAt NdS X X.heap.size tc pc) := (hTc.next node_says hbX.out).more node_says hbX.out.size
      have htr' := Lib.hid htr
      have hbt' := Lib.hid hbt
      have hTa' := Lib.hid hTa
      have hTc' := Lib.hid hTc
      have hk3' := Lib.hid hk3
      have hn' := Lib.hid hn
      have HX := Lib.hid hX
      have HS := Lib.hid hs
      have x0 : X.cell? ⟨s, 0, none⟩ = some (.pointer pa) := gX.out.cell 0
      have x1 : X.cell? ⟨s, 1, none⟩ = some (.pointer pc) := gX.out.cell 1
      clear hop hop1 htr hb hbt hTa hTc hk hk3 hn hload hX hs hcell0 hcell1 htake hlen1
      go_upto_region 6 with (fail)
      rw [HX.out, HS.out]
      by_cases hpp : pa = pc
      · subst hpp
        have pe := ptr_eql X pa
        have hac : Hid (ta = tc) := tree_det hTa'.out hTc'.out
        go_wp2_with fail
        go_roundg (loadP rs)
        case measure => have := hk3'.out; omega
        case rel =>
          refine ⟨rs, by rw [hn'.out]; exact hopX.out, fun x hx => htr'.out x (List.mem_cons_of_mem _ hx), hbX.out, hbt'.out.trans ⟨fun h x hx => h x (List.mem_cons_of_mem _ hx), fun h x hx => ?_⟩, rfl, by have := hk3'.out; omega⟩
          rcases List.mem_cons.1 hx with rfl | hx
          · exact hac.out
          · exact h x hx
      · have pe := ptr_cmp hTaX.out hTcX.out
        rw [decide_eq_false hpp] at pe
        have cA : Hid (∀ W, Below X.heap.size X W → Calls Tryd.prog 28 #[.pointer pa] W fun e w' => e = .returned (bdV (beadT ta)) ∧ Below W.heap.size W w') := fun W hW => bead_any ta pa W (hTaX.out.after node_says hW)
        have cC : Hid (∀ W, Below X.heap.size X W → Calls Tryd.prog 28 #[.pointer pc] W fun e w' => e = .returned (bdV (beadT tc)) ∧ Below W.heap.size W w') := fun W hW => bead_any tc pc W (hTcX.out.after node_says hW)
        have hne := bead_neq (beadT ta) (beadT tc)
        obtain ⟨r, hr⟩ : ∃ r, (!decide (beadT ta = beadT tc)) = r := ⟨_, rfl⟩
        obtain ⟨ba, hba⟩ : ∃ x, beadT ta = x := ⟨_, rfl⟩
        obtain ⟨bc, hbc⟩ : ∃ x, beadT tc = x := ⟨_, rfl⟩
        have hr' := Lib.hid hr
        have hba' := Lib.hid hba
        have hbc' := Lib.hid hbc
        rw [hr, hba, hbc] at hne
        rw [hba] at cA
        rw [hbc] at cC
        have bq := Lib.hid (Below.refl X.heap.size X)
        have gl : s < X.heap.size := gX.out.lt
        clear hr hba hbc
        go_wp2_with fail
        go_region_held3 (fun w' => w'.cell? ⟨s, 0, none⟩ = some (.pointer pa) ∧ w'.cell? ⟨s, 1, none⟩ = some (.pointer pc) ∧ Below X.heap.size X w')
          (first | exact ⟨x0, x1, bq.out.drew⟩ | assumption)
          (first
            | (go_at_call 28; (with_reducible refine (cA.out _ (And.right (And.right (by assumption)))).mono ?_); rintro e w' ⟨rfl, hb⟩; have hS' := same_next (by assumption) hb; clear hb)
            | (go_at_call 28; (with_reducible refine (cC.out _ (And.right (And.right (by assumption)))).mono ?_); rintro e w' ⟨rfl, hb⟩; have hS' := same_next (by assumption) hb; clear hb))
        obtain ⟨y0, y1, hb2⟩ := hS'
        have b2 := Lib.hid hb2
        clear hb2 cA cC x0 x1 bq hne pe
        cases r with
        | true =>
          have hbf : Hid (b = false) := by
            cases b with
            | false => rfl
            | true =>
              have h1 := hbt'.out.1 rfl ⟨ta, pa, tc, pc⟩ (List.mem_cons_self ..)
              have h2 : ta = tc := h1
              have h3 := hr'.out
              rw [h2, decide_eq_true rfl] at h3
              cases h3
          clear hr'
          go_wp2_with fail
          go_ret
          exact ⟨by rw [hbf.out]; rfl, Below.mono (hbX.out.trans (b2.out.mono hbX.out.size)) (Nat.le_refl _)⟩
        | false =>
          have hbe : beadT ta = beadT tc := by simpa using hr'.out
          rcases beads_apart z1 z2 hbe with ⟨rfl, rfl⟩ | ⟨al, ar, cl, cr, kk, vv, gg, rfl, rfl⟩
          · exact absurd ((show pa = none from hTa'.out).trans (show pc = none from hTc'.out).symm) hpp
          obtain ⟨aa, apl, apr, rfl, hax, hal, har⟩ := hTa'.out
          obtain ⟨ac, cpl, cpr, rfl, hcx, hcl, hcr⟩ := hTc'.out
          rw [Tr.size] at z1 z2
          have hax' := Lib.hid hax
          have hcx' := Lib.hid hcx
          have hal' := Lib.hid hal
          have har' := Lib.hid har
          have hcl' := Lib.hid hcl
          have hcr' := Lib.hid hcr
          obtain ⟨Z, hZ⟩ : ∃ Z, w' = Z := ⟨_, rfl⟩
          subst hZ
          have bw : Hid (Below w.heap.size w w') := hbX.out.trans (b2.out.mono hbX.out.size)
          have cLa : Hid (Calls Tryd.prog 30 #[.pointer (some aa)] w'.drew fun e w'' => e = .returned (.pointer apl) ∧ w'.drew = w'') := node_says.left _ w.heap.size aa _ (node_says.next hax bw.out.drew)
          have cRa : Hid (Calls Tryd.prog 29 #[.pointer (some aa)] w'.drew fun e w'' => e = .returned (.pointer apr) ∧ w'.drew = w'') := node_says.right _ w.heap.size aa _ (node_says.next hax bw.out.drew)
          have cLc : Hid (Calls Tryd.prog 30 #[.pointer (some ac)] w'.drew fun e w'' => e = .returned (.pointer cpl) ∧ w'.drew = w'') := node_says.left _ w.heap.size ac _ (node_says.next hcx bw.out.drew)
          have cRc : Hid (Calls Tryd.prog 29 #[.pointer (some ac)] w'.drew fun e w'' => e = .returned (.pointer cpr) ∧ w'.drew = w'') := node_says.right _ w.heap.size ac _ (node_says.next hcx bw.out.drew)
          have hk4 : Hid (loadP (⟨al, apl, cl, cpl⟩ :: ⟨ar, apr, cr, cpr⟩ :: rs) < gk) := by
            have h3 := hk3'.out
            rw [Tr.size] at h3
            show loadP _ < gk
            simp only [loadP]
            omega
          have o7 := Lib.hid (owned_next hopX.out b2.out)
          have sz7 : w.heap.size ≤ (w'.alloc (.cells #[.pointer apr, .pointer cpr, .pointer apl, .pointer cpl] 64)).drew.heap.size := (bw.out.alloc bw.out.size _).drew.size
          have o8 : Hid ((w'.alloc (.cells #[.pointer apr, .pointer cpr, .pointer apl, .pointer cpl] 64)).drew.ownsRow w.heap.size 64 2 (.slice (some ⟨g, 0, none⟩) n c) n (twos rs)) := World.ownsRow.drew (o7.out.alloc _)
          have b8 : Hid (Below w.heap.size w (w'.alloc (.cells #[.pointer apr, .pointer cpr, .pointer apl, .pointer cpl] 64)).drew) := (bw.out.alloc bw.out.size _).drew
          have r8 : Hid (Row (w'.alloc (.cells #[.pointer apr, .pointer cpr, .pointer apl, .pointer cpl] 64)).drew (w'.alloc (.cells #[.pointer apr, .pointer cpr, .pointer apl, .pointer cpl] 64)).heap.size (some ⟨w'.heap.size, 0, none⟩) [.pointer apr, .pointer cpr, .pointer apl, .pointer cpl]) := (has_drew (Has.new w' 64 #[.pointer apr, .pointer cpr, .pointer apl, .pointer cpl])).row
          have m1 : n + 2 ≤ maxLen := by unfold maxLen; omega
          have m2 : (n + 2) * 16 ≤ 140737488355328 := by omega
          have m3 : ∀ u ∈ [Value.pointer apr, .pointer cpr, .pointer apl, .pointer cpl], u.oneCell' = true := fun u hu => by simp at hu; rcases hu with rfl | rfl | rfl | rfl <;> rfl
          have hsg : some s ≠ (Value.slice (some ⟨g, 0, none⟩) n c).ownBlock := fun e => by
            have e2 : s = g := by simpa [Value.ownBlock] using e
            omega
          have M1 := Lib.hid m1
          have M2 := Lib.hid m2
          have M3 := Lib.hid m3
          have SZ7 := Lib.hid sz7
          clear hr' hbe hax hcx hal har hcl hcr hTa' hTc' hTaX hTcX hk3' o7 m1 m2 m3 sz7
          go_wp2_with fail
          -- REGION9
          refine wp_region_held_drew (S := fun W => W.cell? ⟨s, 0, none⟩ = some (.pointer (some aa)) ∧ W.cell? ⟨s, 1, none⟩ = some (.pointer (some ac))) (by kernel_rfl) ⟨y0, y1⟩ (fun hS => ?_)
          refine wpAnyH_take (i := 0) (oi := ?dqr1q0) (v := ?dvr1q0) ?hir1q0 (by kernel_rfl) (by kernel_rfl) (by kernel_rfl) ?hQr1q0 (Or.inl ⟨?hwr1q0, ?hyr1q0⟩) hS ?hrr1q0
          case hir1q0 => simp only [List.getElem?_toArray, List.getElem?_cons_zero]; rfl
          case hQr1q0 => exact fun _ _ _ h => h
          case hwr1q0 => rfl
          case hyr1q0 => (intro w hSw; (try dsimp only at hSw); go_simp; (try with_reducible rfl))
          simp only [Act.put, List.setIfInBounds_toArray, List.set_cons_zero, List.set_cons_succ]
          refine wpAnyH_take (i := 1) (oi := ?dqr1q1) (v := ?dvr1q1) ?hir1q1 (by kernel_rfl) (by kernel_rfl) (by kernel_rfl) ?hQr1q1 (Or.inl ⟨?hwr1q1, ?hyr1q1⟩) hS ?hrr1q1
          case hir1q1 => simp only [List.getElem?_toArray, List.getElem?_cons_succ, List.getElem?_cons_zero]; rfl
          case hQr1q1 => exact fun _ _ _ h => h
          case hwr1q1 => rfl
          case hyr1q1 => (intro w hSw; (try dsimp only at hSw); go_simp; (try with_reducible rfl))
          simp only [Act.put, List.setIfInBounds_toArray, List.set_cons_zero, List.set_cons_succ]
          refine wpAnyH_take (i := 2) (oi := ?dqr1q2) (v := ?dvr1q2) ?hir1q2 (by kernel_rfl) (by kernel_rfl) (by kernel_rfl) ?hQr1q2 (Or.inl ⟨?hwr1q2, ?hyr1q2⟩) hS ?hrr1q2
          case hir1q2 => simp only [List.getElem?_toArray, List.getElem?_cons_succ, List.getElem?_cons_zero]; rfl
          case hQr1q2 => exact fun _ _ _ h => h
          case hwr1q2 => rfl
          case hyr1q2 => (intro w hSw; (try dsimp only at hSw); go_simp; (try with_reducible rfl))
          simp only [Act.put, List.setIfInBounds_toArray, List.set_cons_zero, List.set_cons_succ]
          refine wpAnyH_take (i := 4) (oi := ?dqr1q4) (v := ?dvr1q4) ?hir1q4 (by kernel_rfl) (by kernel_rfl) (by kernel_rfl) ?hQr1q4 (Or.inl ⟨?hwr1q4, ?hyr1q4⟩) hS ?hrr1q4
          case hir1q4 => simp only [List.getElem?_toArray, List.getElem?_cons_succ, List.getElem?_cons_zero]; rfl
          case hQr1q4 => exact fun _ _ _ h => h
          case hwr1q4 => rfl
          case hyr1q4 => (intro w hSw; (try dsimp only at hSw); go_simp; (try with_reducible rfl))
          simp only [Act.put, List.setIfInBounds_toArray, List.set_cons_zero, List.set_cons_succ]
          refine wpAnyH_take (i := 5) (oi := ?dqr1q5) (v := ?dvr1q5) ?hir1q5 (by kernel_rfl) (by kernel_rfl) (by kernel_rfl) ?hQr1q5 (Or.inl ⟨?hwr1q5, ?hyr1q5⟩) hS ?hrr1q5
          case hir1q5 => simp only [List.getElem?_toArray, List.getElem?_cons_succ, List.getElem?_cons_zero]; rfl
          case hQr1q5 => exact fun _ _ _ h => h
          case hwr1q5 => rfl
          case hyr1q5 => (intro w hSw; (try dsimp only at hSw); go_simp; (try with_reducible rfl))
          simp only [Act.put, List.setIfInBounds_toArray, List.set_cons_zero, List.set_cons_succ]
          refine wpAnyH_take (i := 8) (oi := ?dqr1q8) (v := ?dvr1q8) ?hir1q8 (by kernel_rfl) (by kernel_rfl) (by kernel_rfl) ?hQr1q8 (Or.inl ⟨?hwr1q8, ?hyr1q8⟩) hS ?hrr1q8
          case hir1q8 => simp only [List.getElem?_toArray, List.getElem?_cons_succ, List.getElem?_cons_zero]; rfl
          case hQr1q8 => exact fun _ _ _ h => h
          case hwr1q8 => rfl
          case hyr1q8 => (intro w hSw; (try dsimp only at hSw); go_simp; (try with_reducible rfl))
          simp only [Act.put, List.setIfInBounds_toArray, List.set_cons_zero, List.set_cons_succ]
          refine wpAnyH_take (i := 9) (oi := ?dqr1q9) (v := ?dvr1q9) ?hir1q9 (by kernel_rfl) (by kernel_rfl) (by kernel_rfl) ?hQr1q9 (Or.inl ⟨?hwr1q9, ?hyr1q9⟩) hS ?hrr1q9
          case hir1q9 => simp only [List.getElem?_toArray, List.getElem?_cons_succ, List.getElem?_cons_zero]; rfl
          case hQr1q9 => exact fun _ _ _ h => h
          case hwr1q9 => rfl
          case hyr1q9 => (intro w hSw; (try dsimp only at hSw); go_simp; (try with_reducible rfl))
          simp only [Act.put, List.setIfInBounds_toArray, List.set_cons_zero, List.set_cons_succ]
          refine wpAnyH_take (i := 11) (oi := ?dqr1q11) (v := ?dvr1q11) ?hir1q11 (by kernel_rfl) (by kernel_rfl) (by kernel_rfl) ?hQr1q11 (Or.inl ⟨?hwr1q11, ?hyr1q11⟩) hS ?hrr1q11
          case hir1q11 => simp only [List.getElem?_toArray, List.getElem?_cons_succ, List.getElem?_cons_zero]; rfl
          case hQr1q11 => exact fun _ _ _ h => h
          case hwr1q11 => rfl
          case hyr1q11 => (intro w hSw; (try dsimp only at hSw); go_simp; (try with_reducible rfl))
          simp only [Act.put, List.setIfInBounds_toArray, List.set_cons_zero, List.set_cons_succ]
          refine wpAnyH_take (i := 12) (oi := ?dqr1q12) (v := ?dvr1q12) ?hir1q12 (by kernel_rfl) (by kernel_rfl) (by kernel_rfl) ?hQr1q12 (Or.inl ⟨?hwr1q12, ?hyr1q12⟩) hS ?hrr1q12
          case hir1q12 => simp only [List.getElem?_toArray, List.getElem?_cons_succ, List.getElem?_cons_zero]; rfl
          case hQr1q12 => exact fun _ _ _ h => h
          case hwr1q12 => rfl
          case hyr1q12 => (intro w hSw; (try dsimp only at hSw); go_simp; (try with_reducible rfl))
          simp only [Act.put, List.setIfInBounds_toArray, List.set_cons_zero, List.set_cons_succ]
          refine wpAnyH_ready (rs := [3]) (by kernel_rfl) (by simp) ?_
          refine AllReadyH.cons (o := ?dqr1q3) ?hir1q3 (fun K hK => ?_) AllReadyH.nil
          case hir1q3 => simp only [List.getElem?_toArray, List.getElem?_cons_succ, List.getElem?_cons_zero]; rfl
          go_simp
          go_at_call 29
          (with_reducible refine cRa.out.mono ?_)
          rintro e w'' ⟨rfl, rfl⟩
          have hS2 := hS
          clear hS
          refine hK.out _ _ hS2 (fun hS => ?_)
          clear hS2 hK K
          try simp only [Act.put, List.setIfInBounds_toArray, List.set_cons_zero, List.set_cons_succ]
          refine wpAnyH_ready (rs := [6]) (by kernel_rfl) (by simp) ?_
          refine AllReadyH.cons (o := ?dqr1q6) ?hir1q6 (fun K hK => ?_) AllReadyH.nil
          case hir1q6 => simp only [List.getElem?_toArray, List.getElem?_cons_succ, List.getElem?_cons_zero]; rfl
          go_simp
          go_at_call 29
          (with_reducible refine cRc.out.mono ?_)
          rintro e w'' ⟨rfl, rfl⟩
          have hS2 := hS
          clear hS
          refine hK.out _ _ hS2 (fun hS => ?_)
          clear hS2 hK K
          try simp only [Act.put, List.setIfInBounds_toArray, List.set_cons_zero, List.set_cons_succ]
          refine wpAnyH_take (i := 7) (oi := ?dqr1q7) (v := ?dvr1q7) ?hir1q7 (by kernel_rfl) (by kernel_rfl) (by kernel_rfl) ?hQr1q7 (Or.inl ⟨?hwr1q7, ?hyr1q7⟩) hS ?hrr1q7
          case hir1q7 => simp only [List.getElem?_toArray, List.getElem?_cons_succ, List.getElem?_cons_zero]; rfl
          case hQr1q7 => exact fun _ _ _ h => h
          case hwr1q7 => rfl
          case hyr1q7 => (intro w hSw; (try dsimp only at hSw); go_simp; (try with_reducible rfl))
          simp only [Act.put, List.setIfInBounds_toArray, List.set_cons_zero, List.set_cons_succ]
          refine wpAnyH_ready (rs := [10]) (by kernel_rfl) (by simp) ?_
          refine AllReadyH.cons (o := ?dqr1q10) ?hir1q10 (fun K hK => ?_) AllReadyH.nil
          case hir1q10 => simp only [List.getElem?_toArray, List.getElem?_cons_succ, List.getElem?_cons_zero]; rfl
          go_simp
          go_at_call 30
          (with_reducible refine cLa.out.mono ?_)
          rintro e w'' ⟨rfl, rfl⟩
          have hS2 := hS
          clear hS
          refine hK.out _ _ hS2 (fun hS => ?_)
          clear hS2 hK K
          try simp only [Act.put, List.setIfInBounds_toArray, List.set_cons_zero, List.set_cons_succ]
          refine wpAnyH_ready (rs := [13]) (by kernel_rfl) (by simp) ?_
          refine AllReadyH.cons (o := ?dqr1q13) ?hir1q13 (fun K hK => ?_) AllReadyH.nil
          case hir1q13 => simp only [List.getElem?_toArray, List.getElem?_cons_succ, List.getElem?_cons_zero]; rfl
          go_simp
          go_at_call 30
          (with_reducible refine cLc.out.mono ?_)
          rintro e w'' ⟨rfl, rfl⟩
          have hS2 := hS
          clear hS
          refine hK.out _ _ hS2 (fun hS => ?_)
          clear hS2 hK K
          try simp only [Act.put, List.setIfInBounds_toArray, List.set_cons_zero, List.set_cons_succ]
          refine wpAnyH_take (i := 14) (oi := ?dqr1q14) (v := ?dvr1q14) ?hir1q14 (by kernel_rfl) (by kernel_rfl) (by kernel_rfl) ?hQr1q14 (Or.inl ⟨?hwr1q14, ?hyr1q14⟩) hS ?hrr1q14
          case hir1q14 => simp only [List.getElem?_toArray, List.getElem?_cons_succ, List.getElem?_cons_zero]; rfl
          case hQr1q14 => exact fun _ _ _ h => h
          case hwr1q14 => rfl
          case hyr1q14 => (intro w hSw; (try dsimp only at hSw); go_simp; (try with_reducible rfl))
          simp only [Act.put, List.setIfInBounds_toArray, List.set_cons_zero, List.set_cons_succ]
          refine wpAnyH_ready (rs := [15]) (by kernel_rfl) (by simp) ?_
          refine AllReadyH.cons (o := ?dqr1q15) ?hir1q15 (fun K hK => ?_) AllReadyH.nil
          case hir1q15 => simp only [List.getElem?_toArray, List.getElem?_cons_succ, List.getElem?_cons_zero]; rfl
          go_simp
          have hS2 := (⟨keep_cell (((Below.refl _ w').alloc (Nat.le_refl _) _).drew) y0, keep_cell (((Below.refl _ w').alloc (Nat.le_refl _) _).drew) y1⟩ : ((w'.alloc (.cells #[.pointer apr, .pointer cpr, .pointer apl, .pointer cpl] 64)).drew.cell? ⟨s, 0, none⟩ = some (.pointer (some aa)) ∧ (w'.alloc (.cells #[.pointer apr, .pointer cpr, .pointer apl, .pointer cpl] 64)).drew.cell? ⟨s, 1, none⟩ = some (.pointer (some ac))))
          clear hS
          refine hK.out _ _ hS2 (fun hS => ?_)
          clear hS2 hK K
          try simp only [Act.put, List.setIfInBounds_toArray, List.set_cons_zero, List.set_cons_succ]
          refine wpAnyH_ready (rs := [16]) (by kernel_rfl) (by simp) ?_
          refine AllReadyH.cons (o := ?dqr1q16) ?hir1q16 (fun K hK => ?_) AllReadyH.nil
          case hir1q16 => simp only [List.getElem?_toArray, List.getElem?_cons_succ, List.getElem?_cons_zero]; rfl
          refine step_append_row (by rfl) _ _ 65 (by rfl) w.heap.size 64 j0 (.agg #[.pointer none, .pointer none]) 2 16 Tryd.underlying65 jin jz0 jz1 jz2 rfl (by decide) (.slice (some ⟨g, 0, none⟩) n c) n (twos rs) (by rfl) o8.out (some ⟨w'.heap.size, 0, none⟩) 2 2 [.pointer apr, .pointer cpr, .pointer apl, .pointer cpl] (by rfl) (by simp) (Nat.le_refl _) rfl _ r8.out M3.out M1.out M2.out SZ7.out ?_
          intro v9 w9 ho9 hg9
          have hS2 := (⟨World.grownBy.cell hg9 hS.1 hsg, World.grownBy.cell hg9 hS.2 hsg⟩ : w9.cell? ⟨s, 0, none⟩ = some (.pointer (some aa)) ∧ w9.cell? ⟨s, 1, none⟩ = some (.pointer (some ac)))
          clear hS
          refine hK.out _ _ hS2 (fun hS => ?_)
          clear hS2 hK K
          try simp only [Act.put, List.setIfInBounds_toArray, List.set_cons_zero, List.set_cons_succ]
          refine wpAnyH_take (i := 17) (oi := ?dqr1q17) (v := ?dvr1q17) ?hir1q17 (by kernel_rfl) (by kernel_rfl) (by kernel_rfl) ?hQr1q17 (Or.inl ⟨?hwr1q17, ?hyr1q17⟩) hS ?hrr1q17
          case hir1q17 => simp only [List.getElem?_toArray, List.getElem?_cons_succ, List.getElem?_cons_zero]; rfl
          case hQr1q17 => exact fun _ _ _ h => h
          case hwr1q17 => rfl
          case hyr1q17 => (intro w hSw; (try dsimp only at hSw); go_simp; (try with_reducible rfl))
          simp only [Act.put, List.setIfInBounds_toArray, List.set_cons_zero, List.set_cons_succ]
          refine wpAnyH_done (by kernel_rfl) ?_ _
          -- END9
          have o9 : Hid (w9.ownsRow w.heap.size 64 2 v9 (n + 2) (twos (⟨al, apl, cl, cpl⟩ :: ⟨ar, apr, cr, cpr⟩ :: rs))) := by
            show w9.ownsRow _ _ _ _ _ _
            rw [twos_cons, twos_cons, List.append_assoc]
            exact ho9
          have b9 := Lib.hid (b8.out.grown hg9 SZ7.out (fun r e => (o8.out.lt r e).1))
          clear ho9 hg9 hS o8 r8 b8 y0 y1
          go_wp2_with fail
          go_roundg (loadP (⟨al, apl, cl, cpl⟩ :: ⟨ar, apr, cr, cpr⟩ :: rs))
          case measure => exact hk4.out
          case rel =>
            have h4 := hk4.out
            refine ⟨⟨al, apl, cl, cpl⟩ :: ⟨ar, apr, cr, cpr⟩ :: rs, ?_, ?_, b9.out, hbt'.out.trans ⟨fun h x hx => ?_, fun h x hx => ?_⟩, rfl, by omega⟩
            · have e3 : List.length (⟨al, apl, cl, cpl⟩ :: ⟨ar, apr, cr, cpr⟩ :: rs) = n + 2 := by simp only [List.length_cons]; rw [hn'.out]
              rw [e3]; exact o9.out
            · intro x hx
              rcases List.mem_cons.1 hx with rfl | hx
              · exact ⟨hal'.out, hcl'.out, (by omega : al.size ≤ 5000), (by omega : cl.size ≤ 5000)⟩
              · rcases List.mem_cons.1 hx with rfl | hx
                · exact ⟨har'.out, hcr'.out, (by omega : ar.size ≤ 5000), (by omega : cr.size ≤ 5000)⟩
                · exact htr'.out x (List.mem_cons_of_mem _ hx)
            · have h0 := h ⟨.n al kk vv gg ar, some aa, .n cl kk vv gg cr, some ac⟩ (List.mem_cons_self ..)
              have h1 : Tr.n al kk vv gg ar = Tr.n cl kk vv gg cr := h0
              injection h1 with e1 _ _ _ e2
              rcases List.mem_cons.1 hx with rfl | hx
              · exact e1
              · rcases List.mem_cons.1 hx with rfl | hx
                · exact e2
                · exact h x (List.mem_cons_of_mem _ hx)
            · have e1 : al = cl := h ⟨al, apl, cl, cpl⟩ (List.mem_cons_self ..)
              have e2 : ar = cr := h ⟨ar, apr, cr, cpr⟩ (List.mem_cons_of_mem _ (List.mem_cons_self ..))
              rcases List.mem_cons.1 hx with rfl | hx
              · show Tr.n al kk vv gg ar = Tr.n cl kk vv gg cr
                rw [e1, e2]
              · exact h x (List.mem_cons_of_mem _ (List.mem_cons_of_mem _ hx))
end Go.Proofs.YtlhnjgmjkoafpaaDoor
