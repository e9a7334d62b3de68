/- Package treap, as landed: Of; and what the package answers. Made by wip/gen/layer20of.py. -/
import Derived.Test.YtcnkgddldhkddaaDoorJC
import Derived.Test.YtcnkgddldhkddaaDoorGRound
import Derived.BigRegionIn
import Derived.Sort.CutIn
import Derived.Laws.EntriesVeiled
import Derived.Test.YtcnkgddldhkddaaDoorJB
import Derived.Test.YtcnkgddldhkddaaDoorGApart
import Derived.Test.YtcnkgddldhkddaaDoorGHeld
import Derived.Test.YtcnkgddldhkddaaDoorL9At
/- Package beads, as landed (what avl, rb, wb share): the walk over a tree's nodes, and what starts it. -/
namespace Go.Proofs.YtcnkgddldhkddaaDoor
open Go.RowKit Go.Shelf Go.Proofs.Treem
attribute [local go_sem] Oper.semAt_some
set_option maxRecDepth 100000
variable {Nd : NdP}

set_option maxHeartbeats 8000000 in
theorem once_turns (hN : NodeSays Nd) (w0 : World) (f : Tr → Nat) (t : Tr) (p : Option Addr) (ht : TreeAt Nd w0 w0.heap.size t p) (h5 : t.size ≤ 5000) (gT : Nat) (w : World) (hb0 : Below w0.heap.size w0 w) (hP : Boxed w gT 25 (.pointer p)) (n : Nat) :
    SeqTurns mine14 Fence.wide n Tryd.prog 50 #[.pointer (some ⟨gT, 0, none⟩)] (fun x : It14 => #[nI x.1, .pointer (some x.2.2)]) (Kf none14 w0.heap.size) (Told14 Nd f t w0) (fun xs => (∀ y ∈ xs, f y.2.1 = 0) → errF f t = 0) w := fun l J Jx W hbW hJ hJx hY hJ0 => by
  obtain ⟨i0, hin, hz0, hz1, hz2⟩ := info_parts info_ptr14
  obtain ⟨B', hB'⟩ : ∃ b, W.heap.size = b := ⟨_, rfl⟩
  obtain ⟨r, hr⟩ : ∃ b, W.heap.size = b := ⟨_, rfl⟩
  have bw : Below w0.heap.size w0 W := hb0.trans (hbW.mono hb0.size)
  have xP : W.cell? ⟨gT, 0, none⟩ = some (.pointer p) := keep_cell hbW hP.cell
  have hgT : gT < W.heap.size := Nat.lt_of_lt_of_le hP.lt hbW.size
  have gnone : ∀ V, GoodP V none := fun V a e => by cases e
  obtain ⟨W1, hW1⟩ : ∃ W1, (W.alloc (.map #[] 0)).putObj r (setO [none]) = W1 := ⟨_, rfl⟩
  have hm0 : (W.alloc (.map #[] 0)).heap[r]? = some (setO []) := hr ▸ World.alloc_heap_new W _
  have hput : (Instr.mapUpdate 82 (.map (some W.heap.size)) (.pointer none) (.bool true)).run Tryd.prog (W.alloc (.map #[] 0)) = .ok () W1 := by
    rw [hr, ← hW1]
    exact put14 _ r [] hm0 (fun q hq => by cases hq) none (gnone _) (by simp)
  have hmm := @run_makeMap Tryd.prog
  have ha : Below W.heap.size W (W.alloc (.map #[] 0)) := (Below.refl _ W).alloc (Nat.le_refl _) _
  have b1 : Below W.heap.size W W1 := by
    have hk : Kf (fun _ => false) r (W.alloc (.map #[] 0)) ((W.alloc (.map #[] 0)).putObj r (setO [none])) := Kf.putObj _ r _ _ (Nat.le_refl _) hm0 rfl
    rw [hW1] at hk
    exact ha.trans (hr ▸ hk.below)
  have been1 : W1.heap[r]? = some (setO [none]) := hW1 ▸ World.putObj_heap_same (Array.getElem?_eq_some_iff.1 hm0).1
  have xP1 : W1.cell? ⟨gT, 0, none⟩ = some (.pointer p) := keep_cell b1 xP
  obtain ⟨W2, hW2⟩ : ∃ W2, W1.alloc (.cells #[.pointer p] 25) = W2 := ⟨_, rfl⟩
  obtain ⟨gO, hgO⟩ : ∃ g, W1.heap.size = g := ⟨_, rfl⟩
  have b2 : Below W1.heap.size W1 W2 := hW2 ▸ (Below.refl _ W1).alloc (Nat.le_refl _) _
  have ow2 : W2.ownsRow B' 25 1 (.slice (some ⟨gO, 0, none⟩) 1 1) 1 [.pointer p] := hgO ▸ hW2 ▸ World.ownsRow_lit W1 #[.pointer p] 1 (hB' ▸ b1.size) (by decide) rfl
  rw [hB'] at hJ hJx hY
  have h1 : At14 Nd w0 r B' J [none] [(t, p)] [] (.slice (some ⟨gO, 0, none⟩) 1 1) W2 :=
    ⟨bw.trans ((Below.after b1 b2).mono bw.size), (b2.block r (Array.getElem?_eq_some_iff.1 been1).1).trans been1, List.mem_singleton.2 rfl, (fun q hq => by rw [List.mem_singleton.1 hq]; exact gnone _), ow2, (fun u hu => by rw [List.mem_singleton.1 hu]; exact ht), hJ _ _ _ hJ0 (.of_below (Below.after b1 b2)), by show 2 * t.size + 1 + 0 ≤ _; omega, hB' ▸ (Below.after b1 b2).size, hB' ▸ bw.size, by omega⟩
  have H1 := Lib.hid h1
  have G1 : Hid (Go14 Nd f t w0 [none] [(t, p)] [] 0) := Go14.start f t w0 p
  have H5000 := Lib.hid h5
  obtain ⟨mu, hmu⟩ := least_of (α := Value × Value × World) (fun m q => ∃ (S : List (Option Addr)) (us : List (Tr × Option Addr)) (pre : List It14) (pl : Nat), m = load14 us ∧ q.1 = nI pl ∧ At14 Nd w0 r B' J S us pre q.2.1 q.2.2 ∧ Go14 Nd f t w0 S us pre pl)
  have hmu' := Lib.hid hmu
  have HW1 := Lib.hid hW1
  have HW2 := Lib.hid hW2
  have HR := Lib.hid hr
  have HO := Lib.hid hgO
  have hN' := Lib.hid hN
  have hJ' := Lib.hid hJ
  have hY' := Lib.hid hY
  clear hmu hW1 hW2 hr hgO hN hJ hJx hY h1 bw b1 b2 ow2 been1 ha hm0 hJ0 hB' ht h5 hb0 hP hbW gnone hgT
  refine callsIn_of_wp Tryd.func50 rfl trivial ?_ rfl
  simp only [Tryd.ntmps50, List.size_toArray, List.length_cons, List.length_nil, Nat.reduceAdd, Nat.reduceSub, Array.replicate_succ, Array.replicate_zero, List.push_toArray, List.append_toArray, List.nil_append, List.cons_append]
  refine wpIn_wide.2 ?_
  go_upto_region 2 with (fail)
  clear hput hmm xP
  rw [HR.out]
  go_wp2_with fail
  rw [HW2.out, HO.out]
  clear xP1
  go_loopw [3, 5] (fun x v wr => ∃ (m : Nat) (S : List (Option Addr)) (us : List (Tr × Option Addr)) (pre : List It14) (pl : Nat), m = load14 us ∧ x = nI pl ∧ At14 Nd w0 r B' J S us pre v wr ∧ Go14 Nd f t w0 S us pre pl) (fun x v wr => mu (x, v, wr))
  case atStart => exact ⟨_, _, _, _, 0, rfl, rfl, H1.out, G1.out⟩
  case round =>
    clear H1 G1
    obtain ⟨m, hm⟩ := hrel
    obtain ⟨⟨S, us, pre, pl, em, ex, h3, G3⟩, -⟩ := hmu'.out (_, _, wr) m hm
    simp only at h3 ex
    subst ex
    have G3 := Lib.hid G3
    obtain ⟨A, c, rfl, hcn, -, -⟩ := own_slice h3.ow
    cases us with
    | nil =>
      have H3 := Lib.hid h3
      clear h3 hm em hcn
      go_wp2_with fail
      go_end0
      exact ⟨⟨_, rfl⟩, .inl ⟨pre, G3.out.done, H3.out.j⟩⟩
    | cons u us =>
      obtain ⟨tn, q⟩ := u
      obtain ⟨mm, hmm⟩ : ∃ n, us.length = n := ⟨_, rfl⟩
      obtain ⟨nn, hnn⟩ : ∃ n, mm + 1 = n := ⟨_, rfl⟩
      have hld := h3.ld
      have hfew := load14_len us
      rw [hmm] at hfew
      rw [load14_cons] at hld em
      simp only at hld em
      have d5 : mm ≤ 10001 := by omega
      obtain ⟨ad, rfl, g0⟩ := h3.top hmm
      have htn : TreeAt Nd w0 w0.heap.size tn q := h3.ls _ (List.mem_cons_self ..)
      have gq0 : GoodP w0 q := good_tree14 hN'.out htn
      have gq : GoodP wr q := gq0.below h3.base
      rw [List.length_cons, hmm, hnn] at h3 hcn em ⊢
      have e1 : wrap64 ((nn : Int) - 1) = (mm : Int) := by unfold wrap64; omega
      have d1 : decide ((0 : Int) < (nn : Int)) = true := decide_eq_true (by omega)
      have d2 : 0 < nn := by omega
      have hix : mm < nn := by omega
      have ct : ∀ W, (Instr.slice 60 (.slice (some ad) nn c) none (some (.int .i64 (mm : Int))) none).run Tryd.prog W = .ok (.slice (some ad) mm c) W := cut_to Tryd.underlying60 size_ptr14 (some ad) nn c mm _ rfl (by omega)
      have hnS : none ∈ S := h3.none
      obtain ⟨B, hB⟩ : ∃ b, decide (q ∈ S) = b := ⟨_, rfl⟩
      have lk := look14 wr r S h3.been h3.goods q gq B hB
      have H4 := Lib.hid (h3.pop hmm hnn)
      have hnn' := Lib.hid hnn
      have hmm' := Lib.hid hmm
      have em' := Lib.hid em
      have htn' := Lib.hid htn
      have hld' := Lib.hid hld
      have hB' := Lib.hid hB
      have gq' := Lib.hid gq
      have gq0' := Lib.hid gq0
      have hnS' := Lib.hid hnS
      clear h3 hm em hcn hnn hmm htn hld hfew hB gq gq0 hnS
      cases B with
      | true =>
        have hq : q ∈ S := of_decide_eq_true hB'.out
        have G5 := Lib.hid (G3.out.again htn'.out hq)
        have hs5 := G5.out.size
        have h50 := H5000.out
        have e5 : wrap64 ((pl : Int) + (tn.size : Int)) = ((pl + tn.size : Nat) : Int) := by unfold wrap64; omega
        have cZ : Hid (Calls Tryd.prog 33 #[.pointer q] wr fun e w' => e = .returned (nI tn.size) ∧ Below wr.heap.size wr w') := size_any14 hN'.out (htn'.out.next hN'.out H4.out.base) (by omega)
        obtain ⟨sz, hsz⟩ : ∃ s, tn.size = s := ⟨_, rfl⟩
        have hsz' := Lib.hid hsz
        rw [hsz] at e5 cZ
        clear hs5 h50 hq hsz
        go_wp2_with fail
        refine cZ.out.mono ?_
        rintro e w5 ⟨rfl, hb5⟩
        have H5 := Lib.hid (H4.out.below hJ'.out hb5)
        clear hb5 cZ
        have hm := Lib.hid (hmu'.out (nI (pl + tn.size), .slice (some ad) mm c, w5) _ ⟨_, _, _, pl + tn.size, rfl, rfl, H5.out, G5.out⟩)
        rw [hsz'.out] at hm
        go_wp2_with fail
        go_roundw
        case rel => rw [e5]; exact ⟨_, (hm.out).1⟩
        case measure =>
          rw [e5]
          have h1 : mu (.int .i64 ((pl + sz : Nat) : Int), .slice (some ad) mm c, w5) ≤ _ := hm.out.2
          have h2 := em'.out
          omega
      | false =>
        have hq : q ∉ S := of_decide_eq_false hB'.out
        have hp := put14 wr r S H4.out.been H4.out.goods q gq'.out hq
        have H5 := Lib.hid (H4.out.put (p := q) hJ'.out gq0'.out)
        obtain ⟨wb, hwb⟩ : ∃ wb, wr.putObj r (setO (S ++ [q])) = wb := ⟨_, rfl⟩
        rw [hwb] at hp H5
        clear hwb H4
        cases tn with
        | e =>
          obtain rfl : q = none := htn'.out
          exact absurd hnS'.out hq
        | n tl k x g tr =>
          obtain ⟨a, pL, pr, rfl, hnd, hl, hr⟩ := htn'.out
          have G6 := Lib.hid (Go14.step (p1 := pL) (p2 := pr) hN'.out G3.out htn'.out)
          have hs5 := G3.out.size
          rw [size14_cons, Tr.size] at hs5
          have h50 := H5000.out
          have hTold : Told14 Nd f t w0 pre (pl, .n tl k x g tr, a) wb := ⟨htn'.out, H5.out.base, by show pl + (1 + tl.size + tr.size) ≤ 5000; omega, G3.out.told⟩
          have e5 : wrap64 ((pl : Int) + 1) = ((pl + 1 : Nat) : Int) := by unfold wrap64; omega
          clear hs5 h50
          obtain ⟨fnY, tmY, asY, bdY, hyv, hR⟩ := round_any (m' := 0) (show YieldAt _ _ _ _ #[.int .i64 (pl : Int), .pointer (some a)] wb _ from hY'.out pre (pl, .n tl k x g tr, a) wb H5.out.j hTold)
          have hR' := Lib.hid hR
          have hnd' := Lib.hid hnd
          have hl' := Lib.hid hl
          have hr' := Lib.hid hr
          have hsz : Hid (Tr.size (.n tl k x g tr) = 1 + tl.size + tr.size) := rfl
          rw [hsz.out] at em' hld'
          clear hR hTold hnd hl hr hsz hq
          go_upto_region 10 with (fail)
          refine (wpIn_wide (n := 0)).1 ?_
          gi_wp2
          refine ⟨rfl, ?_⟩
          refine hR'.out.mono ?_
          clear hR' hyv hp lk g0
          rintro e wy ⟨⟨rfl, hj, hk⟩ | ⟨rfl, hx⟩, hf⟩
          · have HY := Lib.hid (H5.out.yielded hj hk hf)
            have bY := HY.out.base
            have cR : Hid (Calls Tryd.prog 30 #[.pointer (some a)] wy fun e w' => e = .returned (.pointer pr) ∧ wy = w') := hN'.out.right wy w0.heap.size a _ (hN'.out.next hnd'.out bY)
            have cL : Hid (Calls Tryd.prog 29 #[.pointer (some a)] wy fun e w' => e = .returned (.pointer pL) ∧ wy = w') := hN'.out.left wy w0.heap.size a _ (hN'.out.next hnd'.out bY)
            have hsl : wy.ownsRow B' 25 1 (.slice (some ad) mm c) mm (ptrs14 us.reverse) := hmm'.out ▸ HY.out.ow
            have hby : B' ≤ wy.heap.size := HY.out.sz
            clear hj hk hf bY
            gi_wp2
            go_wp2_with fail
            refine cR.out.mono ?_
            rintro e w' ⟨rfl, rfl⟩
            go_wp2_with fail
            refine cL.out.mono ?_
            rintro e w' ⟨rfl, rfl⟩
            go_wp2_with (
              (at_builtin
               refine wpList_append_own _ rfl _ _ 60 rfl B' 25 i0 (.pointer none) 1 8 Tryd.underlying60 hin hz0 hz1 hz2 rfl (by decide) (.slice (some ad) mm c) mm (ptrs14 us.reverse) rfl (hsl.alloc _) ⟨wy.heap.size, 0, none⟩ 2 2 [.pointer pr, .pointer pL] rfl rfl (fun j u hu => ((Has.new wy 25 #[.pointer pr, .pointer pL]).row.at_ hu).2) (by simp [Value.oneCell']) (by unfold maxLen; omega) (by omega) (by simp; omega) ?_
               intro v2 w4 hown' hgrow _
               obtain ⟨g', cap', rfl⟩ := ownsRow_succ hown'
               have H9 := Lib.hid (HY.out.push (tl := tl) (tr := tr) (pl := pL) (pr := pr) hJ'.out hl'.out hr'.out (by have := hld'.out; omega) (by rw [hmm'.out]; exact hown') hgrow)
               have hm := Lib.hid (hmu'.out (nI (pl + 1), _, w4) _ ⟨_, _, _, pl + 1, rfl, rfl, H9.out, G6.out⟩)))
            go_roundw
            case rel => exact ⟨_, (hm.out).1⟩
            case measure =>
              have h1 := hm.out.2
              have h2 := em'.out
              rw [load14_cons, load14_cons, show nI (pl + 1) = Value.int .i64 ((pl : Int) + 1) from rfl] at h1
              simp only at h1
              omega
          · have hx' := Lib.hid hx
            clear hx
            gi_wp2
            go_wp2_with fail
            exact bodyPost_ret (results_none rfl _ _ _) rfl ⟨⟨_, rfl⟩, .inr ⟨_, hx'.out⟩⟩
set_option maxHeartbeats 1000000 in
theorem once_any (p : Option Addr) (w : World) : Calls Tryd.prog 32 #[.pointer p] w fun e w' =>
    e = .returned (.func (.func 50) #[] #[.pointer (some ⟨w.heap.size, 0, none⟩)]) ∧ w.alloc (.cells #[.pointer p] 25) = w' := by
  go_enter Tryd.func32, Tryd.ntmps32
  go_wp2
  go_ret
  exact ⟨rfl, rfl⟩
end Go.Proofs.YtcnkgddldhkddaaDoor
/- Package treap, as landed: Check. Made by wip/gen/layer20check.py. -/
namespace Go.Proofs.YtcnkgddldhkddaaDoor
open Go.RowKit Go.Shelf Go.Proofs.Treem
attribute [local go_sem] Oper.semAt_some
set_option maxRecDepth 100000
variable {Nd : NdP}

theorem above_root (t l r : Tr) (k v g : BitVec 64) : aboveT t (.n l k v g r) = overT t ⟨k, v, g⟩ := by cases t <;> rfl
set_option maxHeartbeats 8000000 in
theorem treapCheck_any (hN : NodeSays Nd) (w : World) (t : Tr) (p : Option Addr) (ht : TreeAt Nd w w.heap.size t p) (h5 : t.size ≤ 5000) : Calls Tryd.prog 10 #[.pointer p] w fun e w' => e = .returned (.tuple #[nI (placeF rootP t), nI (errF rootP t)]) ∧ Below w.heap.size w w' := by
  obtain ⟨gI, hgI⟩ : ∃ g, w.heap.size = g := ⟨_, rfl⟩
  obtain ⟨gE, hgE⟩ : ∃ g, w.heap.size + 1 = g := ⟨_, rfl⟩
  obtain ⟨Wa, hWa⟩ : ∃ W, (w.alloc (.cells #[.int .i64 0] 3)).alloc (.cells #[.int .i64 0] 27) = W := ⟨_, rfl⟩
  have bI : Boxed Wa gI 3 (.int .i64 0) := hgI ▸ hWa ▸ (Boxed.new w _ _).alloc _
  have bE : Boxed Wa gE 27 (.int .i64 0) := by
    have := Boxed.new (w.alloc (.cells #[.int .i64 0] 3)) 27 (.int .i64 0)
    rw [World.size_alloc, hgE, hWa] at this
    exact this
  have ba : Below w.heap.size w Wa := hWa ▸ ((Below.refl _ w).alloc (Nat.le_refl _) _).alloc (by simp) _
  have cZ : Hid (∀ W, Below w.heap.size w W → Calls Tryd.prog 33 #[.pointer p] W fun e w' => e = .returned (nI t.size) ∧ Below W.heap.size W w') := fun W h => size_any14 hN (ht.after hN h) h5
  have cS : Hid (∀ (gT : Nat) (W : World), Below w.heap.size w W → Boxed W gT 25 (.pointer p) → ∀ n, SeqTurns mine14 Fence.wide n Tryd.prog 50 #[.pointer (some ⟨gT, 0, none⟩)] (fun x : It14 => #[nI x.1, .pointer (some x.2.2)]) (Kf none14 w.heap.size) (Told14 Nd rootP t w) (fun xs => (∀ y ∈ xs, rootP y.2.1 = 0) → errF rootP t = 0) W) :=
    fun gT W hb h2 n => once_turns hN w rootP t p ht h5 gT W hb h2 n
  obtain ⟨sz, hsz⟩ : ∃ s, t.size = s := ⟨_, rfl⟩
  have hall : Hid (errF rootP t = 0 → placeF rootP t = sz) := fun h => hsz ▸ placeF_all t h
  rw [hsz] at cZ
  have HWa := Lib.hid hWa
  have HI := Lib.hid hgI
  have HE := Lib.hid hgE
  have ba' := Lib.hid ba
  have bI' := Lib.hid bI
  have bE' := Lib.hid bE
  have hN' := Lib.hid hN
  have GIE : Hid (gI ≠ gE) := by have : gI ≠ gE := by omega
                                 exact this
  clear hWa hgI hgE ba bI bE hN ht h5 hsz
  refine (callsIn_wide (n := 9)).1 ?_
  refine callsIn_of_wp_marks Tryd.func10 rfl trivial ?_ rfl
  simp only [Tryd.ntmps10, List.size_toArray, List.length_cons, List.length_nil, Nat.reduceAdd, Nat.reduceSub, Array.replicate_succ, Array.replicate_zero, List.push_toArray, List.append_toArray, List.nil_append, List.cons_append]
  refine wpIn_wide.2 ?_
  go_upto_region 1 with (fail)
  rw [HWa.out, HE.out, HI.out]
  go_wp2_with fail
  refine (once_any p Wa).mono ?_
  rintro e W5 ⟨rfl, hW5⟩
  obtain ⟨gT, hgT⟩ : ∃ g, Wa.heap.size = g := ⟨_, rfl⟩
  rw [hgT]
  have bN : Below Wa.heap.size Wa W5 := hW5 ▸ (Below.refl _ Wa).alloc (Nat.le_refl _) _
  have bT : Boxed W5 gT 25 (.pointer p) := hgT ▸ hW5 ▸ Boxed.new Wa _ _
  have i5 : Boxed W5 gI 3 (.int .i64 0) := Has.next (show Has _ _ _ _ from bI'.out) bN
  have e5 : Boxed W5 gE 27 (.int .i64 0) := Has.next (show Has _ _ _ _ from bE'.out) bN
  have hB5 : Below w.heap.size w W5 := Below.after ba'.out bN
  have hseq := cS.out gT W5 hB5 bT
  clear hW5 hgT bN bT bI' bE' cS HWa ba'
  go_wp2_with fail
  refine (wpIn_wide (n := 9)).1 ?_
  refine wpIn_rangeFunc_turns (α := It14) rfl (by omega) (gf := 50) (lb := #[.pointer (some ⟨gT, 0, none⟩)]) rfl trivial (enters_of Tryd.func50 (by kernel_rfl) rfl)
    (hseq _) Kf.trans (Kf.put hB5.size) (Below.refl _ _) (fun _ => rfl)
    (fun pre W => (Boxed W gI 3 (.int .i64 0) ∧ Boxed W gE 27 (.int .i64 0)) ∧ (∀ y ∈ pre, rootP y.2.1 = 0) ∧ Below w.heap.size w W)
    (fun c _ W => (c = .ret ∧ Boxed W gI 3 (nI (placeF rootP t)) ∧ Boxed W gE 27 (nI (errF rootP t))) ∧ Below w.heap.size w W)
    (Abide.and (Abide.and (Abide.boxed _ _ _ (.inl rfl)) (Abide.boxed _ _ _ (.inl rfl))) (Abide.and (fun _ _ _ h _ => h) (Abide.below hB5.size (Nat.le_refl _))))
    (fun c => Abide.and (fun s X Y hs ht => by obtain ⟨h1, h5, h6⟩ := hs; exact ⟨h1, ht.boxed h5 (.inl rfl), ht.boxed h6 (.inl rfl)⟩) (Abide.below hB5.size (Nat.le_refl _)))
    ⟨⟨i5, e5⟩, (fun y hy => by cases hy), hB5⟩
    (fun pre y a' W => TreeAt Nd w w.heap.size y.2.1 (some y.2.2) ∧ y.1 ≤ 5000 ∧ ((∀ y ∈ pre, rootP y.2.1 = 0) → rootP y.2.1 ≠ 0 → errF rootP t = rootP y.2.1 ∧ placeF rootP t = y.1) ∧ a' = { tmps := #[.pointer p, undef, .pointer (some ⟨gI, 0, none⟩), .pointer (some ⟨gE, 0, none⟩), nI y.1, .pointer (some y.2.2), .pointer p, .func (.func 50) #[] #[.pointer (some ⟨gT, 0, none⟩)], nI y.1, .pointer (some y.2.2), undef, undef, undef, undef, undef, undef, undef, undef, undef, undef, undef, undef, undef], defers := [] })
    (fun pre y a' _ X Y row hs hg hr => hs)
    ?assign ?body ?done ?stop
  case assign =>
    rintro L pre ⟨pl, tn, a⟩ U KK hI ⟨h1, h2, h3, h4⟩ hK
    have hK2 := Lib.hid (hK { tmps := #[.pointer p, undef, .pointer (some ⟨gI, 0, none⟩), .pointer (some ⟨gE, 0, none⟩), nI pl, .pointer (some a), .pointer p, .func (.func 50) #[] #[.pointer (some ⟨gT, 0, none⟩)], nI pl, .pointer (some a), undef, undef, undef, undef, undef, undef, undef, undef, undef, undef, undef, undef, undef], defers := [] } U ((KeepsOthers.refl _).from _) (Kf.refl _ _ U) hI ⟨h1, Nat.le_trans (Nat.le_add_right _ _) h3, h4, rfl⟩)
    clear hK hI h1 h2 h3 h4
    gi_wp2
    exact hK2.out
  case body =>
    rintro L pre ⟨pl, tn, a⟩ a' U hL _ ⟨⟨bI, bE⟩, hp, hb⟩ ⟨h1, h2, h3, rfl⟩
    simp only at h1 h2 h3
    have t0 := h1.after hN'.out hb
    obtain ⟨l, k, v, gg, r, rfl⟩ : ∃ l k v g r, tn = .n l k v g r := by
      cases tn with
      | e => cases h1
      | n l k v g r => exact ⟨l, k, v, g, r, rfl⟩
    have q2 := Lib.hid (TreeAt.leftT hN'.out t0)
    have q3 := Lib.hid (fun W (h : Below U.heap.size U W) => TreeAt.rightT hN'.out (t0.after hN'.out h))
    have wl : Hid (∀ W q, Below U.heap.size U W → TreeAt Nd W W.heap.size l q → Calls Tryd.prog 20 #[.pointer q, .pointer (some a)] W fun e w' => e = .returned (.bool (overT l ⟨k, v, gg⟩)) ∧ Below W.heap.size W w') := fun W q hW h => above_root l l r k v gg ▸ treapAbove_of hN'.out W l _ q _ h (t0.after hN'.out hW)
    have wr : Hid (∀ W q, Below U.heap.size U W → TreeAt Nd W W.heap.size r q → Calls Tryd.prog 20 #[.pointer q, .pointer (some a)] W fun e w' => e = .returned (.bool (overT r ⟨k, v, gg⟩)) ∧ Below W.heap.size W w') := fun W q hW h => above_root r l r k v gg ▸ treapAbove_of hN'.out W r _ q _ h (t0.after hN'.out hW)
    have hft := h3 hp
    have hrt : Hid (rootP (.n l k v gg r) = if (overT l ⟨k, v, gg⟩ || overT r ⟨k, v, gg⟩) = true then 8 else 0) := rfl
    obtain ⟨x, hx⟩ : ∃ x, rootP (.n l k v gg r) = x := ⟨_, rfl⟩
    obtain ⟨bl, hbl⟩ : ∃ b, overT l ⟨k, v, gg⟩ = b := ⟨_, rfl⟩
    obtain ⟨br, hbr⟩ : ∃ b, overT r ⟨k, v, gg⟩ = b := ⟨_, rfl⟩
    rw [hbl] at wl
    rw [hbr] at wr
    rw [hx, hbl, hbr] at hrt
    rw [hx] at hft
    have HX := Lib.hid hx
    have HT := Lib.hid hft
    have HP := Lib.hid hp
    have bI' := Lib.hid bI
    have bE' := Lib.hid bE
    have hb' := Lib.hid hb
    have gW0 : Hid (w.heap.size ≤ gI ∧ w.heap.size ≤ gE) := ⟨by have := HI.out; omega, by have := HE.out; omega⟩
    clear t0 hft hp bI bE hb h1 h2 h3 hx hbl hbr
    gi_wp2
    refine ⟨trivial, ?_⟩
    refine CallsIn.inRound L (callsIn_wide.2 (q2.out.mono ?_))
    rintro e U2 ⟨ql, rfl, hl2, hb2⟩
    have K2 := Lib.hid hb2
    have L2 := Lib.hid hl2
    clear hb2 hl2 q2
    gi_wp2
    refine ⟨trivial, ?_⟩
    refine CallsIn.inRound L (callsIn_wide.2 ((wl.out U2 ql K2.out L2.out).mono ?_))
    rintro e U3 ⟨rfl, hb3⟩
    have K3 := Lib.hid (Below.after K2.out hb3)
    clear hb3 L2 wl K2
    cases bl with
    | true =>
      clear q3 wr
      have hxe : x = 8 := by have h := hrt.out; simpa using h
      have hq := Lib.hid (HT.out (by rw [hxe]; decide))
      have i7 : Boxed U3 gI 3 (.int .i64 0) := Has.next (show Has _ _ _ _ from bI'.out) K3.out
      have e7 : Boxed U3 gE 27 (.int .i64 0) := Has.next (show Has _ _ _ _ from bE'.out) K3.out
      have B7 := Lib.hid (Below.after hb'.out K3.out)
      have xI := i7.cell
      have fI := i7.frozen
      have xE := e7.cell
      have fE := e7.frozen
      have a5 := GIE.out
      have a6 : gE ≠ gI := a5.symm
      have I7 := Lib.hid i7
      have E7 := Lib.hid e7
      clear i7 e7
      gi_wp2
      refine ⟨trivial, ?_⟩
      gi_wp2
      refine ⟨trivial, ?_⟩
      gi_wp2
      refine ⟨((Ret.keeps_below K3.out).trans ((KeepsOthers.setCell _ _ _).trans (KeepsOthers.setCell _ _ _))).from _, ⟨rfl, ?_, ?_⟩, (B7.out.setCell (p := ⟨gI, 0, none⟩) gW0.out.1 _).setCell (p := ⟨gE, 0, none⟩) gW0.out.2 _⟩
      · rw [hq.out.2]
        exact Has.far (show Has _ _ _ _ from I7.out.set (nI pl)) (p := ⟨gE, 0, none⟩) GIE.out _
      · rw [hq.out.1, hxe]
        have hy : Boxed (U3.setCell ⟨gI, 0, none⟩ (nI pl)) gE 27 (.int .i64 0) := Has.far (show Has _ _ _ _ from E7.out) (p := ⟨gI, 0, none⟩) (Ne.symm GIE.out) _
        exact hy.set _
    | false =>
      gi_wp2
      refine ⟨trivial, ?_⟩
      refine CallsIn.inRound L (callsIn_wide.2 ((q3.out U3 K3.out).mono ?_))
      rintro e U4 ⟨qr, rfl, hr4, hb4⟩
      have K4 := Lib.hid (Below.after K3.out hb4)
      have R4 := Lib.hid hr4
      clear hb4 hr4 q3 K3
      gi_wp2
      refine ⟨trivial, ?_⟩
      refine CallsIn.inRound L (callsIn_wide.2 ((wr.out U4 qr K4.out R4.out).mono ?_))
      rintro e U5 ⟨rfl, hb5⟩
      have K5 := Lib.hid (Below.after K4.out hb5)
      clear hb5 R4 wr K4
      cases br with
      | true =>
        have hxe : x = 8 := by have h := hrt.out; simpa using h
        have hq := Lib.hid (HT.out (by rw [hxe]; decide))
        have i7 : Boxed U5 gI 3 (.int .i64 0) := Has.next (show Has _ _ _ _ from bI'.out) K5.out
        have e7 : Boxed U5 gE 27 (.int .i64 0) := Has.next (show Has _ _ _ _ from bE'.out) K5.out
        have B7 := Lib.hid (Below.after hb'.out K5.out)
        have xI := i7.cell
        have fI := i7.frozen
        have xE := e7.cell
        have fE := e7.frozen
        have a5 := GIE.out
        have a6 : gE ≠ gI := a5.symm
        have I7 := Lib.hid i7
        have E7 := Lib.hid e7
        clear i7 e7
        gi_wp2
        refine ⟨((Ret.keeps_below K5.out).trans ((KeepsOthers.setCell _ _ _).trans (KeepsOthers.setCell _ _ _))).from _, ⟨rfl, ?_, ?_⟩, (B7.out.setCell (p := ⟨gI, 0, none⟩) gW0.out.1 _).setCell (p := ⟨gE, 0, none⟩) gW0.out.2 _⟩
        · rw [hq.out.2]
          exact Has.far (show Has _ _ _ _ from I7.out.set (nI pl)) (p := ⟨gE, 0, none⟩) GIE.out _
        · rw [hq.out.1, hxe]
          have hy : Boxed (U5.setCell ⟨gI, 0, none⟩ (nI pl)) gE 27 (.int .i64 0) := Has.far (show Has _ _ _ _ from E7.out) (p := ⟨gI, 0, none⟩) (Ne.symm GIE.out) _
          exact hy.set _
      | false =>
        have i7 : Boxed U5 gI 3 (.int .i64 0) := Has.next (show Has _ _ _ _ from bI'.out) K5.out
        have e7 : Boxed U5 gE 27 (.int .i64 0) := Has.next (show Has _ _ _ _ from bE'.out) K5.out
        have B7 := Lib.hid (Below.after hb'.out K5.out)
        have I7 := Lib.hid i7
        have E7 := Lib.hid e7
        clear i7 e7
        gi_wp2
        refine ⟨(Ret.keeps_below K5.out).from _, Kf.of_below K5.out hb'.out.size, ⟨I7.out, E7.out⟩, ?_, B7.out⟩
        intro y hy
        rcases List.mem_append.1 hy with hy | hy
        · exact HP.out y hy
        · rw [List.mem_singleton.1 hy]; exact HX.out.trans hrt.out
  case done =>
    rintro D xs U hD hxs ⟨⟨bI, bE⟩, hp, hb⟩ hK
    have k1 := Lib.hid (hxs hp)
    have k2 := Lib.hid (hall.out k1.out)
    have BI := Lib.hid bI
    have BE := Lib.hid bE
    have HB := Lib.hid hb
    have HK := Lib.hid hK
    have HP := Lib.hid hp
    have q1 := Lib.hid (cZ.out U hb)
    clear hxs hp bI bE hb hK
    go_wp2_with fail
    refine q1.out.mono ?_
    rintro e U1 ⟨rfl, hb1⟩
    have i7 : Boxed U1 gI 3 (.int .i64 0) := Has.next (show Has _ _ _ _ from BI.out) hb1
    have e7 : Boxed U1 gE 27 (.int .i64 0) := Has.next (show Has _ _ _ _ from BE.out) hb1
    have hK1 : U1.heap[D]? = some (.deferred (some [])) := (hb1.block D (Array.getElem?_eq_some_iff.1 HK.out).1).trans HK.out
    have B7 := Lib.hid (Below.after HB.out hb1)
    have hDI : D ≠ gI := fun e => by rw [e, show U1.heap[gI]? = _ from i7] at hK1; cases hK1
    have hDE : D ≠ gE := fun e => by rw [e, show U1.heap[gE]? = _ from e7] at hK1; cases hK1
    obtain ⟨U2, hU2⟩ : ∃ u, (U1.setCell ⟨gI, 0, none⟩ (nI sz)).setCell ⟨gE, 0, none⟩ (.int .i64 0) = u := ⟨_, rfl⟩
    have hI1 : Has U2 gI 3 #[nI sz] := hU2 ▸ Has.far (show Has _ _ _ _ from i7.set (nI sz)) (p := ⟨gE, 0, none⟩) GIE.out _
    have hE1 : Has U2 gE 27 #[.int .i64 0] := by
      have hy : Boxed (U1.setCell ⟨gI, 0, none⟩ (nI sz)) gE 27 (.int .i64 0) := Has.far (show Has _ _ _ _ from e7) (p := ⟨gI, 0, none⟩) (Ne.symm GIE.out) _
      exact hU2 ▸ hy.set _
    have hb2 : Below w.heap.size w U2 := hU2 ▸ (B7.out.setCell (p := ⟨gI, 0, none⟩) (by have := HI.out; show w.heap.size ≤ gI; omega) _).setCell (p := ⟨gE, 0, none⟩) (by have := HE.out; show w.heap.size ≤ gE; omega) _
    have hK2 : U2.heap[D]? = some (.deferred (some [])) := hU2 ▸ (Below.heap_setCell _ _ _ D hDE).trans ((Below.heap_setCell _ _ _ D hDI).trans hK1)
    have xI := i7.cell
    have fI := i7.frozen
    have xE := e7.cell
    have fE := e7.frozen
    have a1 := GIE.out
    have a2 : gE ≠ gI := a1.symm
    have HU2 := Lib.hid hU2
    have XI := Lib.hid hI1
    have XE := Lib.hid hE1
    have XB := Lib.hid hb2
    have XK := Lib.hid hK2
    clear i7 e7 hK1 hDI hDE hU2 hI1 hE1 hb2 hK2 hb1 q1
    go_wp2_with fail
    rw [HU2.out]
    have hz2 : Has (U2.putObj D (.deferred none)) gI 3 #[nI sz] := has_turned (B := 0) XI.out (grownBy_putObj' U2 D _) (fun r e => by cases e; exact ⟨Nat.zero_le _, _, XK.out, rfl⟩)
    have hy2 : Has (U2.putObj D (.deferred none)) gE 27 #[.int .i64 0] := has_turned (B := 0) XE.out (grownBy_putObj' U2 D _) (fun r e => by cases e; exact ⟨Nat.zero_le _, _, XK.out, rfl⟩)
    refine ⟨by simp, .inl ⟨_, _, rfl, run_takeDeferred XK.out, ?_⟩⟩
    exact ⟨_, Ret.two rfl _ _ gI gE _ _ rfl rfl (Ret.load_int _ _ _ (hz2.cell 0)) (Ret.load_errno _ _ _ (hy2.cell 0)), by rw [k1.out, k2.out]; rfl, XB.out.trans (belowK_b (w := w) (Nat.le_refl _) U2 D _ _ (by have := hB5.size; omega) XK.out rfl rfl)⟩
  case stop =>
    rintro D c pre U hD ⟨⟨rfl, bI, bE⟩, hb⟩ hK
    have hz2 : Has (U.putObj D (.deferred none)) gI 3 #[nI (placeF rootP t)] := has_turned (B := 0) (show Has _ _ _ _ from bI) (grownBy_putObj' U D _) (fun r e => by cases e; exact ⟨Nat.zero_le _, _, hK, rfl⟩)
    have hy2 : Has (U.putObj D (.deferred none)) gE 27 #[nI (errF rootP t)] := has_turned (B := 0) (show Has _ _ _ _ from bE) (grownBy_putObj' U D _) (fun r e => by cases e; exact ⟨Nat.zero_le _, _, hK, rfl⟩)
    clear bI bE
    gi_wp2
    refine ⟨by simp, .inl ⟨_, _, rfl, run_takeDeferred hK, ?_⟩⟩
    exact ⟨_, Ret.two rfl _ _ gI gE _ _ rfl rfl (Ret.load_int _ _ _ (hz2.cell 0)) (Ret.load_errno _ _ _ (hy2.cell 0)), rfl, hb.trans (belowK_b (w := w) (Nat.le_refl _) U D _ _ (by have := hB5.size; omega) hK rfl rfl)⟩
end Go.Proofs.YtcnkgddldhkddaaDoor
/- Layer 20: the condition on the world: the steps of package mix lie there. -/
namespace Go.Proofs.YtcnkgddldhkddaaDoor
open Go.RowKit Go.Proofs.Treem Go.Proofs.Mixm
set_option maxRecDepth 100000

def Std20 (w : World) : Prop := 0 < w.heap.size ∧ Steps w
theorem std20_now (w w' : World) (h : Std20 w) (hb : Below w.heap.size w w') : Std20 w' := ⟨Nat.lt_of_lt_of_le h.1 hb.size, h.2.below h.1 hb⟩
/-- the tag that package mix tells of a key -/
theorem mixOf20 (k : BitVec 64) (w : World) (h : Std20 w) : Calls Tryd.prog 38 #[K k] w fun e w' => e = .returned (G64 (mixK k)) ∧ Below w.heap.size w w' := of_any k.toInt _ (mixK_z k) w h.1 h.2
end Go.Proofs.YtcnkgddldhkddaaDoor
/- Package treap, as landed: Mixed, May; and what all of it answers. Made by wip/gen/layer20check.py. -/
namespace Go.Proofs.YtcnkgddldhkddaaDoor
open Go.RowKit Go.Shelf Go.Proofs.Treem
attribute [local go_sem] Oper.semAt_some
set_option maxRecDepth 100000
variable {Nd : NdP}

theorem Ret.one {P : Program} {fn : Func} {p : Tmp} {t : TypeId} (h : fn.results = #[.cell p t]) (tmps : Array Value) (w : World) (g : Nat) (x : Value)
    (hp : tmps.getD p undef = .pointer (some ⟨g, 0, none⟩)) (lp : (loadVar t ⟨g, 0, none⟩).run P w = .ok x w) : (results fn tmps).run P w = .ok x w := by
  have hp' : tmps[p]?.getD undef = .pointer (some ⟨g, 0, none⟩) := by simpa using hp
  simp [results, h, hp', asAddr, lp]
theorem Ret.load_bool (w : World) (a : Addr) (x : Value) (h : w.cell? a = some x) : (loadVar 4 a).run Tryd.prog w = .ok x w := by
  simp [loadVar, h]
/-- what is wrong with a node's tag -/
def rootM : Tr → Nat
  | .e => 0
  | .n _ k _ g _ => if g = mixK k then 0 else 1
theorem mixed_err : ∀ t : Tr, mixedT t = (errF rootM t == 0)
  | .e => rfl
  | .n l k v g r => by
    rw [Bool.eq_iff_iff, beq_iff_eq, errF_n, mixedT, mixed_err l, mixed_err r, rootM]
    by_cases h : g = mixK k <;> simp [h]
set_option maxHeartbeats 8000000 in
theorem treapMixed_any (hN : NodeSays Nd) (w : World) (t : Tr) (p : Option Addr) (hT : Std20 w) (ht : TreeAt Nd w w.heap.size t p) (h5 : t.size ≤ 5000) : Calls Tryd.prog 17 #[.pointer p] w fun e w' => e = .returned (.bool (mixedT t)) ∧ Below w.heap.size w w' := by
  rw [mixed_err]
  obtain ⟨gB, hgB⟩ : ∃ g, w.heap.size = g := ⟨_, rfl⟩
  obtain ⟨Wa, hWa⟩ : ∃ W, w.alloc (.cells #[.bool false] 4) = W := ⟨_, rfl⟩
  have bB : Boxed Wa gB 4 (.bool false) := hgB ▸ hWa ▸ Boxed.new w _ _
  have ba : Below w.heap.size w Wa := hWa ▸ (Below.refl _ w).alloc (Nat.le_refl _) _
  have cS : Hid (∀ (gT : Nat) (W : World), Below w.heap.size w W → Boxed W gT 25 (.pointer p) → ∀ n, SeqTurns mine14 Fence.wide n Tryd.prog 50 #[.pointer (some ⟨gT, 0, none⟩)] (fun x : It14 => #[nI x.1, .pointer (some x.2.2)]) (Kf none14 w.heap.size) (Told14 Nd rootM t w) (fun xs => (∀ y ∈ xs, rootM y.2.1 = 0) → errF rootM t = 0) W) :=
    fun gT W hb h2 n => once_turns hN w rootM t p ht h5 gT W hb h2 n
  have cM : Hid (∀ (k : BitVec 64) (W : World), Below w.heap.size w W → Calls Tryd.prog 38 #[.int .i64 k.toInt] W fun e w' => e = .returned (.int .u64 ((mixK k).toNat : Int)) ∧ Below W.heap.size W w') := fun k W h => mixOf20 k W (std20_now w W hT h)
  have HWa := Lib.hid hWa
  have HB := Lib.hid hgB
  have ba' := Lib.hid ba
  have bB' := Lib.hid bB
  have hN' := Lib.hid hN
  clear hWa hgB ba bB hN ht h5 hT
  refine (callsIn_wide (n := 9)).1 ?_
  refine callsIn_of_wp_marks Tryd.func17 rfl trivial ?_ rfl
  simp only [Tryd.ntmps17, List.size_toArray, List.length_cons, List.length_nil, Nat.reduceAdd, Nat.reduceSub, Array.replicate_succ, Array.replicate_zero, List.push_toArray, List.append_toArray, List.nil_append, List.cons_append]
  refine wpIn_wide.2 ?_
  go_upto_region 1 with (fail)
  rw [HWa.out, HB.out]
  go_wp2_with fail
  refine (once_any p Wa).mono ?_
  rintro e W5 ⟨rfl, hW5⟩
  obtain ⟨gT, hgT⟩ : ∃ g, Wa.heap.size = g := ⟨_, rfl⟩
  rw [hgT]
  have bN : Below Wa.heap.size Wa W5 := hW5 ▸ (Below.refl _ Wa).alloc (Nat.le_refl _) _
  have bT : Boxed W5 gT 25 (.pointer p) := hgT ▸ hW5 ▸ Boxed.new Wa _ _
  have i5 : Boxed W5 gB 4 (.bool false) := Has.next (show Has _ _ _ _ from bB'.out) bN
  have hB5 : Below w.heap.size w W5 := Below.after ba'.out bN
  have hseq := cS.out gT W5 hB5 bT
  clear hW5 hgT bN bT bB' cS HWa ba'
  go_wp2_with fail
  refine (wpIn_wide (n := 9)).1 ?_
  refine wpIn_rangeFunc_turns (α := It14) rfl (by omega) (gf := 50) (lb := #[.pointer (some ⟨gT, 0, none⟩)]) rfl trivial (enters_of Tryd.func50 (by kernel_rfl) rfl)
    (hseq _) Kf.trans (Kf.put hB5.size) (Below.refl _ _) (fun _ => rfl)
    (fun pre W => Boxed W gB 4 (.bool false) ∧ (∀ y ∈ pre, rootM y.2.1 = 0) ∧ Below w.heap.size w W)
    (fun c _ W => (c = .ret ∧ errF rootM t ≠ 0 ∧ Boxed W gB 4 (.bool false)) ∧ Below w.heap.size w W)
    (Abide.and (Abide.boxed _ _ _ (.inl rfl)) (Abide.and (fun _ _ _ h _ => h) (Abide.below hB5.size (Nat.le_refl _))))
    (fun c => Abide.and (fun s X Y hs ht => by obtain ⟨h1, h2, h5⟩ := hs; exact ⟨h1, h2, ht.boxed h5 (.inl rfl)⟩) (Abide.below hB5.size (Nat.le_refl _)))
    ⟨i5, (fun y hy => by cases hy), hB5⟩
    (fun pre y a' W => TreeAt Nd w w.heap.size y.2.1 (some y.2.2) ∧ ((∀ y ∈ pre, rootM y.2.1 = 0) → rootM y.2.1 ≠ 0 → errF rootM t = rootM y.2.1) ∧ a' = { tmps := #[.pointer p, undef, .pointer (some ⟨gB, 0, none⟩), undef, .pointer (some y.2.2), .pointer p, .func (.func 50) #[] #[.pointer (some ⟨gT, 0, none⟩)], nI y.1, .pointer (some y.2.2), undef, undef, undef, undef, undef, undef], defers := [] })
    (fun pre y a' _ X Y row hs hg hr => hs)
    ?assign ?body ?done ?stop
  case assign =>
    rintro L pre ⟨pl, tn, a⟩ U KK hI ⟨h1, h2, h3, h4⟩ hK
    have hK2 := Lib.hid (hK { tmps := #[.pointer p, undef, .pointer (some ⟨gB, 0, none⟩), undef, .pointer (some a), .pointer p, .func (.func 50) #[] #[.pointer (some ⟨gT, 0, none⟩)], nI pl, .pointer (some a), undef, undef, undef, undef, undef, undef], defers := [] } U ((KeepsOthers.refl _).from _) (Kf.refl _ _ U) hI ⟨h1, fun a b => (h4 a b).1, rfl⟩)
    clear hK hI h1 h2 h3 h4
    gi_wp2
    exact hK2.out
  case body =>
    rintro L pre ⟨pl, tn, a⟩ a' U hL _ ⟨bI, hp, hb⟩ ⟨h1, h3, rfl⟩
    simp only at h1 h3
    obtain ⟨l, k, v, gg, r, rfl⟩ : ∃ l k v g r, tn = .n l k v g r := by
      cases tn with
      | e => cases h1
      | n l k v g r => exact ⟨l, k, v, g, r, rfl⟩
    obtain ⟨a0, pl0, pr0, e0, h4, -, -⟩ := h1.after hN'.out hb
    cases e0
    have q1 : Hid (Calls Tryd.prog 37 #[.pointer (some a)] U fun e w' => e = .returned (.int .u64 (gg.toNat : Int)) ∧ U = w') := hN'.out.tag U _ a _ h4
    have q2 : Hid (Calls Tryd.prog 28 #[.pointer (some a)] U fun e w' => e = .returned (.int .i64 k.toInt) ∧ U = w') := hN'.out.key U _ a _ h4
    have q3 := Lib.hid (cM.out k U hb)
    have hft := h3 hp
    have hrt : Hid (rootM (.n l k v gg r) = if gg = mixK k then 0 else 1) := rfl
    obtain ⟨x, hx⟩ : ∃ x, rootM (.n l k v gg r) = x := ⟨_, rfl⟩
    obtain ⟨kz, hkz⟩ : ∃ x, k.toInt = x := ⟨_, rfl⟩
    obtain ⟨m, hm⟩ : ∃ x, mixK k = x := ⟨_, rfl⟩
    rw [hx, hm] at hrt
    rw [hx] at hft
    rw [hkz] at q2 q3
    rw [hm] at q3
    have HX := Lib.hid hx
    have HT := Lib.hid hft
    have HP := Lib.hid hp
    have bI' := Lib.hid bI
    have hb' := Lib.hid hb
    have gW0 : Hid (w.heap.size ≤ gB) := by have := HB.out; exact Nat.le_of_eq this
    clear h4 hft hp bI hb h1 h3 hx hkz hm
    gi_wp2
    refine ⟨trivial, ?_⟩
    refine CallsIn.inRound L (callsIn_wide.2 (q1.out.mono ?_))
    rintro e U1 ⟨rfl, rfl⟩
    gi_wp2
    refine ⟨trivial, ?_⟩
    refine CallsIn.inRound L (callsIn_wide.2 (q2.out.mono ?_))
    rintro e U1 ⟨rfl, rfl⟩
    gi_wp2
    refine ⟨trivial, ?_⟩
    refine CallsIn.inRound L (callsIn_wide.2 (q3.out.mono ?_))
    rintro e U3 ⟨rfl, hb3⟩
    have K3 := Lib.hid hb3
    have B7 := Lib.hid (Below.after hb'.out hb3)
    have i7 : Boxed U3 gB 4 (.bool false) := Has.next (show Has _ _ _ _ from bI'.out) hb3
    clear hb3 q1 q2 q3
    by_cases hgm : gg = m
    · subst hgm
      have d1 : ((gg.toNat : Int) != (gg.toNat : Int)) = false := by simp
      obtain rfl : x = 0 := by have h := hrt.out; rwa [if_pos rfl] at h
      have I7 := Lib.hid i7
      clear i7
      gi_wp2
      refine ⟨(Ret.keeps_below K3.out).from _, Kf.of_below K3.out hb'.out.size, I7.out, ?_, B7.out⟩
      intro y hy
      rcases List.mem_append.1 hy with hy | hy
      · exact HP.out y hy
      · rw [List.mem_singleton.1 hy]; exact HX.out
    · have d0 : ¬ ((gg.toNat : Int) = (m.toNat : Int)) := fun h => hgm (BitVec.eq_of_toNat_eq (Int.ofNat.inj h))
      have d1 : ((gg.toNat : Int) != (m.toNat : Int)) = true := by rw [bne_iff_ne]; exact d0
      have hxe : x = 1 := by have h := hrt.out; rwa [if_neg hgm] at h
      have hq := Lib.hid (HT.out (by rw [hxe]; decide))
      have xI := i7.cell
      have fI := i7.frozen
      have I7 := Lib.hid i7
      clear i7
      gi_wp2
      refine ⟨((Ret.keeps_below K3.out).trans (KeepsOthers.setCell _ _ _)).from _, ⟨rfl, ?_, ?_⟩, B7.out.setCell (p := ⟨gB, 0, none⟩) gW0.out _⟩
      · rw [hq.out, hxe]; decide
      · exact I7.out.set _
  case done =>
    rintro D xs U hD hxs ⟨bI, hp, hb⟩ hK
    have k1 := Lib.hid (hxs hp)
    have hDI : D ≠ gB := fun e => by rw [e, show U.heap[gB]? = _ from bI] at hK; cases hK
    obtain ⟨U2, hU2⟩ : ∃ u, U.setCell ⟨gB, 0, none⟩ (.bool true) = u := ⟨_, rfl⟩
    have hI1 : Boxed U2 gB 4 (.bool true) := hU2 ▸ bI.set _
    have hb2 : Below w.heap.size w U2 := hU2 ▸ hb.setCell (p := ⟨gB, 0, none⟩) (by have := HB.out; show w.heap.size ≤ gB; omega) _
    have hK2 : U2.heap[D]? = some (.deferred (some [])) := hU2 ▸ (Below.heap_setCell _ _ _ D hDI).trans hK
    have xI := bI.cell
    have fI := bI.frozen
    have HU2 := Lib.hid hU2
    have XI := Lib.hid hI1
    have XB := Lib.hid hb2
    have XK := Lib.hid hK2
    clear hxs hp bI hb hK hDI hU2 hI1 hb2 hK2
    go_wp2_with fail
    rw [HU2.out]
    have hz2 : Has (U2.putObj D (.deferred none)) gB 4 #[.bool true] := has_turned (B := 0) (show Has _ _ _ _ from XI.out) (grownBy_putObj' U2 D _) (fun r e => by cases e; exact ⟨Nat.zero_le _, _, XK.out, rfl⟩)
    refine ⟨by simp, .inl ⟨_, _, rfl, run_takeDeferred XK.out, ?_⟩⟩
    exact ⟨_, Ret.one rfl _ _ gB _ rfl (Ret.load_bool _ _ _ (hz2.cell 0)), by rw [k1.out]; rfl, XB.out.trans (belowK_b (w := w) (Nat.le_refl _) U2 D _ _ (by have := hB5.size; omega) XK.out rfl rfl)⟩
  case stop =>
    rintro D c pre U hD ⟨⟨rfl, hne, bI⟩, hb⟩ hK
    have hz2 : Has (U.putObj D (.deferred none)) gB 4 #[.bool false] := has_turned (B := 0) (show Has _ _ _ _ from bI) (grownBy_putObj' U D _) (fun r e => by cases e; exact ⟨Nat.zero_le _, _, hK, rfl⟩)
    clear bI
    gi_wp2
    refine ⟨by simp, .inl ⟨_, _, rfl, run_takeDeferred hK, ?_⟩⟩
    exact ⟨_, Ret.one rfl _ _ gB _ rfl (Ret.load_bool _ _ _ (hz2.cell 0)), by rw [beq_eq_false_iff_ne.2 hne]; rfl, hb.trans (belowK_b (w := w) (Nat.le_refl _) U D _ _ (by have := hB5.size; omega) hK rfl rfl)⟩
theorem nat_eq20 (x : Nat) : ((x : Int) == 0) = (x == 0) := by
  by_cases h : x = 0
  · rw [h]; rfl
  · rw [beq_eq_false_iff_ne.2 h, beq_eq_false_iff_ne]; omega
theorem treapMay_any (hN : NodeSays Nd) (w : World) (t : Tr) (p : Option Addr) (ht : TreeAt Nd w w.heap.size t p) (h5 : t.size ≤ 5000) : Calls Tryd.prog 12 #[.pointer p] w fun e w' => e = .returned (.bool (mayP t)) ∧ Below w.heap.size w w' := by
  rw [mayP, ← nat_eq20]
  have c1 := Lib.hid (treapCheck_any hN w t p ht h5)
  obtain ⟨f, hf⟩ : ∃ x, errF rootP t = x := ⟨_, rfl⟩
  obtain ⟨x, hx⟩ : ∃ x, placeF rootP t = x := ⟨_, rfl⟩
  rw [hf, hx] at c1
  rw [hf]
  clear hf hx ht hN h5
  go_enter Tryd.func12, Tryd.ntmps12
  go_wp2_with fail
  refine c1.out.mono ?_
  rintro e w1 ⟨rfl, hb⟩
  have b1 := Lib.hid hb
  clear hb c1
  go_wp2
  go_ret
  exact ⟨rfl, b1.out⟩
end Go.Proofs.YtcnkgddldhkddaaDoor
namespace Go.Proofs.YtcnkgddldhkddaaDoor
open Go.RowKit Go.Shelf Go.Proofs.Treem
set_option maxRecDepth 100000
variable {Nd : NdP}

theorem has_three {W : World} {g : Nat} {t : TypeId} {a b c : Value} (h : Has W g t #[a, b, c]) : W.cell? ⟨g, 0, none⟩ = some a ∧ W.cell? ⟨g, 1, none⟩ = some b ∧ W.cell? ⟨g, 2, none⟩ = some c := by
  have r0 := h.cell 0
  have r1 := h.cell 1
  have r2 := h.cell 2
  simp only [List.getElem?_toArray, List.getElem?_cons_zero, List.getElem?_cons_succ] at r0 r1 r2
  exact ⟨r0, r1, r2⟩
theorem grown_has {W W' : World} {row : Option Nat} {g : Nat} {t : TypeId} {cs : Array Value} (hg : W.grownBy W' row) (h : Has W g t cs) (hne : some g ≠ row) : Has W' g t cs := (hg.block g h.lt hne).trans h
theorem row_kindO {W : World} {base size n : Nat} {v : Value} {xs : List Value} (h : W.ownsRow base 75 size v n xs) : ∀ r, v.ownBlock = some r → ∀ cs, W.heap[r]? ≠ some (.cells cs 68 (0, 0)) := fun r e cs hc => by
  rcases h.2 with ⟨rfl, _⟩ | ⟨g, cap, cur, rfl, _, hg, _⟩
  · simp [Value.ownBlock] at e
  · obtain rfl : r = g := by simpa [Value.ownBlock] using e.symm
    rw [hg] at hc
    cases hc
/-- where Of stands, as it lies -/
structure AtO (Nd : NdP) (w0 : World) (us : List Op20) (v : Value) (w : World) : Prop where
  base : Below w0.heap.size w0 w
  ow : w.ownsRow w0.heap.size 75 4 v us.length (flat4 us)
  trees : ∀ u ∈ us, TreeAt Nd w w.heap.size u.l u.p
section
variable {w0 w w1 : World} {us : List Op20} {v : Value}
theorem AtO.below (hN : NodeSays Nd) (h : AtO Nd w0 us v w) (hb : Below w.heap.size w w1) : AtO Nd w0 us v w1 :=
  ⟨h.base.trans (hb.mono h.base.size), owned_next h.ow hb, fun u hu => (h.trees u hu).after hN hb⟩
theorem AtO.take {A : Option Addr} {n c : Nat} (h : AtO Nd w0 us (.slice A n c) w) (f : Nat) (hf : f ≤ us.length) : w.ownsRow w0.heap.size 75 4 (.slice A f c) f (flat4 (us.take f)) := by
  have ho := h.ow
  obtain ⟨A', c', e1, -, -, -⟩ := own_slice h.ow
  cases e1
  have := owned_take ho f hf
  rwa [← flat4_take] at this
/-- what is behind some of them lies there -/
theorem AtO.lie {A : Option Addr} {n c : Nat} (h : AtO Nd w0 us (.slice A n c) w) (h9 : us.length ≤ 1000) : LieO Nd w A n c us := by
  have ho := h.ow
  obtain ⟨A', c', e1, q1, q2, -⟩ := own_slice h.ow
  cases e1
  exact ⟨rfl, h9, q1, q2, Row.of_own ho, h.trees⟩
theorem LieO.from {A : Option Addr} {n c : Nat} (h : LieO Nd w A n c us) (f : Nat) (hf : f ≤ n) :
    ∃ A2, (∀ W, (Instr.slice 71 (.slice A n c) (some (.int .i64 (f : Int))) none none).run Tryd.prog W = .ok (.slice A2 (n - f) (c - f)) W) ∧ LieO Nd w A2 (n - f) (c - f) (us.drop f) := by
  have hcap := h.cap
  have hmax := h.max
  have hfew := h.few
  obtain ⟨A2, h3, h4, -⟩ := cut_from2 (P := Tryd.prog) Tryd.underlying71 size_open A n c f (f : Int) rfl hf hcap
  refine ⟨A2, h3, by rw [List.length_drop, h.len], by omega, by omega, by omega, ?_, fun u hu => h.trees u (List.mem_of_mem_drop hu)⟩
  rw [flat4_drop]
  exact h4 w _ _ h.row (by rw [flat4_length, h.len]; exact Nat.le_refl _)
/-- an item is put on the row, behind those that stay open -/
theorem AtO.put (hN : NodeSays Nd) {A : Option Addr} {n c : Nat} {tmp : Obj} {v1 : Value} (h : AtO Nd w0 us (.slice A n c) w) (f : Nat) (hf : f ≤ us.length) (p : Option Addr) (x : It) {T : Tr} (ht : TreeAt Nd w w.heap.size T p)
    (hg : (w.alloc tmp).grownBy w1 (Value.slice A f c).ownBlock) (ho : w1.ownsRow w0.heap.size 75 4 v1 (f + 1) (flat4 (us.take f) ++ [.pointer p, K x.k, K x.v, G64 x.g])) : AtO Nd w0 (us.take f ++ [⟨T, p, x⟩]) v1 w1 := by
  have hb : Below w.heap.size w (w.alloc tmp) := (Below.refl w.heap.size w).alloc (Nat.le_refl _) tmp
  have h1 := h.below hN hb
  have hr := h1.take f hf
  have hk := row_kindO hr
  have hT := ht.after hN hb
  refine ⟨h1.base.grown hg h1.base.size (fun r e => (hr.lt r e).1), ?_, fun u hu => ?_⟩
  · rw [flat4_append, List.length_append, List.length_take, Nat.min_eq_left hf, List.length_singleton]
    exact ho
  · rcases List.mem_append.1 hu with hu | hu
    · exact ((h1.trees u (List.mem_of_mem_take hu)).kept hN hg hk).more hN hg.size
    · rw [List.mem_singleton.1 hu]
      exact (hT.kept hN hg hk).more hN hg.size
end
set_option maxHeartbeats 8000000 in
theorem treapOf_any (hN : NodeSays Nd) (w : World) (A0 : Option Addr) (n c0 : Nat) (l : List It) (h1000 : n ≤ 1000) (hl : LieI w w.heap.size A0 n c0 l) :
    Calls Tryd.prog 22 #[.slice A0 n c0] w fun e w' => ∃ p, e = .returned (.pointer p) ∧ TreeAt Nd w' w'.heap.size (ofT l) p ∧ Below w.heap.size w w' := by
  obtain ⟨i0, hin, hz0, hz1, hz2⟩ := open_parts
  have HL := Lib.hid hl
  have hlen := Lib.hid hl.len
  have h1000' := Lib.hid h1000
  have hN' := Lib.hid hN
  have h0 : Hid (AtO Nd w [] (.slice none 0 0) w) := ⟨Below.refl _ _, World.ownsRow_nil _ _ _ _, fun u hu => by cases hu⟩
  clear hN hl h1000
  go_enter Tryd.func22, Tryd.ntmps22
  go_wp2
  go_loopw [3, 9] (fun v i wr => ∃ (k : Nat) (us : List Op20), k ≤ n ∧ i = nI k ∧ AtO Nd w us v wr ∧ GoodO us ∧ itemsO us = l.take k) (fun _ i _ => n - (intOf i).toNat)
  case atStart => exact ⟨0, [], Nat.zero_le _, rfl, h0.out, trivial, by rw [List.take_zero]; rfl⟩
  case round =>
    clear h0
    obtain ⟨k, us, hk, rfl, hA, hG, hI⟩ := hrel
    have hul : us.length ≤ k := by
      have h1 := itemsO_len us
      rw [hI, List.length_take] at h1
      omega
    have h9 : us.length ≤ 1000 := by have := h1000'.out; omega
    obtain ⟨A, c, rfl, hcn, hcm, -⟩ := own_slice hA.ow
    have hlie := hA.lie h9
    by_cases hlt : k < n
    · have hkl : k < l.length := by rw [hlen.out]; exact hlt
      obtain ⟨ad, rfl, hb2, g0, g1, g2⟩ := item_at (HL.out.next hA.base) k hkl
      have htk : l.take (k + 1) = l.take k ++ [l[k]] := List.take_succ_eq_append_getElem hkl
      obtain ⟨x, hx⟩ : ∃ x, l[k] = x := ⟨_, rfl⟩
      rw [hx] at g0 g1 g2 htk
      obtain ⟨W1, hW1⟩ : ∃ W, wr.alloc (.cells #[K x.k, K x.v, G64 x.g] 38) = W := ⟨_, rfl⟩
      obtain ⟨gX, hgX⟩ : ∃ g, wr.heap.size = g := ⟨_, rfl⟩
      have X1 : Hid (Has W1 gX 38 #[K x.k, K x.v, G64 x.g]) := hgX ▸ hW1 ▸ Has.new wr _ _
      have B1 : Hid (Below wr.heap.size wr W1) := hW1 ▸ (Below.refl _ wr).alloc (Nat.le_refl _) _
      have HW1 : Hid (wr.alloc (.cells #[.int .i64 x.k.toInt, .int .i64 x.v.toInt, .int .u64 (x.g.toNat : Int)] 38) = W1) := hW1
      have HGX := Lib.hid hgX
      obtain ⟨far, hfa⟩ : ∃ f, reachO x us us.length = f := ⟨_, rfl⟩
      have hfar : far ≤ us.length := hfa ▸ reachO_le x us us.length
      have hstep := Lib.hid (fun p => hG.step x p)
      rw [hfa, hI, ← htk] at hstep
      obtain ⟨m, hm⟩ : ∃ m, us.length = m := ⟨_, rfl⟩
      have HA := Lib.hid hA
      have HFAR := Lib.hid hfar
      have HFU := Lib.hid hfar
      rw [hm] at hfa hfar hA hlie h9 hcn HA ⊢
      obtain ⟨A2, cf, hlieF⟩ := LieO.from hlie far hfar
      have ct : ∀ W, (Instr.slice 71 (.slice A m c) none (some (.int .i64 (far : Int))) none).run Tryd.prog W = .ok (.slice A far c) W := cut_to Tryd.underlying71 size_open A m c far _ rfl (by omega)
      have cS : Hid (∀ W, Calls Tryd.prog 41 #[.agg #[.int .i64 x.k.toInt, .int .i64 x.v.toInt, .int .u64 (x.g.toNat : Int)]] W fun e w' => e = .returned (stV W.heap.size) ∧ W.alloc (.cells #[K x.k, K x.v, G64 x.g] 38) = w') := fun W => standing_any x W
      have cR : Hid (∀ g W, Below wr.heap.size wr W → Has W g 38 #[K x.k, K x.v, G64 x.g] → Calls Tryd.prog 42 #[.slice A m c, stV g] W fun e w' => e = .returned (nI far) ∧ Below W.heap.size W w') := fun g W hW hg => hfa ▸ reach_any hN'.out W A m c us (hlie.after hN'.out hW) x g hg
      have HLF := Lib.hid hlieF
      have HLT : Hid (k + 1 ≤ n) := hlt
      have hm9 : m ≤ 1000 := h9
      have e3 : Hid (wrap64 ((k : Int) + 1) = (k : Int) + 1) := by
        have h7 := h1000'.out
        have : wrap64 ((k : Int) + 1) = (k : Int) + 1 := by unfold wrap64; omega
        exact this
      rw [hm] at HFAR
      have hfar := HFAR.out
      have c0 := has_three X1.out
      clear hA hG hI hlie hlieF hW1 hgX hfa hm hul hx htk hkl hcm hk
      go_upto_region 5 with (fail)
      rw [HW1.out, HGX.out]
      obtain ⟨c00, c01, c02⟩ := c0
      go_wp2_with fail
      refine (cS.out W1).mono ?_
      rintro e W2 ⟨rfl, hw2⟩
      have B2 : Hid (Below wr.heap.size wr W2) := hw2 ▸ B1.out.alloc B1.out.size _
      have G2 : Hid (Has W2 W1.heap.size 38 #[K x.k, K x.v, G64 x.g]) := hw2 ▸ Has.new W1 _ _
      have X2 : Hid (Has W2 gX 38 #[K x.k, K x.v, G64 x.g]) := hw2 ▸ X1.out.alloc _
      obtain ⟨gg, hgg⟩ : ∃ g, W1.heap.size = g := ⟨_, rfl⟩
      rw [hgg] at G2 ⊢
      clear hw2 hgg cS c00 c01 c02 g0 g1 g2
      go_wp2_with fail
      refine (cR.out gg W2 B2.out G2.out).mono ?_
      rintro e w3 ⟨rfl, hb3⟩
      have B3 := Lib.hid (Below.after B2.out hb3)
      have X3 := Lib.hid (X2.out.next hb3)
      have A3 := Lib.hid (HA.out.below hN'.out B3.out)
      have cC : Hid (∀ W, Below w3.heap.size w3 W → Calls Tryd.prog 43 #[.slice A2 (m - far) (c - far)] W fun e w' => ∃ p, e = .returned (.pointer p) ∧ TreeAt Nd w' w'.heap.size (closedT (us.drop far)) p ∧ Below W.heap.size W w') := fun W hW => closed_any hN'.out W A2 _ _ _ ((HLF.out.after hN'.out B3.out).after hN'.out hW)
      clear hb3 cR B2 G2 X2 X1 B1 HA
      go_upto_region 6 with (fail)
      refine wp_region_held_drew (S := fun W => W.cell? ⟨gX, 0, none⟩ = some (K x.k) ∧ W.cell? ⟨gX, 1, none⟩ = some (K x.v) ∧ W.cell? ⟨gX, 2, none⟩ = some (G64 x.g)) (by kernel_rfl) (show _ from has_three (X3.out.drewN 1)) (fun hS => ?_)
      refine wpAnyH_take (i := 0) (oi := ?dqr1q0) (v := ?dvr1q0) ?hir1q0 (by kernel_rfl) (by kernel_rfl) (by kernel_rfl) ?hQr1q0 (Or.inl ⟨?hwr1q0, ?hyr1q0⟩) hS ?hrr1q0
      case hir1q0 => simp only [List.getElem?_toArray, List.getElem?_cons_zero]; rfl
      case hQr1q0 => exact fun _ _ _ h => h
      case hwr1q0 => rfl
      case hyr1q0 => (intro w hSw; (try dsimp only at hSw); go_simp; (try with_reducible rfl))
      simp only [Act.put, List.setIfInBounds_toArray, List.set_cons_zero, List.set_cons_succ]
      refine wpAnyH_take (i := 1) (oi := ?dqr1q1) (v := ?dvr1q1) ?hir1q1 (by kernel_rfl) (by kernel_rfl) (by kernel_rfl) ?hQr1q1 (Or.inl ⟨?hwr1q1, ?hyr1q1⟩) hS ?hrr1q1
      case hir1q1 => simp only [List.getElem?_toArray, List.getElem?_cons_succ, List.getElem?_cons_zero]; rfl
      case hQr1q1 => exact fun _ _ _ h => h
      case hwr1q1 => rfl
      case hyr1q1 => (intro w hSw; (try dsimp only at hSw); go_simp; (try with_reducible rfl))
      simp only [Act.put, List.setIfInBounds_toArray, List.set_cons_zero, List.set_cons_succ]
      refine wpAnyH_take (i := 2) (oi := ?dqr1q2) (v := ?dvr1q2) ?hir1q2 (by kernel_rfl) (by kernel_rfl) (by kernel_rfl) ?hQr1q2 (Or.inl ⟨?hwr1q2, ?hyr1q2⟩) hS ?hrr1q2
      case hir1q2 => simp only [List.getElem?_toArray, List.getElem?_cons_succ, List.getElem?_cons_zero]; rfl
      case hQr1q2 => exact fun _ _ _ h => h
      case hwr1q2 => rfl
      case hyr1q2 => (intro w hSw; (try dsimp only at hSw); go_simp; (try with_reducible rfl))
      simp only [Act.put, List.setIfInBounds_toArray, List.set_cons_zero, List.set_cons_succ]
      refine wpAnyH_take (i := 3) (oi := ?dqr1q3) (v := ?dvr1q3) ?hir1q3 (by kernel_rfl) (by kernel_rfl) (by kernel_rfl) ?hQr1q3 (Or.inl ⟨?hwr1q3, ?hyr1q3⟩) hS ?hrr1q3
      case hir1q3 => simp only [List.getElem?_toArray, List.getElem?_cons_succ, List.getElem?_cons_zero]; rfl
      case hQr1q3 => exact fun _ _ _ h => h
      case hwr1q3 => rfl
      case hyr1q3 => (intro w hSw; (try dsimp only at hSw); go_simp; (try with_reducible rfl))
      simp only [Act.put, List.setIfInBounds_toArray, List.set_cons_zero, List.set_cons_succ]
      refine wpAnyH_take (i := 4) (oi := ?dqr1q4) (v := ?dvr1q4) ?hir1q4 (by kernel_rfl) (by kernel_rfl) (by kernel_rfl) ?hQr1q4 (Or.inl ⟨?hwr1q4, ?hyr1q4⟩) hS ?hrr1q4
      case hir1q4 => simp only [List.getElem?_toArray, List.getElem?_cons_succ, List.getElem?_cons_zero]; rfl
      case hQr1q4 => exact fun _ _ _ h => h
      case hwr1q4 => rfl
      case hyr1q4 => (intro w hSw; (try dsimp only at hSw); go_simp; (try with_reducible rfl))
      simp only [Act.put, List.setIfInBounds_toArray, List.set_cons_zero, List.set_cons_succ]
      refine wpAnyH_take (i := 5) (oi := ?dqr1q5) (v := ?dvr1q5) ?hir1q5 (by kernel_rfl) (by kernel_rfl) (by kernel_rfl) ?hQr1q5 (Or.inl ⟨?hwr1q5, ?hyr1q5⟩) hS ?hrr1q5
      case hir1q5 => simp only [List.getElem?_toArray, List.getElem?_cons_succ, List.getElem?_cons_zero]; rfl
      case hQr1q5 => exact fun _ _ _ h => h
      case hwr1q5 => rfl
      case hyr1q5 => (intro w hSw; (try dsimp only at hSw); go_simp; (try with_reducible rfl))
      simp only [Act.put, List.setIfInBounds_toArray, List.set_cons_zero, List.set_cons_succ]
      refine wpAnyH_take (i := 7) (oi := ?dqr1q7) (v := ?dvr1q7) ?hir1q7 (by kernel_rfl) (by kernel_rfl) (by kernel_rfl) ?hQr1q7 (Or.inl ⟨?hwr1q7, ?hyr1q7⟩) hS ?hrr1q7
      case hir1q7 => simp only [List.getElem?_toArray, List.getElem?_cons_succ, List.getElem?_cons_zero]; rfl
      case hQr1q7 => exact fun _ _ _ h => h
      case hwr1q7 => rfl
      case hyr1q7 => (intro w hSw; (try dsimp only at hSw); go_simp; (try with_reducible rfl))
      simp only [Act.put, List.setIfInBounds_toArray, List.set_cons_zero, List.set_cons_succ]
      refine wpAnyH_ready (rs := [6]) (by kernel_rfl) (by simp) ?_
      refine AllReadyH.cons (o := ?dqr1q6) ?hir1q6 (fun K hK => ?_) AllReadyH.nil
      case hir1q6 => simp only [List.getElem?_toArray, List.getElem?_cons_succ, List.getElem?_cons_zero]; rfl
      go_simp
      go_at_call 43
      refine (cC.out _ (Below.refl _ w3).drew).mono ?_
      rintro e u1 ⟨p1, rfl, ht1, hb1⟩
      have T1 := Lib.hid ht1
      have A1 := Lib.hid ((A3.out.below hN'.out (Below.refl _ w3).drew).below hN'.out hb1)
      have X1 := Lib.hid (Has.next (w := w3.drew) X3.out hb1)
      clear ht1 hb1
      have hS2 := has_three X1.out
      clear hS
      refine hK.out _ _ hS2 (fun hS => ?_)
      clear hS2 hK K
      try simp only [Act.put, List.setIfInBounds_toArray, List.set_cons_zero, List.set_cons_succ]
      refine wpAnyH_take (i := 8) (oi := ?dqr1q8) (v := ?dvr1q8) ?hir1q8 (by kernel_rfl) (by kernel_rfl) (by kernel_rfl) ?hQr1q8 (Or.inl ⟨?hwr1q8, ?hyr1q8⟩) hS ?hrr1q8
      case hir1q8 => simp only [List.getElem?_toArray, List.getElem?_cons_succ, List.getElem?_cons_zero]; rfl
      case hQr1q8 => exact fun _ _ _ h => h
      case hwr1q8 => rfl
      case hyr1q8 => (intro w hSw; (try dsimp only at hSw); go_simp; (try with_reducible rfl))
      simp only [Act.put, List.setIfInBounds_toArray, List.set_cons_zero, List.set_cons_succ]
      refine wpAnyH_ready (rs := [9]) (by kernel_rfl) (by simp) ?_
      refine AllReadyH.cons (o := ?dqr1q9) ?hir1q9 (fun K hK => ?_) AllReadyH.nil
      case hir1q9 => simp only [List.getElem?_toArray, List.getElem?_cons_succ, List.getElem?_cons_zero]; rfl
      go_simp
      have hn1 := A1.out.take far HFU.out
      obtain ⟨u2, hu2⟩ : ∃ u, u1.alloc (.cells #[.pointer p1, .int .i64 x.k.toInt, .int .i64 x.v.toInt, .int .u64 (x.g.toNat : Int)] 75) = u := ⟨_, rfl⟩
      have X2 : Hid (Has u2 gX 38 #[.int .i64 x.k.toInt, .int .i64 x.v.toInt, .int .u64 (x.g.toNat : Int)]) := hu2 ▸ X1.out.alloc _
      have HU2 := Lib.hid hu2
      rw [hu2]
      clear hu2
      have hS2 := has_three X2.out
      clear hS
      refine hK.out _ _ hS2 (fun hS => ?_)
      clear hS2 hK K
      try simp only [Act.put, List.setIfInBounds_toArray, List.set_cons_zero, List.set_cons_succ]
      refine wpAnyH_ready (rs := [10]) (by kernel_rfl) (by simp) ?_
      refine AllReadyH.cons (o := ?dqr1q10) ?hir1q10 (fun K hK => ?_) AllReadyH.nil
      case hir1q10 => simp only [List.getElem?_toArray, List.getElem?_cons_succ, List.getElem?_cons_zero]; rfl
      refine step_append_row (by rfl) _ _ 71 (by rfl) w.heap.size 75 i0 (.agg #[.pointer none, .int .i64 0, .int .i64 0, .int .u64 0]) 4 32 Tryd.underlying71 hin hz0 hz1 hz2 rfl (by decide) (.slice A far c) far (flat4 (us.take far)) (by rfl) (HU2.out ▸ hn1.alloc _) (some ⟨u1.heap.size, 0, none⟩) 1 1 (opC ⟨.e, p1, x⟩) (by rfl) (by simp) (Nat.le_refl _) rfl u2.heap.size (HU2.out ▸ (Has.new u1 75 #[.pointer p1, .int .i64 x.k.toInt, .int .i64 x.v.toInt, .int .u64 (x.g.toNat : Int)]).row) (flat4_one [⟨.e, p1, x⟩]) (by unfold maxLen; omega) (by omega) (by have := A1.out.base.size; have := (HU2.out ▸ World.size_alloc u1 _ : u2.heap.size = u1.heap.size + 1); omega) ?_
      intro v7 w7 hown hgrow
      have X7 := Lib.hid (grown_has hgrow X2.out (has_not_row X2.out (by decide) (HU2.out ▸ hn1.alloc _ : u2.ownsRow w.heap.size 75 4 (.slice A far c) far (flat4 (us.take far)))))
      have A7 := Lib.hid (A1.out.put hN'.out far HFU.out p1 x T1.out (by rw [HU2.out]; exact hgrow) hown)
      clear hown hgrow
      have hS2 := has_three X7.out
      clear hS
      refine hK.out _ _ hS2 (fun hS => ?_)
      clear hS2 hK K
      try simp only [Act.put, List.setIfInBounds_toArray, List.set_cons_zero, List.set_cons_succ]
      refine wpAnyH_take (i := 11) (oi := ?dqr1q11) (v := ?dvr1q11) ?hir1q11 (by kernel_rfl) (by kernel_rfl) (by kernel_rfl) ?hQr1q11 (Or.inl ⟨?hwr1q11, ?hyr1q11⟩) hS ?hrr1q11
      case hir1q11 => simp only [List.getElem?_toArray, List.getElem?_cons_succ, List.getElem?_cons_zero]; rfl
      case hQr1q11 => exact fun _ _ _ h => h
      case hwr1q11 => rfl
      case hyr1q11 => (intro w hSw; (try dsimp only at hSw); go_simp; (try with_reducible rfl))
      simp only [Act.put, List.setIfInBounds_toArray, List.set_cons_zero, List.set_cons_succ]
      refine wpAnyH_done (by kernel_rfl) ?_ _
      clear hS cC ct cf hn1
      go_wp2_with fail
      go_roundw
      case rel => exact ⟨k + 1, us.take far ++ [⟨closedT (us.drop far), p1, x⟩], HLT.out, by rw [e3.out]; rfl, A7.out, (hstep.out p1).1, (hstep.out p1).2⟩
      case measure =>
        rw [e3.out]
        show n - (k + 1) < n - k
        omega
    · obtain rfl : k = n := by omega
      have hT : Hid (closedT us = ofT l) := (show closedT us = ofT l by rw [closed_of us hG, hI, List.take_of_length_le (Nat.le_of_eq hlen.out)])
      obtain ⟨m, hm⟩ : ∃ m, us.length = m := ⟨_, rfl⟩
      have cC := Lib.hid (closed_any hN'.out wr A us.length c us hlie)
      have BW := Lib.hid hA.base
      rw [hm] at cC ⊢
      clear hA hG hI hul h9 hcn hcm hlie hm hk
      go_wp2_with fail
      refine cC.out.mono ?_
      rintro e w5 ⟨q, rfl, ht5, hb5⟩
      have T5 := Lib.hid ht5
      have B5 := Lib.hid (Below.after BW.out hb5)
      clear ht5 hb5 cC BW
      go_wp2_with fail
      go_ret
      exact ⟨q, rfl, hT.out ▸ T5.out, B5.out⟩
theorem treap_says (hN : NodeSays Nd) : TreapSays Nd Std20 where
  now := std20_now
  above := fun w t u p q ht hu => treapAbove_of hN w t u p q ht hu
  check := fun w t p ht h5 => treapCheck_any hN w t p ht h5
  may := fun w t p ht h5 => treapMay_any hN w t p ht h5
  mixed := fun w t p hT ht h5 => treapMixed_any hN w t p hT ht h5
  of := fun w A n c l h1 h2 => treapOf_any hN w A n c l h1 h2
  items := fun w t p ht h => treapItems_any hN w t p ht h
end Go.Proofs.YtcnkgddldhkddaaDoor
