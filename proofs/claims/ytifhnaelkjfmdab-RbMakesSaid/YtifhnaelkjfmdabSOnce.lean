/- Package beads, as landed (what avl, rb, wb share): the walk over a tree's nodes, and what starts it. -/
import Derived.Test.YtifhnaelkjfmdabS14Nodes
import Derived.Test.YtifhnaelkjfmdabGRound
namespace Go.Proofs.Ytifhnaelkjfmdab
open Go.RowKit Go.Shelf Go.Proofs.Treem
attribute [local go_sem] Oper.semAt_some
set_option maxRecDepth 100000
variable {Nd : NdP}

set_option maxHeartbeats 8000000 in
theorem once_turns (hN : NodeSays Nd) (w0 : World) (f : Tr → Nat) (t : Tr) (p : Option Addr) (ht : TreeAt Nd w0 w0.heap.size t p) (h5 : t.size ≤ 5000) (gT : Nat) (w : World) (hb0 : Below w0.heap.size w0 w) (hP : Boxed w gT 25 (.pointer p)) (n : Nat) :
    SeqTurns mine14 Fence.wide n Try.prog 75 #[.pointer (some ⟨gT, 0, none⟩)] (fun x : It14 => #[nI x.1, .pointer (some x.2.2)]) (Kf none14 w0.heap.size) (Told14 Nd f t w0) (fun xs => (∀ y ∈ xs, f y.2.1 = 0) → errF f t = 0) w := fun l J Jx W hbW hJ hJx hY hJ0 => by
  obtain ⟨i0, hin, hz0, hz1, hz2⟩ := info_parts info_ptr14
  obtain ⟨B', hB'⟩ : ∃ b, W.heap.size = b := ⟨_, rfl⟩
  obtain ⟨r, hr⟩ : ∃ b, W.heap.size = b := ⟨_, rfl⟩
  have bw : Below w0.heap.size w0 W := hb0.trans (hbW.mono hb0.size)
  have xP : W.cell? ⟨gT, 0, none⟩ = some (.pointer p) := keep_cell hbW hP.cell
  have hgT : gT < W.heap.size := Nat.lt_of_lt_of_le hP.lt hbW.size
  have gnone : ∀ V, GoodP V none := fun V a e => by cases e
  obtain ⟨W1, hW1⟩ : ∃ W1, (W.alloc (.map #[] 0)).putObj r (setO [none]) = W1 := ⟨_, rfl⟩
  have hm0 : (W.alloc (.map #[] 0)).heap[r]? = some (setO []) := hr ▸ World.alloc_heap_new W _
  have hput : (Instr.mapUpdate 104 (.map (some W.heap.size)) (.pointer none) (.bool true)).run Try.prog (W.alloc (.map #[] 0)) = .ok () W1 := by
    rw [hr, ← hW1]
    exact put14 _ r [] hm0 (fun q hq => by cases hq) none (gnone _) (by simp)
  have hmm := @run_makeMap Try.prog
  have ha : Below W.heap.size W (W.alloc (.map #[] 0)) := (Below.refl _ W).alloc (Nat.le_refl _) _
  have b1 : Below W.heap.size W W1 := by
    have hk : Kf (fun _ => false) r (W.alloc (.map #[] 0)) ((W.alloc (.map #[] 0)).putObj r (setO [none])) := Kf.putObj _ r _ _ (Nat.le_refl _) hm0 rfl
    rw [hW1] at hk
    exact ha.trans (hr ▸ hk.below)
  have been1 : W1.heap[r]? = some (setO [none]) := hW1 ▸ World.putObj_heap_same (Array.getElem?_eq_some_iff.1 hm0).1
  have xP1 : W1.cell? ⟨gT, 0, none⟩ = some (.pointer p) := keep_cell b1 xP
  obtain ⟨W2, hW2⟩ : ∃ W2, W1.alloc (.cells #[.pointer p] 25) = W2 := ⟨_, rfl⟩
  obtain ⟨gO, hgO⟩ : ∃ g, W1.heap.size = g := ⟨_, rfl⟩
  have b2 : Below W1.heap.size W1 W2 := hW2 ▸ (Below.refl _ W1).alloc (Nat.le_refl _) _
  have ow2 : W2.ownsRow B' 25 1 (.slice (some ⟨gO, 0, none⟩) 1 1) 1 [.pointer p] := hgO ▸ hW2 ▸ World.ownsRow_lit W1 #[.pointer p] 1 (hB' ▸ b1.size) (by decide) rfl
  rw [hB'] at hJ hJx hY
  have h1 : At14 Nd w0 r B' J [none] [(t, p)] [] (.slice (some ⟨gO, 0, none⟩) 1 1) W2 :=
    ⟨bw.trans ((Below.after b1 b2).mono bw.size), (b2.block r (Array.getElem?_eq_some_iff.1 been1).1).trans been1, List.mem_singleton.2 rfl, (fun q hq => by rw [List.mem_singleton.1 hq]; exact gnone _), ow2, (fun u hu => by rw [List.mem_singleton.1 hu]; exact ht), hJ _ _ _ hJ0 (.of_below (Below.after b1 b2)), by show 2 * t.size + 1 + 0 ≤ _; omega, hB' ▸ (Below.after b1 b2).size, hB' ▸ bw.size, by omega⟩
  have H1 := Lib.hid h1
  have G1 : Hid (Go14 Nd f t w0 [none] [(t, p)] [] 0) := Go14.start f t w0 p
  have H5000 := Lib.hid h5
  obtain ⟨mu, hmu⟩ := least_of (α := Value × Value × World) (fun m q => ∃ (S : List (Option Addr)) (us : List (Tr × Option Addr)) (pre : List It14) (pl : Nat), m = load14 us ∧ q.1 = nI pl ∧ At14 Nd w0 r B' J S us pre q.2.1 q.2.2 ∧ Go14 Nd f t w0 S us pre pl)
  have hmu' := Lib.hid hmu
  have HW1 := Lib.hid hW1
  have HW2 := Lib.hid hW2
  have HR := Lib.hid hr
  have HO := Lib.hid hgO
  have hN' := Lib.hid hN
  have hJ' := Lib.hid hJ
  have hY' := Lib.hid hY
  clear hmu hW1 hW2 hr hgO hN hJ hJx hY h1 bw b1 b2 ow2 been1 ha hm0 hJ0 hB' ht h5 hb0 hP hbW gnone hgT
  refine callsIn_of_wp Try.func75 rfl trivial ?_ rfl
  simp only [Try.ntmps75, List.size_toArray, List.length_cons, List.length_nil, Nat.reduceAdd, Nat.reduceSub, Array.replicate_succ, Array.replicate_zero, List.push_toArray, List.append_toArray, List.nil_append, List.cons_append]
  refine wpIn_wide.2 ?_
  go_upto_region 2 with (fail)
  clear hput hmm xP
  rw [HR.out]
  go_wp2_with fail
  rw [HW2.out, HO.out]
  clear xP1
  go_loopw [3, 5] (fun x v wr => ∃ (m : Nat) (S : List (Option Addr)) (us : List (Tr × Option Addr)) (pre : List It14) (pl : Nat), m = load14 us ∧ x = nI pl ∧ At14 Nd w0 r B' J S us pre v wr ∧ Go14 Nd f t w0 S us pre pl) (fun x v wr => mu (x, v, wr))
  case atStart => exact ⟨_, _, _, _, 0, rfl, rfl, H1.out, G1.out⟩
  case round =>
    clear H1 G1
    obtain ⟨m, hm⟩ := hrel
    obtain ⟨⟨S, us, pre, pl, em, ex, h3, G3⟩, -⟩ := hmu'.out (_, _, wr) m hm
    simp only at h3 ex
    subst ex
    have G3 := Lib.hid G3
    obtain ⟨A, c, rfl, hcn, -, -⟩ := own_slice h3.ow
    cases us with
    | nil =>
      have H3 := Lib.hid h3
      clear h3 hm em hcn
      go_wp2_with fail
      go_end0
      exact ⟨⟨_, rfl⟩, .inl ⟨pre, G3.out.done, H3.out.j⟩⟩
    | cons u us =>
      obtain ⟨tn, q⟩ := u
      obtain ⟨mm, hmm⟩ : ∃ n, us.length = n := ⟨_, rfl⟩
      obtain ⟨nn, hnn⟩ : ∃ n, mm + 1 = n := ⟨_, rfl⟩
      have hld := h3.ld
      have hfew := load14_len us
      rw [hmm] at hfew
      rw [load14_cons] at hld em
      simp only at hld em
      have d5 : mm ≤ 10001 := by omega
      obtain ⟨ad, rfl, g0⟩ := h3.top hmm
      have htn : TreeAt Nd w0 w0.heap.size tn q := h3.ls _ (List.mem_cons_self ..)
      have gq0 : GoodP w0 q := good_tree14 hN'.out htn
      have gq : GoodP wr q := gq0.below h3.base
      rw [List.length_cons, hmm, hnn] at h3 hcn em ⊢
      have e1 : wrap64 ((nn : Int) - 1) = (mm : Int) := by unfold wrap64; omega
      have d1 : decide ((0 : Int) < (nn : Int)) = true := decide_eq_true (by omega)
      have d2 : 0 < nn := by omega
      have hix : mm < nn := by omega
      have ct : ∀ W, (Instr.slice 85 (.slice (some ad) nn c) none (some (.int .i64 (mm : Int))) none).run Try.prog W = .ok (.slice (some ad) mm c) W := cut_to Try.underlying85 size_ptr14 (some ad) nn c mm _ rfl (by omega)
      have hnS : none ∈ S := h3.none
      obtain ⟨B, hB⟩ : ∃ b, decide (q ∈ S) = b := ⟨_, rfl⟩
      have lk := look14 wr r S h3.been h3.goods q gq B hB
      have H4 := Lib.hid (h3.pop hmm hnn)
      have hnn' := Lib.hid hnn
      have hmm' := Lib.hid hmm
      have em' := Lib.hid em
      have htn' := Lib.hid htn
      have hld' := Lib.hid hld
      have hB' := Lib.hid hB
      have gq' := Lib.hid gq
      have gq0' := Lib.hid gq0
      have hnS' := Lib.hid hnS
      clear h3 hm em hcn hnn hmm htn hld hfew hB gq gq0 hnS
      cases B with
      | true =>
        have hq : q ∈ S := of_decide_eq_true hB'.out
        have G5 := Lib.hid (G3.out.again htn'.out hq)
        have hs5 := G5.out.size
        have h50 := H5000.out
        have e5 : wrap64 ((pl : Int) + (tn.size : Int)) = ((pl + tn.size : Nat) : Int) := by unfold wrap64; omega
        have cZ : Hid (Calls Try.prog 24 #[.pointer q] wr fun e w' => e = .returned (nI tn.size) ∧ Below wr.heap.size wr w') := size_any14 hN'.out (htn'.out.next hN'.out H4.out.base) (by omega)
        obtain ⟨sz, hsz⟩ : ∃ s, tn.size = s := ⟨_, rfl⟩
        have hsz' := Lib.hid hsz
        rw [hsz] at e5 cZ
        clear hs5 h50 hq hsz
        go_wp2_with fail
        refine cZ.out.mono ?_
        rintro e w5 ⟨rfl, hb5⟩
        have H5 := Lib.hid (H4.out.below hJ'.out hb5)
        clear hb5 cZ
        have hm := Lib.hid (hmu'.out (nI (pl + tn.size), .slice (some ad) mm c, w5) _ ⟨_, _, _, pl + tn.size, rfl, rfl, H5.out, G5.out⟩)
        rw [hsz'.out] at hm
        go_wp2_with fail
        go_roundw
        case rel => rw [e5]; exact ⟨_, (hm.out).1⟩
        case measure =>
          rw [e5]
          have h1 : mu (.int .i64 ((pl + sz : Nat) : Int), .slice (some ad) mm c, w5) ≤ _ := hm.out.2
          have h2 := em'.out
          omega
      | false =>
        have hq : q ∉ S := of_decide_eq_false hB'.out
        have hp := put14 wr r S H4.out.been H4.out.goods q gq'.out hq
        have H5 := Lib.hid (H4.out.put (p := q) hJ'.out gq0'.out)
        obtain ⟨wb, hwb⟩ : ∃ wb, wr.putObj r (setO (S ++ [q])) = wb := ⟨_, rfl⟩
        rw [hwb] at hp H5
        clear hwb H4
        cases tn with
        | e =>
          obtain rfl : q = none := htn'.out
          exact absurd hnS'.out hq
        | n tl k x g tr =>
          obtain ⟨a, pL, pr, rfl, hnd, hl, hr⟩ := htn'.out
          have G6 := Lib.hid (Go14.step (p1 := pL) (p2 := pr) hN'.out G3.out htn'.out)
          have hs5 := G3.out.size
          rw [size14_cons, Tr.size] at hs5
          have h50 := H5000.out
          have hTold : Told14 Nd f t w0 pre (pl, .n tl k x g tr, a) wb := ⟨htn'.out, H5.out.base, by show pl + (1 + tl.size + tr.size) ≤ 5000; omega, G3.out.told⟩
          have e5 : wrap64 ((pl : Int) + 1) = ((pl + 1 : Nat) : Int) := by unfold wrap64; omega
          clear hs5 h50
          obtain ⟨fnY, tmY, asY, bdY, hyv, hR⟩ := round_any (m' := 0) (show YieldAt _ _ _ _ #[.int .i64 (pl : Int), .pointer (some a)] wb _ from hY'.out pre (pl, .n tl k x g tr, a) wb H5.out.j hTold)
          have hR' := Lib.hid hR
          have hnd' := Lib.hid hnd
          have hl' := Lib.hid hl
          have hr' := Lib.hid hr
          have hsz : Hid (Tr.size (.n tl k x g tr) = 1 + tl.size + tr.size) := rfl
          rw [hsz.out] at em' hld'
          clear hR hTold hnd hl hr hsz hq
          go_upto_region 10 with (fail)
          refine (wpIn_wide (n := 0)).1 ?_
          gi_wp2
          refine ⟨rfl, ?_⟩
          refine hR'.out.mono ?_
          clear hR' hyv hp lk g0
          rintro e wy ⟨⟨rfl, hj, hk⟩ | ⟨rfl, hx⟩, hf⟩
          · have HY := Lib.hid (H5.out.yielded hj hk hf)
            have bY := HY.out.base
            have cR : Hid (Calls Try.prog 17 #[.pointer (some a)] wy fun e w' => e = .returned (.pointer pr) ∧ wy = w') := hN'.out.right wy w0.heap.size a _ (hN'.out.next hnd'.out bY)
            have cL : Hid (Calls Try.prog 16 #[.pointer (some a)] wy fun e w' => e = .returned (.pointer pL) ∧ wy = w') := hN'.out.left wy w0.heap.size a _ (hN'.out.next hnd'.out bY)
            have hsl : wy.ownsRow B' 25 1 (.slice (some ad) mm c) mm (ptrs14 us.reverse) := hmm'.out ▸ HY.out.ow
            have hby : B' ≤ wy.heap.size := HY.out.sz
            clear hj hk hf bY
            gi_wp2
            go_wp2_with fail
            refine cR.out.mono ?_
            rintro e w' ⟨rfl, rfl⟩
            go_wp2_with fail
            refine cL.out.mono ?_
            rintro e w' ⟨rfl, rfl⟩
            go_wp2_with (
              (at_builtin
               refine wpList_append_own _ rfl _ _ 85 rfl B' 25 i0 (.pointer none) 1 8 Try.underlying85 hin hz0 hz1 hz2 rfl (by decide) (.slice (some ad) mm c) mm (ptrs14 us.reverse) rfl (hsl.alloc _) ⟨wy.heap.size, 0, none⟩ 2 2 [.pointer pr, .pointer pL] rfl rfl (fun j u hu => ((Has.new wy 25 #[.pointer pr, .pointer pL]).row.at_ hu).2) (by simp [Value.oneCell']) (by unfold maxLen; omega) (by omega) (by simp; omega) ?_
               intro v2 w4 hown' hgrow _
               obtain ⟨g', cap', rfl⟩ := ownsRow_succ hown'
               have H9 := Lib.hid (HY.out.push (tl := tl) (tr := tr) (pl := pL) (pr := pr) hJ'.out hl'.out hr'.out (by have := hld'.out; omega) (by rw [hmm'.out]; exact hown') hgrow)
               have hm := Lib.hid (hmu'.out (nI (pl + 1), _, w4) _ ⟨_, _, _, pl + 1, rfl, rfl, H9.out, G6.out⟩)))
            go_roundw
            case rel => exact ⟨_, (hm.out).1⟩
            case measure =>
              have h1 := hm.out.2
              have h2 := em'.out
              rw [load14_cons, load14_cons, show nI (pl + 1) = Value.int .i64 ((pl : Int) + 1) from rfl] at h1
              simp only at h1
              omega
          · have hx' := Lib.hid hx
            clear hx
            gi_wp2
            go_wp2_with fail
            exact bodyPost_ret (results_none rfl _ _ _) rfl ⟨⟨_, rfl⟩, .inr ⟨_, hx'.out⟩⟩
set_option maxHeartbeats 1000000 in
theorem once_any (p : Option Addr) (w : World) : Calls Try.prog 65 #[.pointer p] w fun e w' =>
    e = .returned (.func (.func 75) #[] #[.pointer (some ⟨w.heap.size, 0, none⟩)]) ∧ w.alloc (.cells #[.pointer p] 25) = w' := by
  go_enter Try.func65, Try.ntmps65
  go_wp2
  go_ret
  exact ⟨rfl, rfl⟩
end Go.Proofs.Ytifhnaelkjfmdab
