/- Package rb, as landed: firstFault, by what faultOf says of a node. Made by wip/gen/layer16check.py. -/
import Derived.Test.YtifhnaelkjfmdabSOnce
import Derived.Test.YtifhnaelkjfmdabS16Leaf
import Derived.BigRegionIn
import Derived.Sort.CutIn
import Derived.Laws.EntriesVeiled
namespace Go.Proofs.Ytifhnaelkjfmdab
open Go.RowKit Go.Shelf Go.Proofs.Treem
attribute [local go_sem] Oper.semAt_some
set_option maxRecDepth 100000
variable {Nd : NdP}

set_option maxHeartbeats 8000000 in
theorem rbFirst_any (hN : NodeSays Nd) (f : Tr → Nat)
    (c1 : ∀ (W : World) (l : Tr) (k v g : BitVec 64) (r : Tr) (p : Option Addr), TreeAt Nd W W.heap.size (.n l k v g r) p → Calls Try.prog 66 #[.pointer p] W fun e w' => e = .returned (nI (f (.n l k v g r))) ∧ Below W.heap.size W w')
    (w : World) (t : Tr) (p : Option Addr) (ht : TreeAt Nd w w.heap.size t p) (h5 : t.size ≤ 5000) : Calls Try.prog 49 #[.pointer p] w fun e w' => e = .returned (.tuple #[nI (placeF f t), nI (errF f t)]) ∧ Below w.heap.size w w' := by
  obtain ⟨gI, hgI⟩ : ∃ g, w.heap.size = g := ⟨_, rfl⟩
  obtain ⟨gE, hgE⟩ : ∃ g, w.heap.size + 1 = g := ⟨_, rfl⟩
  obtain ⟨Wa, hWa⟩ : ∃ W, (w.alloc (.cells #[.int .i64 0] 3)).alloc (.cells #[.int .i64 0] 69) = W := ⟨_, rfl⟩
  have bI : Boxed Wa gI 3 (.int .i64 0) := hgI ▸ hWa ▸ (Boxed.new w _ _).alloc _
  have bE : Boxed Wa gE 69 (.int .i64 0) := by
    have := Boxed.new (w.alloc (.cells #[.int .i64 0] 3)) 69 (.int .i64 0)
    rw [World.size_alloc, hgE, hWa] at this
    exact this
  have ba : Below w.heap.size w Wa := hWa ▸ ((Below.refl _ w).alloc (Nat.le_refl _) _).alloc (by simp) _
  have cZ : Hid (∀ W, Below w.heap.size w W → Calls Try.prog 24 #[.pointer p] W fun e w' => e = .returned (nI t.size) ∧ Below W.heap.size W w') := fun W h => size_any14 hN (ht.after hN h) h5
  have cS : Hid (∀ (gT : Nat) (W : World), Below w.heap.size w W → Boxed W gT 25 (.pointer p) → ∀ n, SeqTurns mine14 Fence.wide n Try.prog 75 #[.pointer (some ⟨gT, 0, none⟩)] (fun x : It14 => #[nI x.1, .pointer (some x.2.2)]) (Kf none14 w.heap.size) (Told14 Nd f t w) (fun xs => (∀ y ∈ xs, f y.2.1 = 0) → errF f t = 0) W) :=
    fun gT W hb h2 n => once_turns hN w f t p ht h5 gT W hb h2 n
  obtain ⟨sz, hsz⟩ : ∃ s, t.size = s := ⟨_, rfl⟩
  have hall : Hid (errF f t = 0 → placeF f t = sz) := fun h => hsz ▸ placeF_all t h
  rw [hsz] at cZ
  have C1 := Lib.hid c1
  have HWa := Lib.hid hWa
  have HI := Lib.hid hgI
  have HE := Lib.hid hgE
  have ba' := Lib.hid ba
  have bI' := Lib.hid bI
  have bE' := Lib.hid bE
  have hN' := Lib.hid hN
  have GIE : Hid (gI ≠ gE) := by have : gI ≠ gE := by omega
                                 exact this
  clear hWa hgI hgE ba bI bE hN ht h5 c1 hsz
  refine (callsIn_wide (n := 9)).1 ?_
  refine callsIn_of_wp_marks Try.func49 rfl trivial ?_ rfl
  simp only [Try.ntmps49, List.size_toArray, List.length_cons, List.length_nil, Nat.reduceAdd, Nat.reduceSub, Array.replicate_succ, Array.replicate_zero, List.push_toArray, List.append_toArray, List.nil_append, List.cons_append]
  refine wpIn_wide.2 ?_
  go_upto_region 1 with (fail)
  rw [HWa.out, HE.out, HI.out]
  go_wp2_with fail
  refine (once_any p Wa).mono ?_
  rintro e W5 ⟨rfl, hW5⟩
  obtain ⟨gT, hgT⟩ : ∃ g, Wa.heap.size = g := ⟨_, rfl⟩
  rw [hgT]
  have bN : Below Wa.heap.size Wa W5 := hW5 ▸ (Below.refl _ Wa).alloc (Nat.le_refl _) _
  have bT : Boxed W5 gT 25 (.pointer p) := hgT ▸ hW5 ▸ Boxed.new Wa _ _
  have i5 : Boxed W5 gI 3 (.int .i64 0) := Has.next (show Has _ _ _ _ from bI'.out) bN
  have e5 : Boxed W5 gE 69 (.int .i64 0) := Has.next (show Has _ _ _ _ from bE'.out) bN
  have hB5 : Below w.heap.size w W5 := Below.after ba'.out bN
  have hseq := cS.out gT W5 hB5 bT
  clear hW5 hgT bN bT bI' bE' cS HWa ba'
  go_wp2_with fail
  refine (wpIn_wide (n := 9)).1 ?_
  refine wpIn_rangeFunc_turns (α := It14) rfl (by omega) (gf := 75) (lb := #[.pointer (some ⟨gT, 0, none⟩)]) rfl trivial (enters_of Try.func75 (by kernel_rfl) rfl)
    (hseq _) Kf.trans (Kf.put hB5.size) (Below.refl _ _) (fun _ => rfl)
    (fun pre W => (Boxed W gI 3 (.int .i64 0) ∧ Boxed W gE 69 (.int .i64 0)) ∧ (∀ y ∈ pre, f y.2.1 = 0) ∧ Below w.heap.size w W)
    (fun c _ W => (c = .ret ∧ Boxed W gI 3 (nI (placeF f t)) ∧ Boxed W gE 69 (nI (errF f t))) ∧ Below w.heap.size w W)
    (Abide.and (Abide.and (Abide.boxed _ _ _ (.inl rfl)) (Abide.boxed _ _ _ (.inl rfl))) (Abide.and (fun _ _ _ h _ => h) (Abide.below hB5.size (Nat.le_refl _))))
    (fun c => Abide.and (fun s X Y hs ht => by obtain ⟨h1, h5, h6⟩ := hs; exact ⟨h1, ht.boxed h5 (.inl rfl), ht.boxed h6 (.inl rfl)⟩) (Abide.below hB5.size (Nat.le_refl _)))
    ⟨⟨i5, e5⟩, (fun y hy => by cases hy), hB5⟩
    (fun pre y a' W => TreeAt Nd w w.heap.size y.2.1 (some y.2.2) ∧ y.1 ≤ 5000 ∧ ((∀ y ∈ pre, f y.2.1 = 0) → f y.2.1 ≠ 0 → errF f t = f y.2.1 ∧ placeF f t = y.1) ∧ a' = { tmps := #[.pointer p, undef, .pointer (some ⟨gI, 0, none⟩), .pointer (some ⟨gE, 0, none⟩), nI y.1, .pointer (some y.2.2), .pointer p, .func (.func 75) #[] #[.pointer (some ⟨gT, 0, none⟩)], nI y.1, .pointer (some y.2.2), undef, undef, undef, undef, undef, undef, undef, undef], defers := [] })
    (fun pre y a' _ X Y row hs hg hr => hs)
    ?assign ?body ?done ?stop
  case assign =>
    rintro L pre ⟨pl, tn, a⟩ U KK hI ⟨h1, h2, h3, h4⟩ hK
    have hK2 := Lib.hid (hK { tmps := #[.pointer p, undef, .pointer (some ⟨gI, 0, none⟩), .pointer (some ⟨gE, 0, none⟩), nI pl, .pointer (some a), .pointer p, .func (.func 75) #[] #[.pointer (some ⟨gT, 0, none⟩)], nI pl, .pointer (some a), undef, undef, undef, undef, undef, undef, undef, undef], defers := [] } U ((KeepsOthers.refl _).from _) (Kf.refl _ _ U) hI ⟨h1, Nat.le_trans (Nat.le_add_right _ _) h3, h4, rfl⟩)
    clear hK hI h1 h2 h3 h4
    gi_wp2
    exact hK2.out
  case body =>
    rintro L pre ⟨pl, tn, a⟩ a' U hL _ ⟨⟨bI, bE⟩, hp, hb⟩ ⟨h1, h2, h3, rfl⟩
    have t0 := h1.after hN'.out hb
    have q1 : Hid (Calls Try.prog 66 #[.pointer (some a)] U fun e w' => e = .returned (nI (f tn)) ∧ Below U.heap.size U w') := by
      cases tn with
      | e => cases h1
      | n l k v g r => exact C1.out U l k v g r (some a) t0
    have hft := h3 hp
    obtain ⟨x, hx⟩ : ∃ x, f tn = x := ⟨_, rfl⟩
    rw [hx] at q1
    have HX := Lib.hid hx
    have HT := Lib.hid hft
    have HP := Lib.hid hp
    have bI' := Lib.hid bI
    have bE' := Lib.hid bE
    have hb' := Lib.hid hb
    have gW0 : Hid (w.heap.size ≤ gI ∧ w.heap.size ≤ gE) := ⟨by have := HI.out; omega, by have := HE.out; omega⟩
    clear t0 hft hp bI bE hb h1 h2 h3 hx
    gi_wp2
    refine ⟨trivial, ?_⟩
    refine CallsIn.inRound L (callsIn_wide.2 (q1.out.mono ?_))
    rintro e U1 ⟨rfl, hb1⟩
    have i7 : Boxed U1 gI 3 (.int .i64 0) := Has.next (show Has _ _ _ _ from bI'.out) hb1
    have e7 : Boxed U1 gE 69 (.int .i64 0) := Has.next (show Has _ _ _ _ from bE'.out) hb1
    have fE := e7.frozen
    have xE := e7.cell
    have B7 := Lib.hid (Below.after hb'.out hb1)
    have K7 := Lib.hid hb1
    clear hb1 q1 bI' bE'
    by_cases h0 : x = 0
    · subst h0
      have sE : U1.setCell ⟨gE, 0, none⟩ (.int .i64 0) = U1 := Ret.set_same e7
      have I7 := Lib.hid i7
      have E7 := Lib.hid e7
      clear i7 e7
      gi_wp2
      refine ⟨(Ret.keeps_below K7.out).from _, Kf.of_below K7.out hb'.out.size, ⟨I7.out, E7.out⟩, ?_, B7.out⟩
      intro y hy
      rcases List.mem_append.1 hy with hy | hy
      · exact HP.out y hy
      · rw [List.mem_singleton.1 hy]; exact HX.out
    · have d1 : ((x : Int) != 0) = true := by rw [bne_iff_ne]; omega
      have hq := Lib.hid (HT.out (by rw [HX.out]; exact h0))
      obtain ⟨U2, hU2⟩ : ∃ u, U1.setCell ⟨gE, 0, none⟩ (nI x) = u := ⟨_, rfl⟩
      have i8 : Boxed U2 gI 3 (.int .i64 0) := hU2 ▸ Has.far (show Has _ _ _ _ from i7) (p := ⟨gE, 0, none⟩) GIE.out _
      have e8 : Boxed U2 gE 69 (nI x) := hU2 ▸ e7.set _
      have k8 : KeepsOthers U1 U2 := hU2 ▸ KeepsOthers.setCell _ _ _
      have b8 : Below w.heap.size w U2 := hU2 ▸ B7.out.setCell (p := ⟨gE, 0, none⟩) gW0.out.2 _
      have HU2 := Lib.hid hU2
      have I8 := Lib.hid i8
      have E8 := Lib.hid e8
      have K8 := Lib.hid k8
      have B8 := Lib.hid b8
      clear i7 e7 i8 e8 k8 b8 hU2 h0
      have a1 := GIE.out
      have a2 : gE ≠ gI := a1.symm
      gi_upto_region 5 with (fail)
      rw [HU2.out]
      have yI := I8.out.cell
      have gI' := I8.out.frozen
      have yE := E8.out.cell
      have gE' := E8.out.frozen
      clear xE fE
      gi_wp2
      gi_region
      all_goals (
        gi_wp2
        refine ⟨(((Ret.keeps_below K7.out).trans K8.out).trans (((KeepsOthers.setCell _ _ _)).trans ((KeepsOthers.setCell _ _ _).trans (Ret.keeps_drew _)))).from _, ⟨rfl, ?_, ?_⟩, ((B8.out.setCell (p := ⟨gI, 0, none⟩) gW0.out.1 _).setCell (p := ⟨gE, 0, none⟩) gW0.out.2 _).drew⟩
        · rw [hq.out.2]
          exact Has.far (show Has _ _ _ _ from I8.out.set (nI pl)) (p := ⟨gE, 0, none⟩) GIE.out _
        · rw [hq.out.1, HX.out]
          have hy : Boxed (U2.setCell ⟨gI, 0, none⟩ (nI pl)) gE 69 (nI x) := Has.far (show Has _ _ _ _ from E8.out) (p := ⟨gI, 0, none⟩) (Ne.symm GIE.out) _
          exact hy.set _)
  case done =>
    rintro D xs U hD hxs ⟨⟨bI, bE⟩, hp, hb⟩ hK
    have k1 := Lib.hid (hxs hp)
    have k2 := Lib.hid (hall.out k1.out)
    have BI := Lib.hid bI
    have BE := Lib.hid bE
    have HB := Lib.hid hb
    have HK := Lib.hid hK
    have HP := Lib.hid hp
    have q1 := Lib.hid (cZ.out U hb)
    clear hxs hp bI bE hb hK
    go_wp2_with fail
    refine q1.out.mono ?_
    rintro e U1 ⟨rfl, hb1⟩
    have i7 : Boxed U1 gI 3 (.int .i64 0) := Has.next (show Has _ _ _ _ from BI.out) hb1
    have e7 : Boxed U1 gE 69 (.int .i64 0) := Has.next (show Has _ _ _ _ from BE.out) hb1
    have hK1 : U1.heap[D]? = some (.deferred (some [])) := (hb1.block D (Array.getElem?_eq_some_iff.1 HK.out).1).trans HK.out
    have B7 := Lib.hid (Below.after HB.out hb1)
    have hDI : D ≠ gI := fun e => by rw [e, show U1.heap[gI]? = _ from i7] at hK1; cases hK1
    have hDE : D ≠ gE := fun e => by rw [e, show U1.heap[gE]? = _ from e7] at hK1; cases hK1
    obtain ⟨U2, hU2⟩ : ∃ u, (U1.setCell ⟨gI, 0, none⟩ (nI sz)).setCell ⟨gE, 0, none⟩ (.int .i64 0) = u := ⟨_, rfl⟩
    have hI1 : Has U2 gI 3 #[nI sz] := hU2 ▸ Has.far (show Has _ _ _ _ from i7.set (nI sz)) (p := ⟨gE, 0, none⟩) GIE.out _
    have hE1 : Has U2 gE 69 #[.int .i64 0] := by
      have hy : Boxed (U1.setCell ⟨gI, 0, none⟩ (nI sz)) gE 69 (.int .i64 0) := Has.far (show Has _ _ _ _ from e7) (p := ⟨gI, 0, none⟩) (Ne.symm GIE.out) _
      exact hU2 ▸ hy.set _
    have hb2 : Below w.heap.size w U2 := hU2 ▸ (B7.out.setCell (p := ⟨gI, 0, none⟩) (by have := HI.out; show w.heap.size ≤ gI; omega) _).setCell (p := ⟨gE, 0, none⟩) (by have := HE.out; show w.heap.size ≤ gE; omega) _
    have hK2 : U2.heap[D]? = some (.deferred (some [])) := hU2 ▸ (Below.heap_setCell _ _ _ D hDE).trans ((Below.heap_setCell _ _ _ D hDI).trans hK1)
    have xI := i7.cell
    have fI := i7.frozen
    have xE := e7.cell
    have fE := e7.frozen
    have a1 := GIE.out
    have a2 : gE ≠ gI := a1.symm
    have HU2 := Lib.hid hU2
    have XI := Lib.hid hI1
    have XE := Lib.hid hE1
    have XB := Lib.hid hb2
    have XK := Lib.hid hK2
    clear i7 e7 hK1 hDI hDE hU2 hI1 hE1 hb2 hK2 hb1 q1
    go_wp2_with fail
    rw [HU2.out]
    have hz2 : Has (U2.putObj D (.deferred none)) gI 3 #[nI sz] := has_turned (B := 0) XI.out (grownBy_putObj' U2 D _) (fun r e => by cases e; exact ⟨Nat.zero_le _, _, XK.out, rfl⟩)
    have hy2 : Has (U2.putObj D (.deferred none)) gE 69 #[.int .i64 0] := has_turned (B := 0) XE.out (grownBy_putObj' U2 D _) (fun r e => by cases e; exact ⟨Nat.zero_le _, _, XK.out, rfl⟩)
    refine ⟨by simp, .inl ⟨_, _, rfl, run_takeDeferred XK.out, ?_⟩⟩
    exact ⟨_, Ret.two rfl _ _ gI gE _ _ rfl rfl (Ret.load_int _ _ _ (hz2.cell 0)) (Ret.load_errno _ _ _ (hy2.cell 0)), by rw [k1.out, k2.out]; rfl, XB.out.trans (belowK_b (w := w) (Nat.le_refl _) U2 D _ _ (by have := hB5.size; omega) XK.out rfl rfl)⟩
  case stop =>
    rintro D c pre U hD ⟨⟨rfl, bI, bE⟩, hb⟩ hK
    have hz2 : Has (U.putObj D (.deferred none)) gI 3 #[nI (placeF f t)] := has_turned (B := 0) (show Has _ _ _ _ from bI) (grownBy_putObj' U D _) (fun r e => by cases e; exact ⟨Nat.zero_le _, _, hK, rfl⟩)
    have hy2 : Has (U.putObj D (.deferred none)) gE 69 #[nI (errF f t)] := has_turned (B := 0) (show Has _ _ _ _ from bE) (grownBy_putObj' U D _) (fun r e => by cases e; exact ⟨Nat.zero_le _, _, hK, rfl⟩)
    clear bI bE
    gi_wp2
    refine ⟨by simp, .inl ⟨_, _, rfl, run_takeDeferred hK, ?_⟩⟩
    exact ⟨_, Ret.two rfl _ _ gI gE _ _ rfl rfl (Ret.load_int _ _ _ (hz2.cell 0)) (Ret.load_errno _ _ _ (hy2.cell 0)), rfl, hb.trans (belowK_b (w := w) (Nat.le_refl _) U D _ _ (by have := hB5.size; omega) hK rfl rfl)⟩
end Go.Proofs.Ytifhnaelkjfmdab
