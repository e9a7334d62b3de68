/- Package wb, as landed: Check. Made by wip/gen/layer18check.py. -/
import Derived.Test.YtifhnaelkjfmdaaS18Heavy
namespace Go.Proofs.Ytifhnaelkjfmdaa
open Go.RowKit Go.Shelf Go.Proofs.Treem
attribute [local go_sem] Oper.semAt_some
set_option maxRecDepth 100000
variable {Nd : NdP}

set_option maxHeartbeats 8000000 in
theorem wbCheck_any (hN : NodeSays Nd) (w : World) (t : Tr) (p : Option Addr) (ht : TreeAt Nd w w.heap.size t p) (h5 : t.size ≤ 5000) : Calls Try.prog 18 #[.pointer p] w fun e w' => e = .returned (.tuple #[nI (placeF rootW t), nI (errF rootW t)]) ∧ Below w.heap.size w w' := by
  obtain ⟨gI, hgI⟩ : ∃ g, w.heap.size = g := ⟨_, rfl⟩
  obtain ⟨gE, hgE⟩ : ∃ g, w.heap.size + 1 = g := ⟨_, rfl⟩
  obtain ⟨Wa, hWa⟩ : ∃ W, (w.alloc (.cells #[.int .i64 0] 3)).alloc (.cells #[.int .i64 0] 27) = W := ⟨_, rfl⟩
  have bI : Boxed Wa gI 3 (.int .i64 0) := hgI ▸ hWa ▸ (Boxed.new w _ _).alloc _
  have bE : Boxed Wa gE 27 (.int .i64 0) := by
    have := Boxed.new (w.alloc (.cells #[.int .i64 0] 3)) 27 (.int .i64 0)
    rw [World.size_alloc, hgE, hWa] at this
    exact this
  have ba : Below w.heap.size w Wa := hWa ▸ ((Below.refl _ w).alloc (Nat.le_refl _) _).alloc (by simp) _
  have cZ : Hid (Calls Try.prog 46 #[.pointer p] Wa fun e w' => e = .returned (nI t.size) ∧ Below Wa.heap.size Wa w') := size_any14 hN (ht.after hN ba) h5
  have cS : Hid (∀ (gT : Nat) (W : World), Below w.heap.size w W → Boxed W gT 25 (.pointer p) → ∀ n, SeqTurns mine14 Fence.wide n Try.prog 102 #[.pointer (some ⟨gT, 0, none⟩)] (fun x : It14 => #[nI x.1, .pointer (some x.2.2)]) (Kf none14 w.heap.size) (Told14 Nd rootW t w) (fun xs => (∀ y ∈ xs, rootW y.2.1 = 0) → errF rootW t = 0) W) :=
    fun gT W hb h2 n => once_turns hN w rootW t p ht h5 gT W hb h2 n
  have cT : Hid (∀ W, Below w.heap.size w W → Calls Try.prog 76 #[.pointer p] W fun e w' => e = .returned (.int .u64 (t.tag.toNat : Int)) ∧ Below W.heap.size W w') := fun W h => TreeAt.tag hN (ht.after hN h)
  have cH : Hid (∀ W, Below w.heap.size w W → Calls Try.prog 77 #[.pointer p] W fun e w' => e = .returned (.bool false) ∧ Below W.heap.size W w') := fun W h => wbHeavy_any hN W t p (ht.after hN h) h5
  have cW : Hid (∀ (W : World) (u : Tr) (q : Option Addr), TreeAt Nd W W.heap.size u q → u.size ≤ 5000 → Calls Try.prog 22 #[.pointer q] W fun e w' => e = .returned (nI (u.size + 1)) ∧ Below W.heap.size W w') := fun W u q h1 h2 => wbWeight_any hN W u q h1 h2
  obtain ⟨g, hg⟩ : ∃ g, t.tag.toNat = g := ⟨_, rfl⟩
  rw [hg] at cT
  obtain ⟨sz, hsz⟩ : ∃ s, t.size = s := ⟨_, rfl⟩
  have hall : Hid (errF rootW t = 0 → placeF rootW t = sz) := fun h => hsz ▸ placeF_all t h
  rw [hsz] at cZ
  have HWa := Lib.hid hWa
  have HI := Lib.hid hgI
  have HE := Lib.hid hgE
  have ba' := Lib.hid ba
  have bI' := Lib.hid bI
  have bE' := Lib.hid bE
  have hN' := Lib.hid hN
  clear hWa hgI hgE ba bI bE hN ht h5 hg hsz
  refine (callsIn_wide (n := 9)).1 ?_
  refine callsIn_of_wp_marks Try.func18 rfl trivial ?_ rfl
  simp only [Try.ntmps18, List.size_toArray, List.length_cons, List.length_nil, Nat.reduceAdd, Nat.reduceSub, Array.replicate_succ, Array.replicate_zero, List.push_toArray, List.append_toArray, List.nil_append, List.cons_append]
  refine wpIn_wide.2 ?_
  go_upto_region 1 with (fail)
  rw [HWa.out, HE.out, HI.out]
  go_step3
  go_wp2_with fail
  refine cZ.out.mono ?_
  rintro e W1 ⟨rfl, hb⟩
  have b1 := Lib.hid (Below.after ba'.out hb)
  have i1 : Boxed W1 gI 3 (.int .i64 0) := Has.next (show Has _ _ _ _ from bI'.out) hb
  have e1 : Boxed W1 gE 27 (.int .i64 0) := Has.next (show Has _ _ _ _ from bE'.out) hb
  have gIE : gI ≠ gE := by have := HI.out; have := HE.out; omega
  have xI := i1.cell
  have fI := i1.frozen
  obtain ⟨W2, hW2⟩ : ∃ W, W1.setCell ⟨gI, 0, none⟩ (nI sz) = W := ⟨_, rfl⟩
  have i2 : Boxed W2 gI 3 (nI sz) := hW2 ▸ i1.set _
  have e2 : Boxed W2 gE 27 (.int .i64 0) := hW2 ▸ Has.far (show Has _ _ _ _ from e1) (p := ⟨gI, 0, none⟩) (Ne.symm gIE) _
  have b2 : Below w.heap.size w W2 := hW2 ▸ b1.out.setCell (p := ⟨gI, 0, none⟩) (by have := HI.out; show w.heap.size ≤ gI; omega) _
  have I2 := Lib.hid i2
  have E2 := Lib.hid e2
  have B2 := Lib.hid b2
  have HW2 := Lib.hid hW2
  have GIE := Lib.hid gIE
  clear hb i1 e1 bI' bE' cZ b1 i2 e2 b2 hW2 gIE
  go_upto_region 2 with (fail)
  rw [HW2.out]
  clear xI fI
  go_wp2_with fail
  go_step3
  go_wp2_with fail
  refine (once_any p W2).mono ?_
  rintro e W5 ⟨rfl, hW5⟩
  obtain ⟨gT, hgT⟩ : ∃ g, W2.heap.size = g := ⟨_, rfl⟩
  rw [hgT]
  have bN : Below W2.heap.size W2 W5 := hW5 ▸ (Below.refl _ W2).alloc (Nat.le_refl _) _
  have bT : Boxed W5 gT 25 (.pointer p) := hgT ▸ hW5 ▸ Boxed.new W2 _ _
  have i5 : Boxed W5 gI 3 (nI sz) := Has.next (show Has _ _ _ _ from I2.out) bN
  have e5 : Boxed W5 gE 27 (.int .i64 0) := Has.next (show Has _ _ _ _ from E2.out) bN
  have hB5 : Below w.heap.size w W5 := Below.after B2.out bN
  have hseq := cS.out gT W5 hB5 bT
  clear hW5 hgT bN bT I2 E2 B2 cS HW2
  go_wp2_with fail
  refine (wpIn_wide (n := 9)).1 ?_
  refine wpIn_rangeFunc_turns (α := It14) rfl (by omega) (gf := 102) (lb := #[.pointer (some ⟨gT, 0, none⟩)]) rfl trivial (enters_of Try.func102 (by kernel_rfl) rfl)
    (hseq _) Kf.trans (Kf.put hB5.size) (Below.refl _ _) (fun _ => rfl)
    (fun pre W => (Boxed W gI 3 (nI sz) ∧ Boxed W gE 27 (.int .i64 0)) ∧ (∀ y ∈ pre, rootW y.2.1 = 0) ∧ Below w.heap.size w W)
    (fun c _ W => (c = .exit 0 ∧ errF rootW t ≠ 0 ∧ Boxed W gI 3 (nI (placeF rootW t)) ∧ Boxed W gE 27 (nI (errF rootW t))) ∧ Below w.heap.size w W)
    (Abide.and (Abide.and (Abide.boxed _ _ _ (.inl rfl)) (Abide.boxed _ _ _ (.inl rfl))) (Abide.and (fun _ _ _ h _ => h) (Abide.below hB5.size (Nat.le_refl _))))
    (fun c => Abide.and (fun s X Y hs ht => by obtain ⟨h1, h2, h5, h6⟩ := hs; exact ⟨h1, h2, ht.boxed h5 (.inl rfl), ht.boxed h6 (.inl rfl)⟩) (Abide.below hB5.size (Nat.le_refl _)))
    ⟨⟨i5, e5⟩, (fun y hy => by cases hy), hB5⟩
    (fun pre y a' W => TreeAt Nd w w.heap.size y.2.1 (some y.2.2) ∧ y.1 + y.2.1.size ≤ 5000 ∧ ((∀ y ∈ pre, rootW y.2.1 = 0) → rootW y.2.1 ≠ 0 → errF rootW t = rootW y.2.1 ∧ placeF rootW t = y.1) ∧ a' = { tmps := #[.pointer p, undef, .pointer (some ⟨gI, 0, none⟩), .pointer (some ⟨gE, 0, none⟩), nI y.1, .pointer (some y.2.2), .pointer p, nI sz, .pointer p, .func (.func 102) #[] #[.pointer (some ⟨gT, 0, none⟩)], nI y.1, .pointer (some y.2.2), undef, undef, undef, undef, undef, undef, undef, undef, undef, undef, undef, undef, undef, undef, undef, undef, undef, undef, undef, undef, undef, undef, undef, undef, undef, undef, undef, undef], defers := [] })
    (fun pre y a' _ X Y row hs hg hr => hs)
    ?assign ?body ?done ?stop
  case assign =>
    rintro L pre ⟨pl, tn, a⟩ U KK hI ⟨h1, h2, h3, h4⟩ hK
    have hK2 := Lib.hid (hK { tmps := #[.pointer p, undef, .pointer (some ⟨gI, 0, none⟩), .pointer (some ⟨gE, 0, none⟩), nI pl, .pointer (some a), .pointer p, nI sz, .pointer p, .func (.func 102) #[] #[.pointer (some ⟨gT, 0, none⟩)], nI pl, .pointer (some a), undef, undef, undef, undef, undef, undef, undef, undef, undef, undef, undef, undef, undef, undef, undef, undef, undef, undef, undef, undef, undef, undef, undef, undef, undef, undef, undef, undef], defers := [] } U ((KeepsOthers.refl _).from _) (Kf.refl _ _ U) hI ⟨h1, h3, h4, rfl⟩)
    clear hK hI h1 h2 h3 h4
    gi_wp2
    exact hK2.out
  case body =>
    rintro L pre ⟨pl, tn, a⟩ a' U hL _ ⟨⟨bI, bE⟩, hp, hb⟩ ⟨h1, h2, h3, rfl⟩
    simp only at h1 h2 h3
    have t0 := h1.after hN'.out hb
    obtain ⟨l, k, v, gg, r, rfl⟩ : ∃ l k v g r, tn = .n l k v g r := by
      cases tn with
      | e => cases h1
      | n l k v g r => exact ⟨l, k, v, g, r, rfl⟩
    rw [Tr.size] at h2
    have q1 : Hid (Calls Try.prog 76 #[.pointer (some a)] U fun e w' => e = .returned (.int .u64 (gg.toNat : Int)) ∧ Below U.heap.size U w') := TreeAt.tag hN'.out t0
    have q2 := Lib.hid (fun W (h : Below U.heap.size U W) => TreeAt.leftT hN'.out (t0.after hN'.out h))
    have q3 := Lib.hid (fun W (h : Below U.heap.size U W) => TreeAt.rightT hN'.out (t0.after hN'.out h))
    have wl : Hid (∀ W q, TreeAt Nd W W.heap.size l q → Calls Try.prog 22 #[.pointer q] W fun e w' => e = .returned (nI (l.size + 1)) ∧ Below W.heap.size W w') := fun W q h => cW.out W l q h (by omega)
    have wr : Hid (∀ W q, TreeAt Nd W W.heap.size r q → Calls Try.prog 22 #[.pointer q] W fun e w' => e = .returned (nI (r.size + 1)) ∧ Below W.heap.size W w') := fun W q h => cW.out W r q h (by omega)
    have lk : Hid (∀ W, Calls Try.prog 25 #[nI (l.size + 1), nI (r.size + 1)] W fun e w' => e = .returned (.bool (likeT l r)) ∧ Below W.heap.size W w') := fun W => wbLike_any W _ _ (by omega) (by omega) (by omega) (by omega)
    have hft := h3 hp
    have hrt : Hid (rootW (.n l k v gg r) = if gg.toNat ≠ 0 then 140 else if likeT l r = true then 0 else 8) := rfl
    obtain ⟨x, hx⟩ : ∃ x, rootW (.n l k v gg r) = x := ⟨_, rfl⟩
    obtain ⟨b, hlb⟩ : ∃ b, likeT l r = b := ⟨_, rfl⟩
    obtain ⟨m, hm⟩ : ∃ m, gg.toNat = m := ⟨_, rfl⟩
    rw [hm] at q1
    rw [hlb] at lk
    rw [hx, hm, hlb] at hrt
    rw [hx] at hft
    have HX := Lib.hid hx
    have HT := Lib.hid hft
    have HP := Lib.hid hp
    have bI' := Lib.hid bI
    have bE' := Lib.hid bE
    have hb' := Lib.hid hb
    have gW0 : Hid (w.heap.size ≤ gI ∧ w.heap.size ≤ gE) := ⟨by have := HI.out; omega, by have := HE.out; omega⟩
    clear t0 hft hp bI bE hb h1 h2 h3 hx hm hlb
    gi_wp2
    refine ⟨trivial, ?_⟩
    refine CallsIn.inRound L (callsIn_wide.2 (q1.out.mono ?_))
    rintro e U1 ⟨rfl, hb1⟩
    have K1 := Lib.hid hb1
    clear hb1 q1
    by_cases h0 : m = 0
    · subst h0
      gi_wp2
      refine ⟨trivial, ?_⟩
      refine CallsIn.inRound L (callsIn_wide.2 ((q2.out U1 K1.out).mono ?_))
      rintro e U2 ⟨ql, rfl, hl2, hb2⟩
      have K2 := Lib.hid (Below.after K1.out hb2)
      have L2 := Lib.hid hl2
      clear hb2 hl2 q2 K1
      gi_wp2
      refine ⟨trivial, ?_⟩
      refine CallsIn.inRound L (callsIn_wide.2 ((wl.out U2 ql L2.out).mono ?_))
      rintro e U3 ⟨rfl, hb3⟩
      have K3 := Lib.hid (Below.after K2.out hb3)
      clear hb3 L2 wl K2
      gi_wp2
      refine ⟨trivial, ?_⟩
      refine CallsIn.inRound L (callsIn_wide.2 ((q3.out U3 K3.out).mono ?_))
      rintro e U4 ⟨qr, rfl, hr4, hb4⟩
      have K4 := Lib.hid (Below.after K3.out hb4)
      have R4 := Lib.hid hr4
      clear hb4 hr4 q3 K3
      gi_wp2
      refine ⟨trivial, ?_⟩
      refine CallsIn.inRound L (callsIn_wide.2 ((wr.out U4 qr R4.out).mono ?_))
      rintro e U5 ⟨rfl, hb5⟩
      have K5 := Lib.hid (Below.after K4.out hb5)
      clear hb5 R4 wr K4
      gi_wp2
      refine ⟨trivial, ?_⟩
      refine CallsIn.inRound L (callsIn_wide.2 ((lk.out U5).mono ?_))
      rintro e U6 ⟨rfl, hb6⟩
      have k6 := Below.after K5.out hb6
      have i7 : Boxed U6 gI 3 (nI sz) := Has.next (show Has _ _ _ _ from bI'.out) k6
      have e7 : Boxed U6 gE 27 (.int .i64 0) := Has.next (show Has _ _ _ _ from bE'.out) k6
      have K7 := Lib.hid k6
      have B7 := Lib.hid (Below.after hb'.out k6)
      clear hb6 lk K5 k6
      cases b with
      | true =>
        have I7 := Lib.hid i7
        have E7 := Lib.hid e7
        clear i7 e7
        gi_wp2
        refine ⟨(Ret.keeps_below K7.out).from _, Kf.of_below K7.out hb'.out.size, ⟨I7.out, E7.out⟩, ?_, B7.out⟩
        intro y hy
        rcases List.mem_append.1 hy with hy | hy
        · exact HP.out y hy
        · rw [List.mem_singleton.1 hy]; exact HX.out.trans hrt.out
      | false =>
        have hxe : x = 8 := by have h := hrt.out; simpa using h
        have hq := Lib.hid (HT.out (by rw [hxe]; decide))
        have xI := i7.cell
        have fI := i7.frozen
        have xE := e7.cell
        have fE := e7.frozen
        have a5 := GIE.out
        have a6 : gE ≠ gI := a5.symm
        have I7 := Lib.hid i7
        have E7 := Lib.hid e7
        clear i7 e7
        gi_wp2
        refine ⟨((Ret.keeps_below K7.out).trans ((KeepsOthers.setCell _ _ _).trans (KeepsOthers.setCell _ _ _))).from _, ⟨rfl, ?_, ?_, ?_⟩, (B7.out.setCell (p := ⟨gI, 0, none⟩) gW0.out.1 _).setCell (p := ⟨gE, 0, none⟩) gW0.out.2 _⟩
        · rw [hq.out.1, hxe]; decide
        · rw [hq.out.2]
          exact Has.far (show Has _ _ _ _ from I7.out.set (nI pl)) (p := ⟨gE, 0, none⟩) GIE.out _
        · rw [hq.out.1, hxe]
          have hy : Boxed (U6.setCell ⟨gI, 0, none⟩ (nI pl)) gE 27 (.int .i64 0) := Has.far (show Has _ _ _ _ from E7.out) (p := ⟨gI, 0, none⟩) (Ne.symm GIE.out) _
          exact hy.set _
    · have d1 : ((m : Int) != 0) = true := by rw [bne_iff_ne]; omega
      have i7 : Boxed U1 gI 3 (nI sz) := Has.next (show Has _ _ _ _ from bI'.out) K1.out
      have e7 : Boxed U1 gE 27 (.int .i64 0) := Has.next (show Has _ _ _ _ from bE'.out) K1.out
      have K7 := K1
      have B7 := Lib.hid (Below.after hb'.out K1.out)
      clear K1 q2 q3 wl wr lk
      have hxe : x = 140 := by have h := hrt.out; rw [if_pos h0] at h; exact h
      have hq := Lib.hid (HT.out (by rw [hxe]; decide))
      have xI := i7.cell
      have fI := i7.frozen
      have xE := e7.cell
      have fE := e7.frozen
      have a5 := GIE.out
      have a6 : gE ≠ gI := a5.symm
      have I7 := Lib.hid i7
      have E7 := Lib.hid e7
      clear i7 e7
      gi_wp2
      refine ⟨((Ret.keeps_below K7.out).trans ((KeepsOthers.setCell _ _ _).trans (KeepsOthers.setCell _ _ _))).from _, ⟨rfl, ?_, ?_, ?_⟩, (B7.out.setCell (p := ⟨gI, 0, none⟩) gW0.out.1 _).setCell (p := ⟨gE, 0, none⟩) gW0.out.2 _⟩
      · rw [hq.out.1, hxe]; decide
      · rw [hq.out.2]
        exact Has.far (show Has _ _ _ _ from I7.out.set (nI pl)) (p := ⟨gE, 0, none⟩) GIE.out _
      · rw [hq.out.1, hxe]
        have hy : Boxed (U1.setCell ⟨gI, 0, none⟩ (nI pl)) gE 27 (.int .i64 0) := Has.far (show Has _ _ _ _ from E7.out) (p := ⟨gI, 0, none⟩) (Ne.symm GIE.out) _
        exact hy.set _
  case done =>
    rintro D xs U hD hxs ⟨⟨bI, bE⟩, hp, hb⟩ hK
    have k1 := Lib.hid (hxs hp)
    have k2 := Lib.hid (hall.out k1.out)
    have xI := bI.cell
    have fI := bI.frozen
    have xE := bE.cell
    have fE := bE.frozen
    have sI := Ret.set_same bI
    have sE := Ret.set_same bE
    have hz2 : Has (U.drew.putObj D (.deferred none)) gI 3 #[nI sz] := has_turned (B := 0) (show Has U.drew gI _ _ from bI) (grownBy_putObj' U.drew D _) (fun r e => by cases e; exact ⟨Nat.zero_le _, _, hK, rfl⟩)
    have hy2 : Has (U.drew.putObj D (.deferred none)) gE 27 #[.int .i64 0] := has_turned (B := 0) (show Has U.drew gE _ _ from bE) (grownBy_putObj' U.drew D _) (fun r e => by cases e; exact ⟨Nat.zero_le _, _, hK, rfl⟩)
    have HZ := Lib.hid hz2
    have HY := Lib.hid hy2
    have HB := Lib.hid hb
    have HK := Lib.hid hK
    clear hxs hp hz2 hy2 hb hK bI bE cT cH cW
    go_wp2_with fail
    go_region
    go_wp2_with fail
    dsimp only [Exit.noGoto]
    refine ⟨by simp, .inl ⟨_, _, rfl, run_takeDeferred (w := U.drew) HK.out, ?_⟩⟩
    exact ⟨_, Ret.two rfl _ _ gI gE _ _ rfl rfl (Ret.load_int _ _ _ (HZ.out.cell 0)) (Ret.load_errno _ _ _ (HY.out.cell 0)), by rw [k1.out, k2.out]; rfl, HB.out.drew.trans (belowK_b (w := w) (Nat.le_refl _) U.drew D _ _ (by have := hB5.size; omega) HK.out rfl rfl)⟩
  case stop =>
    rintro D c pre U hD ⟨⟨rfl, hne, bI, bE⟩, hb⟩ hK
    obtain ⟨q1, hq1⟩ : ∃ x, placeF rootW t = x := ⟨_, rfl⟩
    obtain ⟨q2, hq2⟩ : ∃ x, errF rootW t = x := ⟨_, rfl⟩
    rw [hq1] at bI
    rw [hq2] at bE hne
    have HQ1 := Lib.hid hq1
    have HQ2 := Lib.hid hq2
    have d1 : ((q2 : Int) != 0) = true := by rw [bne_iff_ne]; omega
    have xE := bE.cell
    have BI := Lib.hid bI
    have BE := Lib.hid bE
    have HB := Lib.hid hb
    have HK := Lib.hid hK
    clear bI bE hb hK hall hq1 hq2 hne
    gi_wp2
    go_wp2_with fail
    refine (cT.out U HB.out).mono ?_
    rintro e U1 ⟨rfl, hb1⟩
    have B1 := Lib.hid (Below.after HB.out hb1)
    have K1 := Lib.hid hb1
    clear hb1 cT xE
    by_cases h0 : g = 0
    · subst h0
      go_wp2_with fail
      refine (cH.out U1 B1.out).mono ?_
      rintro e U2 ⟨rfl, hb2⟩
      have B2 := Lib.hid (Below.after B1.out hb2)
      have K2 := Lib.hid (Below.after K1.out hb2)
      clear hb2 cH B1 K1
      have bI : Boxed U2 gI 3 (nI q1) := Has.next (show Has _ _ _ _ from BI.out) K2.out
      have bE : Boxed U2 gE 27 (nI q2) := Has.next (show Has _ _ _ _ from BE.out) K2.out
      have hK : U2.heap[D]? = some (.deferred (some [])) := (K2.out.block D (Array.getElem?_eq_some_iff.1 HK.out).1).trans HK.out
      have xI := bI.cell
      have fI := bI.frozen
      have xE := bE.cell
      have fE := bE.frozen
      have sI := Ret.set_same bI
      have sE := Ret.set_same bE
      have hz2 : Has (U2.drew.putObj D (.deferred none)) gI 3 #[nI q1] := has_turned (B := 0) (show Has U2.drew gI _ _ from bI) (grownBy_putObj' U2.drew D _) (fun r e => by cases e; exact ⟨Nat.zero_le _, _, hK, rfl⟩)
      have hy2 : Has (U2.drew.putObj D (.deferred none)) gE 27 #[nI q2] := has_turned (B := 0) (show Has U2.drew gE _ _ from bE) (grownBy_putObj' U2.drew D _) (fun r e => by cases e; exact ⟨Nat.zero_le _, _, hK, rfl⟩)
      have HZ := Lib.hid hz2
      have HY := Lib.hid hy2
      have HK2 := Lib.hid hK
      clear hz2 hy2 hK bI bE
      go_wp2_with fail
      go_region
      go_wp2_with fail
      dsimp only [Exit.noGoto]
      refine ⟨by simp, .inl ⟨_, _, rfl, run_takeDeferred (w := U2.drew) HK2.out, ?_⟩⟩
      exact ⟨_, Ret.two rfl _ _ gI gE _ _ rfl rfl (Ret.load_int _ _ _ (HZ.out.cell 0)) (Ret.load_errno _ _ _ (HY.out.cell 0)), by rw [HQ1.out, HQ2.out]; rfl, B2.out.drew.trans (belowK_b (w := w) (Nat.le_refl _) U2.drew D _ _ (by have := hB5.size; omega) HK2.out rfl rfl)⟩
    · have d2 : ((g : Int) == 0) = false := by rw [beq_eq_false_iff_ne]; omega
      clear cH
      have bI : Boxed U1 gI 3 (nI q1) := Has.next (show Has _ _ _ _ from BI.out) K1.out
      have bE : Boxed U1 gE 27 (nI q2) := Has.next (show Has _ _ _ _ from BE.out) K1.out
      have hK : U1.heap[D]? = some (.deferred (some [])) := (K1.out.block D (Array.getElem?_eq_some_iff.1 HK.out).1).trans HK.out
      have xI := bI.cell
      have fI := bI.frozen
      have xE := bE.cell
      have fE := bE.frozen
      have sI := Ret.set_same bI
      have sE := Ret.set_same bE
      have hz2 : Has (U1.drew.putObj D (.deferred none)) gI 3 #[nI q1] := has_turned (B := 0) (show Has U1.drew gI _ _ from bI) (grownBy_putObj' U1.drew D _) (fun r e => by cases e; exact ⟨Nat.zero_le _, _, hK, rfl⟩)
      have hy2 : Has (U1.drew.putObj D (.deferred none)) gE 27 #[nI q2] := has_turned (B := 0) (show Has U1.drew gE _ _ from bE) (grownBy_putObj' U1.drew D _) (fun r e => by cases e; exact ⟨Nat.zero_le _, _, hK, rfl⟩)
      have HZ := Lib.hid hz2
      have HY := Lib.hid hy2
      have HK2 := Lib.hid hK
      clear hz2 hy2 hK bI bE
      go_wp2_with fail
      go_region
      go_wp2_with fail
      dsimp only [Exit.noGoto]
      refine ⟨by simp, .inl ⟨_, _, rfl, run_takeDeferred (w := U1.drew) HK2.out, ?_⟩⟩
      exact ⟨_, Ret.two rfl _ _ gI gE _ _ rfl rfl (Ret.load_int _ _ _ (HZ.out.cell 0)) (Ret.load_errno _ _ _ (HY.out.cell 0)), by rw [HQ1.out, HQ2.out]; rfl, B1.out.drew.trans (belowK_b (w := w) (Nat.le_refl _) U1.drew D _ _ (by have := hB5.size; omega) HK2.out rfl rfl)⟩
end Go.Proofs.Ytifhnaelkjfmdaa
