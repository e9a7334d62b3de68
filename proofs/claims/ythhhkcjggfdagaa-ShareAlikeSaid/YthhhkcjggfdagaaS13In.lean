/- Layer 13, as landed: In. -/
import Derived.Test.YthhhkcjggfdagaaS13New
namespace Go.Proofs.Ythhhkcjggfdagaa
open Go.RowKit Go.Shelf Go.Proofs.Treem Go.Proofs.Cardm
attribute [local go_sem] Oper.semAt_some
set_option maxRecDepth 100000
variable {Nd : NdP}

theorem goV_some {σ : Type} (step : σ → Option Addr → Bool × σ) : ∀ (T : AT) (s : σ), ∀ V ∈ (goV step T s).1, ∃ a, V.ptr = some a
  | .e, s, V, hV => by simp [goV] at hV
  | .n a x l r, s, V, hV => by
    unfold goV at hV
    split at hV
    · rcases List.mem_cons.1 hV with rfl | hV
      · exact ⟨a, rfl⟩
      · rcases List.mem_append.1 hV with hV | hV
        · exact goV_some step l _ V hV
        · exact goV_some step r _ V hV
    · cases hV
theorem eql13 (W : World) (p q : Option Addr) (h : GoodP W p) (k : GoodP W q) (b : Bool) (hb : decide (p = q) = b) : (binOp .eql 25 (.pointer p) (.pointer q)).run Try.prog W = .ok (.bool b) W := by
  obtain ⟨j, hj, hs⟩ := node_info
  have e := equal_ptr (P := Try.prog) W Try.underlying25 hj hs p q h k
  rw [hb] at e
  simp [binOp, e]
theorem results_cell1 {P : Program} {fn : Func} {p : Tmp} {t : TypeId} (h : fn.results = #[.cell p t]) (tmps : Array Value) (w : World) (gp : Nat) (x : Value)
    (hp : tmps.getD p undef = .pointer (some ⟨gp, 0, none⟩)) (lp : (loadVar t ⟨gp, 0, none⟩).run P w = .ok x w) : (results fn tmps).run P w = .ok x w := by
  have hp' : tmps[p]?.getD undef = .pointer (some ⟨gp, 0, none⟩) := by simpa using hp
  simp [results, h, hp', asAddr, lp]
theorem load_bool13 (w : World) (a : Addr) (x : Value) (h : w.cell? a = some x) : (loadVar 4 a).run Try.prog w = .ok x w := by
  simp [loadVar, h]
/-- what of In lies there -/
def InAt (w : World) (gV gR : Nat) (p : Option Addr) (b : Bool) (W : World) : Prop := Boxed W gV 25 (.pointer p) ∧ Boxed W gR 4 (.bool b) ∧ Below w.heap.size w W
set_option maxHeartbeats 8000000 in
theorem in13_any (hN : NodeSays Nd) (w : World) (T V : AT) (hT : Stand Nd w T) (hV : Stand Nd w V) (hc : card T.addrs ≤ 2000) :
    Calls Try.prog 16 #[.pointer T.ptr, .pointer V.ptr] w fun e w' => e = .returned (.bool (inB V.ptr T.addrs)) ∧ Below w.heap.size w w' := by
  have uT : U13 Nd w T.addrs T := ⟨hT.lies, fun b hb => hb⟩
  obtain ⟨v1, v2, v3⟩ := note_is hN (us := [T]) (S := []) (L0 := []) (vis_nil w w.heap.size) (fun a => by simp) (fun V hV => by rw [List.mem_singleton.1 hV]; exact hT.lies)
  have hsome := goV_some noteStep T []
  rw [← goL_one] at hsome
  have hgood : ∀ U ∈ (goL noteStep [T] []).1, GoodN w U.ptr := fun U hU => by
    obtain ⟨a, ha⟩ := hsome U hU
    have h1 : some a ∈ (goL noteStep [T] []).2 := by rw [v3]; exact List.mem_append_right _ (List.mem_map.2 ⟨U, hU, ha⟩)
    have h2 : a ∈ T.addrs := by have := (v2 a).1 h1; simpa [addrsOf] using this
    obtain ⟨Q, e, hq, -⟩ := AT.sub_at hT.lies a h2
    rw [ha, ← e]
    exact GoodN.root hN hq
  have hiff : Value.pointer V.ptr ∈ valsT (goL noteStep [T] []).1 ↔ inB V.ptr T.addrs = true := by
    constructor
    · intro h
      obtain ⟨U, hU, e⟩ := List.mem_map.1 h
      obtain ⟨a, ha⟩ := hsome U hU
      have e2 : V.ptr = some a := by rw [← ha]; simpa using e.symm
      have h1 : some a ∈ (goL noteStep [T] []).2 := by rw [v3]; exact List.mem_append_right _ (List.mem_map.2 ⟨U, hU, ha⟩)
      have h2 : a ∈ T.addrs := by have := (v2 a).1 h1; simpa [addrsOf] using this
      rw [e2]; simpa [inB] using h2
    · intro h
      cases hp : V.ptr with
      | none => rw [hp] at h; cases h
      | some a =>
        rw [hp] at h
        have h2 : a ∈ T.addrs := by simpa [inB] using h
        have h1 : some a ∈ (goL noteStep [T] []).2 := (v2 a).2 (by simpa [addrsOf] using h2)
        rw [v3, List.nil_append] at h1
        obtain ⟨U, hU, e⟩ := List.mem_map.1 h1
        exact List.mem_map.2 ⟨U, hU, by rw [e]⟩
  have gV0 : GoodN w V.ptr := GoodN.root hN hV.lies
  obtain ⟨tot, hTot⟩ : ∃ t, (goL noteStep [T] []).1 = t := ⟨_, rfl⟩
  obtain ⟨ans, hans⟩ : ∃ b, inB V.ptr T.addrs = b := ⟨_, rfl⟩
  obtain ⟨p, hp⟩ : ∃ p, V.ptr = p := ⟨_, rfl⟩
  rw [hTot] at hgood hiff
  rw [hans] at hiff ⊢
  rw [hp] at gV0 hiff ⊢
  obtain ⟨gV, hgV⟩ : ∃ g, w.heap.size = g := ⟨_, rfl⟩
  obtain ⟨gR, hgR⟩ : ∃ g, w.heap.size + 1 = g := ⟨_, rfl⟩
  obtain ⟨w1, hw1⟩ : ∃ v, (w.alloc (.cells #[.pointer p] 25)).alloc (.cells #[.bool false] 4) = v := ⟨_, rfl⟩
  have b1 : Below w.heap.size w w1 := hw1 ▸ ((Below.refl _ w).alloc (Nat.le_refl _) _).alloc (by simp) _
  have z1 : w1.heap.size = gV + 2 := by rw [← hw1, ← hgV]; simp
  have x1 : Boxed w1 gV 25 (.pointer p) := hgV ▸ hw1 ▸ Has.alloc (show Has _ _ _ _ from Boxed.new w _ _) _
  have y1 : Boxed w1 gR 4 (.bool false) := by
    have := Boxed.new (w.alloc (.cells #[.pointer p] 25)) 4 (.bool false)
    rw [hw1, World.size_alloc, hgR] at this
    exact this
  have hVR : gR = gV + 1 := by omega
  have cNo := noter_any hN w w1 b1 T.addrs hc [] (fun U hU => by cases hU) none 0 0 (by omega) ⟨rfl, Nat.le_refl _, Nat.zero_le _, fun _ => rfl, Row.none_ _ _ _⟩
  have cF := fun (w2 : World) (gN r : Nat) (hb : NK w w2) (hS' : SetN w T.addrs gN r [] w2) h1 h2 h3 h4 w3 w4 e3 e4 m => one_from hN w w2 hb T.addrs hc T uT [] gN r (gV + 2) (fun _ => false) rfl rfl rfl rfl rfl hS' h1 h2 h3 h4 w3 w4 e3 e4 m
  rw [hTot] at cF
  have cN' := Lib.hid cNo
  have cF' := Lib.hid cF
  have HV := Lib.hid hgV
  have HR := Lib.hid hgR
  have HW := Lib.hid hw1
  have Z1 := Lib.hid z1
  have B1 := Lib.hid b1
  have X1 := Lib.hid x1
  have Y1 := Lib.hid y1
  have HI := Lib.hid hiff
  have HG := Lib.hid hgood
  have GV := Lib.hid gV0
  have VR := Lib.hid hVR
  clear cNo cF hgV hgR hw1 z1 b1 x1 y1 hiff hgood gV0 hTot v1 v2 v3 uT hc hT hV hN hsome hp hans hVR
  refine (callsIn_wide (n := 9)).1 ?_
  refine callsIn_of_wp_marks Try.func16 rfl trivial ?_ rfl
  simp only [Try.ntmps16, List.size_toArray, List.length_cons, List.length_nil, Nat.reduceAdd, Nat.reduceSub, Array.replicate_succ, Array.replicate_zero, List.push_toArray, List.append_toArray, List.nil_append, List.cons_append]
  refine wpIn_wide.2 ?_
  go_upto_region 1 with (fail)
  rw [HW.out, HR.out, HV.out]
  go_wp2_with fail
  refine cN'.out.mono ?_
  rintro e w2 ⟨gN, r, rfl, h1, h2, h3, h4, hS, hb2⟩
  have hS : SetN w T.addrs gN r [] w2 := hS
  obtain ⟨w3, e3⟩ : ∃ v, w2.alloc (.cells #[.pointer T.ptr] 25) = v := ⟨_, rfl⟩
  obtain ⟨g2, hg2⟩ : ∃ g, w2.heap.size = g := ⟨_, rfl⟩
  have HS2 := Lib.hid hS
  have H1 := Lib.hid h1
  have H2 := Lib.hid h2
  have H3 := Lib.hid h3
  have H4 := Lib.hid h4
  have HB2 := Lib.hid hb2
  have E3 := Lib.hid e3
  have G2 := Lib.hid hg2
  clear hS h1 h2 h3 h4 hb2 e3 hg2 cN'
  go_wp2_with fail
  rw [E3.out, G2.out]
  refine (nodes13_any _ _ _ 1 1 w3).mono ?_
  rintro e w4 ⟨rfl, e4⟩
  have hseq := cF'.out w2 gN r (.of_below (Below.after B1.out HB2.out)) HS2.out (by have := H1.out; have := Z1.out; omega) (by have := H2.out; have := Z1.out; omega) H3.out H4.out w3 w4 E3.out (by rw [G2.out]; exact e4)
  have b3 : Below w2.heap.size w2 w3 := E3.out ▸ (Below.refl _ w2).alloc (Nat.le_refl _) _
  have b4 : Below w3.heap.size w3 w4 := e4 ▸ ((Below.refl _ w3).alloc (Nat.le_refl _) _).alloc (by simp) _
  have b14 := Below.after HB2.out (Below.after b3 b4)
  have h0 : InAt w gV gR p false w4 := ⟨Has.next (show Has _ _ _ _ from X1.out) b14, Has.next (show Has _ _ _ _ from Y1.out) b14, Below.after B1.out b14⟩
  have hz4 : gN < w4.heap.size ∧ r < w4.heap.size := ⟨Nat.lt_of_lt_of_le H4.out (Below.after b3 b4).size, Nat.lt_of_lt_of_le H3.out (Below.after b3 b4).size⟩
  have hB4 : gV + 2 ≤ w4.heap.size := by have := b14.size; have := Z1.out; omega
  have hgw : w.heap.size ≤ gV + 2 := by have := HV.out; omega
  obtain ⟨z3, hz3⟩ : ∃ z, w3.heap.size = z := ⟨_, rfl⟩
  rw [hz3] at hseq ⊢
  have H0 := Lib.hid h0
  clear e4 b3 b4 b14 cF' hz3 h0
  go_wp2_with fail
  refine (wpIn_wide (n := 9)).1 ?_
  have ab : ∀ b, AbideF mine13 (gV + 2) w4.heap.size w4.heap.size (fun (_ : List Value) W => InAt w gV gR p b W) := fun b => AbideF.and (AbideF.boxed gV _ _ (.inr (by omega))) (AbideF.and (AbideF.boxed gR _ _ (.inr (by have := VR.out; omega))) (AbideF.below hgw (Nat.le_refl _)))
  refine wpIn_rangeFunc_from (α := Value) (mine := mine13) rfl (by omega) (gf := 29) (lb := #[.pointer (some ⟨z3 + 1, 0, none⟩), .pointer (some ⟨z3, 0, none⟩)]) rfl trivial (enters_of Try.func29 (by kernel_rfl) rfl) (hseq _) hB4
    (fun xs W l o o' hl ho' hc ⟨e1, Ft, hF, hS⟩ => ⟨e1, Ft, hF, setN_put o' hS (by omega) (by omega) ho' hc⟩) Kf.trans (fun W l o o' _ h hc hw => Kf.putObj W l o o' (Nat.zero_le _) h hc) (Below.refl _ _) (fun _ => rfl)
    (fun pre W => InAt w gV gR p false W ∧ .pointer p ∉ pre) (fun c _ W => InAt w gV gR p true W ∧ c = .ret ∧ ans = true)
    (AbideF.and (ab false) (AbideF.pure _)) (fun c => AbideF.and (ab true) (AbideF.pure _)) ⟨H0.out, by simp⟩
    (fun pre y a' W => ∃ q, y = .pointer q ∧ GoodN w q ∧ .pointer q ∈ valsT tot ∧ a' = { tmps := #[.pointer T.ptr, .pointer p, undef, .pointer (some ⟨gV, 0, none⟩), .pointer (some ⟨gR, 0, none⟩), .pointer q, .func (.func 32) #[] #[.pointer (some ⟨gN, 0, none⟩)], .pointer T.ptr, .slice (some ⟨g2, 0, none⟩) 1 1, .func (.func 29) #[] #[.pointer (some ⟨z3 + 1, 0, none⟩), .pointer (some ⟨z3, 0, none⟩)], .pointer q, undef, undef, undef], defers := [] }) (fun _ _ _ _ _ _ _ h _ _ => h) ?assign ?body ?done ?stop
  case assign =>
    rintro L' pre y V' KK hI hLi hK
    have hy : y ∈ valsT tot := hLi.subset (by simp)
    obtain ⟨U, hU, rfl⟩ := List.mem_map.1 hy
    obtain ⟨q, hq⟩ : ∃ q, U.ptr = q := ⟨_, rfl⟩
    have hg := HG.out U hU
    rw [hq] at hg hy hK ⊢
    have hK2 := Lib.hid (hK _ V' (.refl _ _) (Kf.refl _ _ V') hI ⟨q, rfl, hg, hy, rfl⟩)
    clear hK hI hLi hg hy hU
    gi_wp2
    first | exact hK2.out | simpa using hK2.out
  case body =>
    rintro L' pre y a' V' hL - ⟨⟨bV, bR, hb⟩, hno⟩ ⟨q, rfl, hg, hm, rfl⟩
    have xV := bV.cell
    have hk : NK w V' := .of_below hb
    obtain ⟨b, hbq⟩ : ∃ b, decide (q = p) = b := ⟨_, rfl⟩
    have pe := eql13 V' q p (hg.good hk) (GV.out.good hk) b hbq
    cases b with
    | false =>
      have hne : q ≠ p := of_decide_eq_false hbq
      have hend : Hid (InAt w gV gR p false V' ∧ .pointer p ∉ pre ++ [.pointer q]) := ⟨⟨bV, bR, hb⟩, by simp; exact ⟨hno, fun e => hne e.symm⟩⟩
      clear hbq bV bR hb hno hg hm hk hne
      gi_wp2
      exact ⟨.refl _ _, Kf.refl _ _ V', hend.out⟩
    | true =>
      obtain rfl : q = p := of_decide_eq_true hbq
      have xR := bR.cell
      have fR := bR.frozen
      have kk : Hid (KeepsFrom (gV + 2) V' (V'.setCell ⟨gR, 0, none⟩ (.bool true))) := .of_grownBy (grownBy_setCell' V' gR _) (fun j e => by cases e; have := VR.out; omega)
      have hend : Hid (InAt w gV gR q true (V'.setCell ⟨gR, 0, none⟩ (.bool true)) ∧ ans = true) := ⟨⟨Has.far (show Has _ _ _ _ from bV) (by have := VR.out; show gV ≠ gR; omega) _, bR.set _, hb.setCell (p := ⟨gR, 0, none⟩) (by have := HR.out; show w.heap.size ≤ gR; omega) _⟩, HI.out.1 hm⟩
      clear hbq bV bR hb hno hg hm hk
      gi_wp2
      exact ⟨kk.out, hend.out.1, rfl, hend.out.2⟩
  case done =>
    rintro D xs V' hD ⟨rfl, -⟩ ⟨⟨bV, bR, hb⟩, hno⟩ hK
    obtain rfl : ans = false := by
      cases ans with
      | false => rfl
      | true => exact absurd (HI.out.2 rfl) hno
    have xR := bR.cell
    have fR := bR.frozen
    have hX2 : Has (V'.setCell ⟨gR, 0, none⟩ (.bool false)) gR 4 #[.bool false] := bR.set _
    have hb2 : Below w.heap.size w (V'.setCell ⟨gR, 0, none⟩ (.bool false)) := hb.setCell (p := ⟨gR, 0, none⟩) (by have := HR.out; show w.heap.size ≤ gR; omega) _
    have hK2 : (V'.setCell ⟨gR, 0, none⟩ (.bool false)).heap[D]? = some (.deferred (some [])) := (Below.heap_setCell _ _ _ D (fun e => by
      have e : D = gR := e
      subst e
      rw [show V'.heap[D]? = _ from bR] at hK
      cases hK)).trans hK
    have hX3 : Has ((V'.setCell ⟨gR, 0, none⟩ (.bool false)).putObj D (.deferred none)) gR 4 #[.bool false] := has_turned (B := 0) hX2 (grownBy_putObj' _ D _) (fun r e => by cases e; exact ⟨Nat.zero_le _, _, hK2, rfl⟩)
    clear bV hb hno
    go_wp2_with fail
    refine ⟨by simp, .inl ⟨_, _, rfl, run_takeDeferred hK2, ?_⟩⟩
    exact ⟨_, results_cell1 rfl _ _ gR _ rfl (load_bool13 _ _ _ (hX3.cell 0)), rfl, hb2.trans (belowK_b (w := w) (Nat.le_refl _) _ D _ _ (by have := H0.out.2.2.size; omega) hK2 rfl rfl)⟩
  case stop =>
    rintro D c pre V' hD ⟨⟨bV, bR, hb⟩, rfl, rfl⟩ hK
    have hX3 : Has (V'.putObj D (.deferred none)) gR 4 #[.bool true] := has_turned (B := 0) (show Has _ _ _ _ from bR) (grownBy_putObj' _ D _) (fun r e => by cases e; exact ⟨Nat.zero_le _, _, hK, rfl⟩)
    clear bV bR
    gi_wp2
    refine ⟨by simp, .inl ⟨_, _, rfl, run_takeDeferred hK, ?_⟩⟩
    exact ⟨_, results_cell1 rfl _ _ gR _ rfl (load_bool13 _ _ _ (hX3.cell 0)), rfl, hb.trans (belowK_b (w := w) (Nat.le_refl _) _ D _ _ (by have := H0.out.2.2.size; omega) hK rfl rfl)⟩
end Go.Proofs.Ythhhkcjggfdagaa
