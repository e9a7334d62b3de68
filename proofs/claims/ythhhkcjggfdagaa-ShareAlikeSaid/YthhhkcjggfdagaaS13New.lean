/- Layer 13, as landed: New, Nodes, Same. -/
import Derived.Test.YthhhkcjggfdagaaS13Note
import Derived.Test.YthhhkcjggfdagaaL13Says
namespace Go.Proofs.Ythhhkcjggfdagaa
open Go.RowKit Go.Shelf Go.Proofs.Treem Go.Proofs.Cardm
attribute [local go_sem] Oper.semAt_some
set_option maxRecDepth 100000
variable {Nd : NdP}

abbrev isInt (t : TypeId) : Bool := t == 3
/-- going over one tree's nodes that aren't noted yet -/
theorem one_from (hN : NodeSays Nd) (w0 w2 : World) (hb : NK w0 w2) (L : List Addr) (hL : card L ≤ 2000) (T : AT) (hT : U13 Nd w0 L T) (S : List (Option Addr)) (gN r B : Nat) (free : TypeId → Bool) (f1 : free 62 = false) (f2 : free 55 = false) (f3 : free 25 = false) (f4 : free 30 = false) (f5 : free 48 = false)
    (hS : SetN w0 L gN r S w2) (h1 : B ≤ gN) (h2 : B ≤ r) (h3 : r < w2.heap.size) (h4 : gN < w2.heap.size) (w3 w4 : World) (e3 : w2.alloc (.cells #[.pointer T.ptr] 25) = w3)
    (e4 : (w3.alloc (.cells #[.func (.func 32) #[] #[.pointer (some ⟨gN, 0, none⟩)]] 48)).alloc (.cells #[.slice (some ⟨w2.heap.size, 0, none⟩) 1 1] 30) = w4) (m : Nat) :
    SeqFrom B mine13 Fence.wide m Try.prog 29 #[.pointer (some ⟨w3.heap.size + 1, 0, none⟩), .pointer (some ⟨w3.heap.size, 0, none⟩)] (fun y => #[y]) (Kf free 0) (fun pre y _ => pre ++ [y] <+: valsT (goL noteStep [T] S).1)
      (fun xs W => xs = valsT (goL noteStep [T] S).1 ∧ ∃ Ft, EnvN w0 L gN r (goL noteStep [T] S).2 Ft W) w4 := by
  have b3 : Below w2.heap.size w2 w3 := e3 ▸ (Below.refl _ w2).alloc (Nat.le_refl _) _
  have b4 : Below w3.heap.size w3 w4 := e4 ▸ ((Below.refl _ w3).alloc (Nat.le_refl _) _).alloc (by simp) _
  have b24 := Below.after b3 b4
  have z3 : w3.heap.size = w2.heap.size + 1 := by rw [← e3]; simp
  have z4 : w4.heap.size = w3.heap.size + 2 := by rw [← e4]; simp
  have k4 : NK w2 w4 := .of_below b24
  have s4 : SetN w0 L gN r S w4 := hS.frame k4 (b24.block _ h4) (b24.block _ h3)
  have hg4 : Boxed w4 w3.heap.size 48 (.func (.func 32) #[] #[.pointer (some ⟨gN, 0, none⟩)]) := e4 ▸ Has.alloc (show Has _ _ _ _ from Boxed.new w3 _ _) _
  have ht4 : Boxed w4 (w3.heap.size + 1) 30 (.slice (some ⟨w2.heap.size, 0, none⟩) 1 1) := by
    have := Boxed.new (w3.alloc (.cells #[.func (.func 32) #[] #[.pointer (some ⟨gN, 0, none⟩)]] 48)) 30 (.slice (some ⟨w2.heap.size, 0, none⟩) 1 1)
    rw [e4, World.size_alloc] at this
    exact this
  have hl4 : Has w4 w2.heap.size 25 #[.pointer T.ptr] := Has.next (e3 ▸ Has.new w2 25 #[.pointer T.ptr]) b4
  refine nodes13_from (Nd := Nd) hN w4 (note_goes hN w0 L gN r B w4.heap.size free f1 h1 h2 (by omega)) f2 f3 rfl f4 f5 U13.sides (fun T h => h.1) [T] (fun V hV => by rw [List.mem_singleton.1 hV]; exact hT) (w3.heap.size + 1) w3.heap.size _ 1 1 rfl (by omega) (by omega) S _ ⟨rfl, s4⟩ (by show card L - S.length ≤ 5000; omega) (hb.trans k4) ht4 hg4 (by omega) (by omega) ?_ m
  intro k V hk
  match k with
  | 0 =>
    obtain rfl : T = V := by simpa using hk
    exact ⟨_, rfl, by show ¬ (w2.heap.size = gN ∨ w2.heap.size = r); omega, ⟨_, _, _, hl4, f3⟩, hl4.cell 0⟩
  | k + 1 => simp at hk
theorem setN_put {w0 W : World} {L : List Addr} {gN r l : Nat} {S : List (Option Addr)} {o : Obj} (o' : Obj) (h : SetN w0 L gN r S W) (h1 : gN < l) (h2 : r < l) (ho : W.heap[l]? = some o) (hc : o.isCells = false) : SetN w0 L gN r S (W.putObj l o') :=
  h.frame (.of_grown (grownBy_putObj' W l o') (fun k e cs hx => by cases e; rw [ho] at hx; cases hx; cases hc)) (World.putObj_heap_other (by omega)) (World.putObj_heap_other (by omega))
set_option maxHeartbeats 8000000 in
theorem new13_any (hN : NodeSays Nd) (w : World) (T : AT) (os : List AT) (A : Option Addr) (n c : Nat) (hT : Stand Nd w T) (ho : ∀ U ∈ os, Stand Nd w U) (hA : LieP w w.heap.size A n c (os.map AT.ptr)) (hn : n ≤ 2000) (hc : card (addrsOf os ++ T.addrs) ≤ 2000) :
    Calls Try.prog 9 #[.pointer T.ptr, .slice A n c] w fun e w' => e = .returned (nI (newC T.addrs (addrsOf os))) ∧ Below w.heap.size w w' := by
  obtain ⟨L, hL⟩ : ∃ L, addrsOf os ++ T.addrs = L := ⟨_, rfl⟩
  have uT : U13 Nd w L T := ⟨hT.lies, fun b hb => hL ▸ List.mem_append_right _ hb⟩
  have uo : ∀ V ∈ os, U13 Nd w L V := fun V hV => ⟨(ho V hV).lies, fun b hb => hL ▸ List.mem_append_left _ (List.mem_flatMap.2 ⟨V, hV, hb⟩)⟩
  obtain ⟨v1, v2, -⟩ := note_is hN (us := os) (S := []) (L0 := []) (vis_nil w w.heap.size) (fun a => by simp) (fun V hV => (ho V hV).lies)
  have hcount := note_new hN v1 v2 hT.lies
  rw [List.nil_append] at hcount
  obtain ⟨S, hS⟩ : ∃ S, (goL noteStep os []).2 = S := ⟨_, rfl⟩
  rw [hS] at hcount
  obtain ⟨tot, hTot⟩ : ∃ t, (goL noteStep [T] S).1 = t := ⟨_, rfl⟩
  rw [hTot] at hcount
  have hlen : tot.length ≤ 2000 := by
    have h1 := new_le T.addrs (addrsOf os)
    have h2 : card T.addrs ≤ card (addrsOf os ++ T.addrs) := card_sub fun a ha => List.mem_append_right _ ha
    omega
  obtain ⟨N, hNC⟩ : ∃ N, newC T.addrs (addrsOf os) = N := ⟨_, rfl⟩
  rw [hNC] at hcount ⊢
  rw [hL] at hc
  obtain ⟨gC, hgC⟩ : ∃ g, w.heap.size = g := ⟨_, rfl⟩
  obtain ⟨w1, hw1⟩ : ∃ v, w.alloc (.cells #[.int .i64 0] 3) = v := ⟨_, rfl⟩
  have b1 : Below w.heap.size w w1 := hw1 ▸ (Below.refl _ w).alloc (Nat.le_refl _) _
  have z1 : w1.heap.size = gC + 1 := by rw [← hw1, ← hgC]; simp
  have x1 : Boxed w1 gC 3 (.int .i64 0) := hgC ▸ hw1 ▸ Boxed.new w _ _
  have cNo := noter_any hN w w1 b1 L hc os uo A n c hn (hA.after b1)
  have cF := fun (w2 : World) (gN r : Nat) (hb : NK w w2) (hS' : SetN w L gN r S w2) h1 h2 h3 h4 w3 w4 e3 e4 m => one_from hN w w2 hb L hc T uT S gN r (gC + 1) isInt rfl rfl rfl rfl rfl hS' h1 h2 h3 h4 w3 w4 e3 e4 m
  rw [hTot] at cF
  have cN' := Lib.hid cNo
  have cF' := Lib.hid cF
  have HC := Lib.hid hgC
  have HW := Lib.hid hw1
  have Z1 := Lib.hid z1
  have B1 := Lib.hid b1
  have X1 := Lib.hid x1
  have HS := Lib.hid hS
  have HL := Lib.hid hlen
  have HN := Lib.hid hcount
  clear cNo cF hgC hw1 z1 b1 x1 hS hlen hcount hTot v1 v2 uT uo hL hc hT ho hA hNC hN
  refine (callsIn_wide (n := 9)).1 ?_
  refine callsIn_of_wp_marks Try.func9 rfl trivial ?_ rfl
  simp only [Try.ntmps9, List.size_toArray, List.length_cons, List.length_nil, Nat.reduceAdd, Nat.reduceSub, Array.replicate_succ, Array.replicate_zero, List.push_toArray, List.append_toArray, List.nil_append, List.cons_append]
  refine wpIn_wide.2 ?_
  go_upto_region 2 with (fail)
  rw [HW.out, HC.out]
  go_wp2_with fail
  refine cN'.out.mono ?_
  rintro e w2 ⟨gN, r, rfl, h1, h2, h3, h4, hS, hb2⟩
  rw [HS.out] at hS
  obtain ⟨w3, e3⟩ : ∃ v, w2.alloc (.cells #[.pointer T.ptr] 25) = v := ⟨_, rfl⟩
  obtain ⟨g2, hg2⟩ : ∃ g, w2.heap.size = g := ⟨_, rfl⟩
  have HS2 := Lib.hid hS
  have H1 := Lib.hid h1
  have H2 := Lib.hid h2
  have H3 := Lib.hid h3
  have H4 := Lib.hid h4
  have HB2 := Lib.hid hb2
  have E3 := Lib.hid e3
  have G2 := Lib.hid hg2
  clear hS h1 h2 h3 h4 hb2 e3 hg2 cN'
  go_wp2_with fail
  rw [E3.out, G2.out]
  refine (nodes13_any _ _ _ 1 1 w3).mono ?_
  rintro e w4 ⟨rfl, e4⟩
  have hseq := cF'.out w2 gN r (.of_below (Below.after B1.out HB2.out)) HS2.out (by have := H1.out; have := Z1.out; omega) (by have := H2.out; have := Z1.out; omega) H3.out H4.out w3 w4 E3.out (by rw [G2.out]; exact e4)
  have b3 : Below w2.heap.size w2 w3 := E3.out ▸ (Below.refl _ w2).alloc (Nat.le_refl _) _
  have b4 : Below w3.heap.size w3 w4 := e4 ▸ ((Below.refl _ w3).alloc (Nat.le_refl _) _).alloc (by simp) _
  have b14 := Below.after HB2.out (Below.after b3 b4)
  have x4 : Boxed w4 gC 3 (.int .i64 0) := Has.next (show Has _ _ _ _ from X1.out) b14
  have b04 := Below.after B1.out b14
  have hz4 : gN < w4.heap.size ∧ r < w4.heap.size := ⟨Nat.lt_of_lt_of_le H4.out (Below.after b3 b4).size, Nat.lt_of_lt_of_le H3.out (Below.after b3 b4).size⟩
  have hB4 : gC + 1 ≤ w4.heap.size := by have := b14.size; have := Z1.out; omega
  obtain ⟨z3, hz3⟩ : ∃ z, w3.heap.size = z := ⟨_, rfl⟩
  rw [hz3] at hseq ⊢
  clear e4 b3 b4 b14 cF' hz3
  go_wp2_with fail
  refine (wpIn_wide (n := 9)).1 ?_
  refine wpIn_rangeFunc_from (α := Value) (mine := mine13) rfl (by omega) (gf := 29) (lb := #[.pointer (some ⟨z3 + 1, 0, none⟩), .pointer (some ⟨z3, 0, none⟩)]) rfl trivial (enters_of Try.func29 (by kernel_rfl) rfl) (hseq _) hB4
    (fun xs W l o o' hl ho' hc ⟨e1, Ft, hF, hS⟩ => ⟨e1, Ft, hF, setN_put o' hS (by omega) (by omega) ho' hc⟩) Kf.trans (fun W l o o' _ h hc hw => Kf.putObj W l o o' (Nat.zero_le _) h hc) (Below.refl _ _) (fun _ => rfl)
    (fun pre W => Boxed W gC 3 (.int .i64 (pre.length : Int)) ∧ Below w.heap.size w W) (fun _ _ _ => False)
    (AbideF.and (AbideF.boxed gC _ _ (.inr (by omega))) (AbideF.below (by have := HC.out; omega) (Nat.le_refl _))) (fun _ _ _ _ h _ => h) ⟨x4, b04⟩
    (fun pre y a' W => pre.length + 1 ≤ 2000 ∧ a' = { tmps := #[.pointer T.ptr, .slice A n c, undef, undef, .int .i64 0, .pointer (some ⟨gC, 0, none⟩), .slice A n c, .func (.func 32) #[] #[.pointer (some ⟨gN, 0, none⟩)], .pointer T.ptr, .slice (some ⟨g2, 0, none⟩) 1 1, .func (.func 29) #[] #[.pointer (some ⟨z3 + 1, 0, none⟩), .pointer (some ⟨z3, 0, none⟩)], y, undef, undef, undef], defers := [] }) (fun _ _ _ _ _ _ _ h _ _ => h) ?assign ?body ?done ?stop
  case assign =>
    rintro L' pre y V KK hI hLi hK
    have hle : pre.length + 1 ≤ 2000 := by
      have h1 := hLi.length_le
      have h2 := HL.out
      simp only [List.length_append, List.length_cons, List.length_nil, List.length_map] at h1
      omega
    have hK2 := Lib.hid (hK { tmps := #[.pointer T.ptr, .slice A n c, undef, undef, .int .i64 0, .pointer (some ⟨gC, 0, none⟩), .slice A n c, .func (.func 32) #[] #[.pointer (some ⟨gN, 0, none⟩)], .pointer T.ptr, .slice (some ⟨g2, 0, none⟩) 1 1, .func (.func 29) #[] #[.pointer (some ⟨z3 + 1, 0, none⟩), .pointer (some ⟨z3, 0, none⟩)], y, undef, undef, undef], defers := [] } V (.refl _ _) (Kf.refl _ _ V) hI ⟨hle, rfl⟩)
    clear hK hI hLi hle
    gi_wp2
    first | exact hK2.out | simpa using hK2.out
  case body =>
    rintro L' pre y a' V hL - ⟨bC, hb⟩ ⟨hle, rfl⟩
    have xC := bC.cell
    have fC := bC.frozen
    have e1 : wrap64 ((pre.length : Int) + 1) = ((pre.length + 1 : Nat) : Int) := by unfold wrap64; omega
    have hX : Hid (Boxed (V.setCell ⟨gC, 0, none⟩ (.int .i64 ((pre.length + 1 : Nat) : Int))) gC 3 (.int .i64 ((pre.length + 1 : Nat) : Int))) := bC.set _
    have hb2 : Hid (Below w.heap.size w (V.setCell ⟨gC, 0, none⟩ (.int .i64 ((pre.length + 1 : Nat) : Int)))) := hb.setCell (p := ⟨gC, 0, none⟩) (by have := HC.out; show w.heap.size ≤ gC; omega) _
    have kf : Hid (Kf isInt 0 V (V.setCell ⟨gC, 0, none⟩ (.int .i64 ((pre.length + 1 : Nat) : Int)))) := Kf.store bC _ rfl (Nat.zero_le _)
    have kk : Hid (KeepsFrom (gC + 1) V (V.setCell ⟨gC, 0, none⟩ (.int .i64 ((pre.length + 1 : Nat) : Int)))) := .of_grownBy (grownBy_setCell' V gC _) (fun j e => by cases e; omega)
    obtain ⟨q, hq⟩ : ∃ q, pre.length = q := ⟨_, rfl⟩
    rw [hq] at e1 xC hX hb2 kf kk
    have HQ := Lib.hid hq
    clear bC hb hle hq
    gi_wp2
    refine ⟨kk.out, kf.out, ?_, hb2.out⟩
    rw [List.length_append, HQ.out]
    exact hX.out
  case done =>
    rintro D xs V hD ⟨rfl, -⟩ ⟨bC, hb⟩ hK
    have e1 : (valsT tot).length = N := by rw [List.length_map]; exact HN.out
    rw [e1] at bC
    have xC := bC.cell
    have hb' := Lib.hid hb
    clear hb bC e1
    go_wp2_with fail
    refine ⟨by simp, .inl ⟨_, _, rfl, run_takeDeferred hK, ?_⟩⟩
    exact ⟨_, results_tmp rfl _ _ _, rfl, hb'.out.trans (belowK_b (w := w) (Nat.le_refl _) V D _ _ (by have := b04.size; omega) hK rfl rfl)⟩
  case stop =>
    rintro D c pre V _ h _
    exact h.elim
theorem nodes_all (hN : NodeSays Nd) (w : World) (T : AT) (hT : Stand Nd w T) (hc : card T.addrs ≤ 2000) :
    Calls Try.prog 10 #[.pointer T.ptr] w fun e w' => e = .returned (nI (card T.addrs)) ∧ Below w.heap.size w w' := by
  have c1 : Hid (Calls Try.prog 9 #[.pointer T.ptr, .slice none 0 0] w fun e w' => e = .returned (nI (card T.addrs)) ∧ Below w.heap.size w w') := by
    have := new13_any hN w T [] none 0 0 hT (fun U hU => by cases hU) ⟨rfl, Nat.le_refl _, Nat.zero_le _, fun _ => rfl, Row.none_ _ _ _⟩ (by omega) (by simpa [addrsOf] using hc)
    rw [show addrsOf [] = [] from rfl, new_nil] at this
    exact this
  clear hN hT hc
  go_enter Try.func10, Try.ntmps10
  go_wp2_with fail
  refine c1.out.mono ?_
  rintro e w1 ⟨rfl, hb⟩
  have hb' := Lib.hid hb
  clear hb c1
  go_wp2_with fail
  go_ret
  exact ⟨rfl, hb'.out⟩
set_option maxHeartbeats 4000000 in
theorem same13_any (hN : NodeSays Nd) (w : World) (T U : AT) (hT : Stand Nd w T) (hU : Stand Nd w U) (hc : card (U.addrs ++ T.addrs) ≤ 2000) :
    Calls Try.prog 8 #[.pointer T.ptr, .pointer U.ptr] w fun e w' => e = .returned (nI (sameC T.addrs U.addrs)) ∧ Below w.heap.size w w' := by
  have hle : card T.addrs ≤ card (U.addrs ++ T.addrs) := card_sub fun a ha => List.mem_append_right _ ha
  have hs := new_same T.addrs U.addrs
  obtain ⟨a, ha⟩ : ∃ a, card T.addrs = a := ⟨_, rfl⟩
  obtain ⟨b, hb⟩ : ∃ b, newC T.addrs U.addrs = b := ⟨_, rfl⟩
  obtain ⟨d, hd⟩ : ∃ d, sameC T.addrs U.addrs = d := ⟨_, rfl⟩
  have c1 : Hid (Calls Try.prog 10 #[.pointer T.ptr] w fun e w' => e = .returned (.int .i64 (a : Int)) ∧ Below w.heap.size w w') := ha ▸ nodes_all hN w T hT (by omega)
  have c2 : Hid (∀ (W : World) (g : Nat), Below w.heap.size w W → W.heap.size = g → Calls Try.prog 9 #[.pointer T.ptr, .slice (some ⟨g, 0, none⟩) 1 1] (W.alloc (.cells #[.pointer U.ptr] 25)) fun e w' => e = .returned (.int .i64 (b : Int)) ∧ Below W.heap.size W w') := fun W g hW hg => by
    have hb2 : Below W.heap.size W (W.alloc (.cells #[.pointer U.ptr] 25)) := (Below.refl _ W).alloc (Nat.le_refl _) _
    have h2 := Below.after hW hb2
    have := new13_any hN (W.alloc (.cells #[.pointer U.ptr] 25)) T [U] (some ⟨g, 0, none⟩) 1 1 (hT.after hN h2) (fun V hV => by rw [List.mem_singleton.1 hV]; exact hU.after hN h2) (by rw [← hg]; exact one_lit W _ _) (by omega) (by simpa [addrsOf] using hc)
    rw [show addrsOf [U] = U.addrs by simp [addrsOf], hb] at this
    exact this.mono fun e w' ⟨h3, h4⟩ => ⟨h3, Below.after hb2 h4⟩
  rw [ha, hb, hd] at hs
  rw [ha] at hle
  rw [hd]
  have e1 : wrap64 ((a : Int) - (b : Int)) = (d : Int) := by unfold wrap64; omega
  clear hN hT hU ha hb hd hs hle hc
  go_enter Try.func8, Try.ntmps8
  go_wp2_with fail
  refine c1.out.mono ?_
  rintro e w1 ⟨rfl, hb⟩
  have hb' := Lib.hid hb
  obtain ⟨g, hg⟩ : ∃ g, w1.heap.size = g := ⟨_, rfl⟩
  have HG := Lib.hid hg
  clear hb c1 hg
  go_wp2_with fail
  rw [HG.out]
  refine (c2.out w1 g hb'.out HG.out).mono ?_
  rintro e w2 ⟨rfl, hb⟩
  have hb2 := Lib.hid (Below.after hb'.out hb)
  clear hb
  go_wp2_with fail
  go_ret
  refine ⟨?_, hb2.out⟩
  show Ending.returned (.int .i64 (wrap64 ((a : Int) - (b : Int)))) = _
  rw [e1]
end Go.Proofs.Ythhhkcjggfdagaa
