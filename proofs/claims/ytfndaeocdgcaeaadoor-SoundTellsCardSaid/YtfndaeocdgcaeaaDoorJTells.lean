/- Proved here: for every order and every two rows of beads the law SoundTells of layer 12 returns true (which node of a tree is the first that stands where it may not, and whether one tree stands ahead of another one, are what the document says; sizes and sums are as they have to be); it changes nothing that lay. Condition: package mix's table of steps holds what its initialiser lays (tied to the program's text by the card). -/
import Derived.Test.YtfndaeocdgcaeaaDoorJF
import Derived.Test.YtfndaeocdgcaeaaDoorJO
import Derived.Test.YtfndaeocdgcaeaaDoorJP
import Derived.Test.YtfndaeocdgcaeaaDoorRows
import Derived.Below
import Derived.ChangeOld
import Derived.Test.YtfndaeocdgcaeaaDoorTie
import Derived.Test.YtfndaeocdgcaeaaDoorCards
/- Layer 12: the statement SoundTells, walked. Made by wip/gen/layer12laws.py. -/
namespace Go.Proofs.YtfndaeocdgcaeaaDoor
open Go.RowKit Go.Proofs.Treem
set_option maxRecDepth 100000
variable {Nd : NdP} {T : World → Prop}

set_option maxHeartbeats 2000000 in
theorem soundTells_long1 (hN : NodeSays Nd) (hS : SoundSays Nd T) (hO : OrdSays T) (o : Nat) (A A2 : Option Addr) (n c n2 c2 : Nat) (w : World) (h : LongAt w A n c true) (hT : T w) : Calls Tryd.prog 3 #[.int .u8 o, .slice A n c, .slice A2 n2 c2] w fun e w' => e = .returned (.bool true) ∧ Below w.heap.size w w' := by
  have c0 := Lib.hid (h w (Below.refl _ _))
  clear h
  have c9 := Lib.hid (alive12_any hN hS hO w hT)
  clear hN hS hO hT
  go_enter Tryd.func3, Tryd.ntmps3
  go_wp2_with fail
  refine c0.out.mono ?_
  rintro e w' ⟨rfl, rfl⟩
  go_wp2_with fail
  refine c9.out.mono ?_
  rintro e w1 ⟨rfl, hb⟩
  have b1 := Lib.hid hb
  clear hb
  go_wp2
  go_ret
  exact ⟨rfl, b1.out⟩
set_option maxHeartbeats 2000000 in
theorem soundTells_long2 (hN : NodeSays Nd) (hS : SoundSays Nd T) (hO : OrdSays T) (o : Nat) (A A2 : Option Addr) (n c n2 c2 : Nat) (w : World) (h : LongAt w A n c false) (h2 : LongAt w A2 n2 c2 true) (hT : T w) : Calls Tryd.prog 3 #[.int .u8 o, .slice A n c, .slice A2 n2 c2] w fun e w' => e = .returned (.bool true) ∧ Below w.heap.size w w' := by
  have c0 := Lib.hid (h w (Below.refl _ _))
  have c1 := Lib.hid (h2 w (Below.refl _ _))
  clear h h2
  have c9 := Lib.hid (alive12_any hN hS hO w hT)
  clear hN hS hO hT
  go_enter Tryd.func3, Tryd.ntmps3
  go_wp2_with fail
  refine c0.out.mono ?_
  rintro e w' ⟨rfl, rfl⟩
  go_wp2_with fail
  refine c1.out.mono ?_
  rintro e w' ⟨rfl, rfl⟩
  go_wp2_with fail
  refine c9.out.mono ?_
  rintro e w1 ⟨rfl, hb⟩
  have b1 := Lib.hid hb
  clear hb
  go_wp2
  go_ret
  exact ⟨rfl, b1.out⟩
set_option maxHeartbeats 4000000 in
theorem soundTells_yes (hN : NodeSays Nd) (hS : SoundSays Nd T) (hO : OrdSays T) (o : Nat) (A A2 : Option Addr) (n c n2 c2 : Nat) (l m : List Bd) (t u : Tr) (w : World) (h : LongAt w A n c false) (h2 : LongAt w A2 n2 c2 false) (ht : TreeIn w A n c l t) (hu : TreeIn w A2 n2 c2 m u) (hT : T w) : Calls Tryd.prog 3 #[.int .u8 o, .slice A n c, .slice A2 n2 c2] w fun e w' => e = .returned (.bool true) ∧ Below w.heap.size w w' := by
  have c0 := Lib.hid (h w (Below.refl _ _))
  have c1 := Lib.hid (h2 w (Below.refl _ _))
  have cM := Lib.hid (ht.make hN)
  have cM2 := Lib.hid (hu.make hN)
  have hts : t.size ≤ 400 := by rw [ht.size]; exact ht.few
  have hus : u.size ≤ 400 := by rw [hu.size]; exact hu.few
  have cA : Hid (∀ W, Below w.heap.size w W → Calls Tryd.prog 7 #[] W fun e w' => e = .returned (.bool true) ∧ Below W.heap.size W w') := fun W hb => alive12_any hN hS hO W (hO.next hT hb)
  have cC : Hid (∀ W p, Below w.heap.size w W → TreeAt Nd W W.heap.size t p → Calls Tryd.prog 9 #[.int .u8 o, .pointer p] W (Checked o t W)) := fun W p hb hp => hS.check W o t p (hO.next hT hb) hp (by omega)
  have cD : Hid (∀ W, Below w.heap.size w W → Calls Tryd.prog 10 #[.int .u8 o, .slice A n c] W (Checked o t W)) := fun W hb => refCheck_any o t A n c w.heap.size l ht.pre ht.size (by rw [← ht.size]; omega) W hb.size (ht.lie.next hb)
  have cE : Hid (∀ W p, TreeAt Nd W W.heap.size t p → Calls Tryd.prog 11 #[.pointer p] W fun e w' => e = .returned (.bool true) ∧ Below W.heap.size W w') := fun W p hp => hS.exact W t p hp (by omega)
  have cF : Hid (∀ W p q, Below w.heap.size w W → TreeAt Nd W W.heap.size t p → TreeAt Nd W W.heap.size u q → Calls Tryd.prog 12 #[.int .u8 o, .pointer p, .pointer q] W fun e w' => e = .returned (.bool (ahd o t u)) ∧ Below W.heap.size W w') := fun W p q hb hp hq => hS.ahead W o t u p q (hO.next hT hb) hp hq (by omega) (by omega)
  have cG : Hid (∀ W, Below w.heap.size w W → Calls Tryd.prog 13 #[.int .u8 o, .slice A n c, .slice A2 n2 c2] W fun e w' => e = .returned (.bool (ahd o t u)) ∧ Below W.heap.size W w') := fun W hb => refAhead_any o t u A A2 n c n2 c2 w.heap.size w.heap.size l m ht.pre ht.size (by rw [← ht.size]; omega) hu.pre hu.size (by rw [← hu.size]; omega) W hb.size (ht.lie.next hb) hb.size (hu.lie.next hb)
  unfold Checked at cC cD
  obtain ⟨f, hf⟩ : ∃ f, chkN o t = f := ⟨_, rfl⟩
  obtain ⟨E, hE⟩ : ∃ E, chkE o t = E := ⟨_, rfl⟩
  obtain ⟨v, hv⟩ : ∃ v, ahd o t u = v := ⟨_, rfl⟩
  rw [hf, hE] at cC cD
  rw [hv] at cF cG
  have hN' := Lib.hid hN
  have b_0 := Lib.hid (Below.refl w.heap.size w)
  clear hN hS hO hT h h2 ht hu hts hus hf hE hv
  go_enter Tryd.func3, Tryd.ntmps3
  go_wp2_with fail
  refine c0.out.mono ?_
  rintro e w' ⟨rfl, rfl⟩
  go_wp2_with fail
  refine c1.out.mono ?_
  rintro e w' ⟨rfl, rfl⟩
  go_wp2_with fail
  refine (cM.out w b_0.out).mono ?_
  rintro e w_1 ⟨p, rfl, hP, hb⟩
  have P_1 := Lib.hid hP
  have b_1 := Lib.hid (Below.after b_0.out hb)
  clear hb b_0 hP
  go_wp2_with fail
  refine (cM2.out w_1 b_1.out).mono ?_
  rintro e w_2 ⟨q, rfl, hQ, hb⟩
  have P_2 := Lib.hid (P_1.out.after hN'.out hb)
  have Q_2 := Lib.hid hQ
  have b_2 := Lib.hid (Below.after b_1.out hb)
  clear hb b_1 P_1 hQ
  go_wp2_with fail
  refine (cC.out w_2 _ b_2.out P_2.out).mono ?_
  rintro e w_3 ⟨rfl, hb⟩
  have P_3 := Lib.hid (P_2.out.after hN'.out hb)
  have Q_3 := Lib.hid (Q_2.out.after hN'.out hb)
  have b_3 := Lib.hid (Below.after b_2.out hb)
  clear hb b_2 P_2 Q_2
  go_wp2_with fail
  refine (cD.out w_3 b_3.out).mono ?_
  rintro e w_4 ⟨rfl, hb⟩
  have P_4 := Lib.hid (P_3.out.after hN'.out hb)
  have Q_4 := Lib.hid (Q_3.out.after hN'.out hb)
  have b_4 := Lib.hid (Below.after b_3.out hb)
  clear hb b_3 P_3 Q_3
  go_wp2_with fail
  refine (cE.out w_4 _ P_4.out).mono ?_
  rintro e w_5 ⟨rfl, hb⟩
  have P_5 := Lib.hid (P_4.out.after hN'.out hb)
  have Q_5 := Lib.hid (Q_4.out.after hN'.out hb)
  have b_5 := Lib.hid (Below.after b_4.out hb)
  clear hb b_4 P_4 Q_4
  go_wp2_with fail
  refine (cF.out w_5 _ _ b_5.out P_5.out Q_5.out).mono ?_
  rintro e w_6 ⟨rfl, hb⟩
  have b_6 := Lib.hid (Below.after b_5.out hb)
  clear hb b_5
  go_wp2_with fail
  refine (cG.out w_6 b_6.out).mono ?_
  rintro e w_7 ⟨rfl, hb⟩
  have b_7 := Lib.hid (Below.after b_6.out hb)
  clear hb b_6
  go_wp2_with fail
  refine (cA.out w_7 b_7.out).mono ?_
  rintro e w_8 ⟨rfl, hb⟩
  have b_8 := Lib.hid (Below.after b_7.out hb)
  clear hb b_7
  go_wp2
  go_ret
  exact ⟨rfl, b_8.out⟩
end Go.Proofs.YtfndaeocdgcaeaaDoor
namespace Go.Proofs.YtfndaeocdgcaeaaDoor
open Go.ChangeShapes Go.WideShapes Go.ChangeAt Go.RowKit
open Treem in
theorem soundTells_any (o : Nat) (A : Option Addr) (n c : Nat) (l : List Bd) (hl : l.length = n) (hn : n ≤ c) (hc : c ≤ maxLen) (hz : A = none → c = 0) (B : Option Addr) (m d : Nat) (r : List Bd) (kl : r.length = m) (kn : m ≤ d) (kc : d ≤ maxLen) (kz : B = none → d = 0) (w : World) (hr : Row w w.heap.size A (flat7 l)) (kr : Row w w.heap.size B (flat7 r)) (h0 : 0 < w.heap.size) (hs : Go.Proofs.YtfndaeocdgcaeaaDoor.Steps w) :
    Calls Tryd.prog 3 #[.int .u8 o, .slice A n c, .slice B m d] w fun e w' => e = .returned (.bool true) ∧ Below w.heap.size w w' := by
  rcases long_or hl hn hc hz hr with h | ⟨h, t, ht⟩
  · exact soundTells_long1 node_says (sound_of node_says ord_says) ord_says o A B n c m d w h ⟨h0, hs⟩
  · rcases long_or kl kn kc kz kr with k | ⟨k, q, hq⟩
    · exact soundTells_long2 node_says (sound_of node_says ord_says) ord_says o A B n c m d w h k ⟨h0, hs⟩
    · exact soundTells_yes node_says (sound_of node_says ord_says) ord_says o A B n c m d l r t q w h k ht hq ⟨h0, hs⟩

set_option maxRecDepth 100000 in
theorem soundTells_lifted (os : Os) (started : os.Started) (H : Type) (enc : TypeId × Value → H) :
    ReturnsInHanded {} Tryd.checked os 3 .any (fun w args => (Rows.soundTellsSpec.pre enc Tryd.prog Tryd.f3 [] false w args ∧ laidMetH Tryd.prog laid12 w) ∧ sizedMet enc Tryd.prog Tryd.f3 (OpenSpec.ofChange Rows.soundTellsSpec) false w args)
      (Rows.soundTellsSpec.post enc Tryd.prog Tryd.f3 false true false false) := by
  refine returnsInHanded_of_change_and (C := Tryd.checked) (X := fun w _ => laidMetH Tryd.prog laid12 w) (fun _ _ _ hh h => h.of_heap hh) own started (by kernel_rfl) Tryd.func3
    (ChangeSpec.witness_shaped (enc := enc) (C := Tryd.checked) (os := os) (X := fun w _ => laidMetH Tryd.prog laid12 w) false (World.doorLaid Tryd.prog 400 os) #[.int .u8 0, .slice none 0 0, .slice none 0 0] 8 rfl (World.shaped_of_RefB (by kernel_rfl) (by kernel_rfl)) (by kernel_rfl) (by kernel_rfl) (by kernel_rfl) (door_met os _)) ?_
  intro W base args ds gs before hval0 hW _ _ hL _
  have hval : ∀ (j : Nat) t v, Tryd.f3.params[j]? = some t → args[j]? = some v → Value.okWide Tryd.prog W .any base t v := hval0
  have hW' := hW
  obtain ⟨p, q, hA0, hV, rfl, hfz, hnd⟩ := hW
  have hA : DataW.TrodAll enc Tryd.prog W 0 (fun _ => true) true Tryd.f3.params.toList args.toList ds p := hA0
  rw [Tryd.params3] at hA hval
  obtain ⟨v0, vs0, d0, ds0, p0, q0, hargs, rfl, rfl, h0, r0⟩ := trodAll_cons hA
  obtain ⟨v1, vs1, d1, ds1, p1, q1, rfl, rfl, rfl, h1, r1⟩ := trodAll_cons r0
  obtain ⟨v2, vs2, d2, ds2, p2, q2, rfl, rfl, rfl, h2, r2⟩ := trodAll_cons r1
  obtain ⟨rfl, rfl, rfl⟩ := trodAll_nil r2
  obtain rfl : args = #[v0, v1, v2] := by cases args; simp_all
  obtain ⟨rfl, rfl⟩ := trodVars_none hV
  obtain ⟨a0, rfl, rfl, rfl, w0⟩ := open_int Tryd.underlying5 (hval 0 5 v0 rfl rfl) h0
  obtain ⟨b0, rfl, u0⟩ := byte_of a0 w0
  have k1 := h1
  have lt1 : ∀ x ∈ p1, x.block < W.heap.size := by obtain ⟨m, hm⟩ := k1; exact DataW.trod_lt m _ _ _ hm
  obtain ⟨A1, n1, c1, l1, rfl, hl1, hn1, hc1, hz1, hr1⟩ := open_beads (hval 1 22 v1 rfl rfl) h1
  have k2 := h2
  have lt2 : ∀ x ∈ p2, x.block < W.heap.size := by obtain ⟨m, hm⟩ := k2; exact DataW.trod_lt m _ _ _ hm
  obtain ⟨A2, n2, c2, l2, rfl, hl2, hn2, hc2, hz2, hr2⟩ := open_beads (hval 2 22 v2 rfl rfl) h2
  obtain ⟨hz, hst⟩ := steps_of hL
  clear hA0 hval0
  refine (soundTells_any b0 A1 n1 c1 l1 hl1 hn1 hc1 hz1 A2 n2 c2 l2 hl2 hn2 hc2 hz2 W hr1 hr2 hz hst).mono fun e W' ⟨he, bel⟩ => ?_
  subst he
  exact ⟨_, rfl, _, _, _, [], _, [], hW', trodAll_mk1 (shut_bool Tryd.underlying4 _), trodAll_cons_mk (shut_int Tryd.underlying5 w0) (trodAll_cons_mk (Below.trod laidOut (by kernel_rfl) (of_decide_eq_true (by kernel_rfl)) k1 bel lt1) (trodAll_cons_mk (Below.trod laidOut (by kernel_rfl) (of_decide_eq_true (by kernel_rfl)) k2 bel lt2) trodAll_mk0)), rfl, bel.frame _, fun h => by cases h⟩

theorem soundTells_row : Rows.SoundTellsSaid :=
  OpenClaim.holds_of_wide 3 Tryd.f3 rfl rfl rfl rfl rfl rfl rfl ⟨rfl, rfl, rfl, rfl, rfl⟩ rfl rfl rfl rfl rfl (by kernel_rfl) Tryd.func3 (by kernel_rfl)
    (of_decide_eq_true (by kernel_rfl)) (by unfold Func.isWrapper; first | (rw [if_pos (by decide +kernel)]; kernel_rfl) | (rw [if_neg (by decide +kernel)]; exact ⟨rfl, rfl⟩))
    (fun os started H enc _ => soundTells_lifted os started H enc)

theorem soundTells_holds : Rows.SoundTellsCardSaid :=
  Claim7.holds_tied_plain_at .later [] [.data] true Rows.soundTellsCard.stood.harness false
    soundTells_row (fun _ h => by cases h) (by kernel_rfl) (fun _ h => by cases h) soundTells_row_tie rfl ⟨rfl, rfl⟩ (by kernel_rfl) rfl
    (fun f fn hf hfn => by
      obtain rfl : f = 3 := Option.some.inj ((show Tryd.prog.funcNamed Rows.soundTellsRow.func = some 3 by kernel_rfl).symm.trans hf) |>.symm
      obtain rfl : fn = Tryd.f3 := (Option.some.inj (Tryd.func3.symm.trans hfn)).symm
      exact ⟨by kernel_rfl, fun j t ht => by
        rw [Tryd.params3] at ht
        have hm : t ∈ [5, 22, 22] := by simpa using Array.mem_of_getElem? ht
        have hall : ([5, 22, 22].all fun u => !Tryd.prog.wantsStandIn u) = true := by kernel_rfl
        exact (show Tryd.prog.wantsStandIn t = false by simpa using List.all_eq_true.1 hall t hm)⟩)
    (by kernel_rfl)
#print axioms soundTells_holds
end Go.Proofs.YtfndaeocdgcaeaaDoor
