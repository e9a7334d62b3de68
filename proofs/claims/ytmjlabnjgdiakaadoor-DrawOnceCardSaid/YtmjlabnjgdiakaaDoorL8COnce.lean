/- Proved here: for every row of numbers, every row of keys and every number the law DrawOnce of layer 8 returns true (of as many numbers as there are each is taken once, in order; behind them who asks for the same key gets the same, and for another another; what was handed in says nothing any more); it changes nothing that lay. Condition: package mix's table of steps holds what its initialiser lays (tied to the program's text by the card). -/
import Derived.Test.YtmjlabnjgdiakaaDoorL8Says
import Derived.Test.YtmjlabnjgdiakaaDoorL8Once
import Derived.Test.YtmjlabnjgdiakaaDoorL8Open
import Derived.Test.YtmjlabnjgdiakaaDoorRows
import Derived.Below
import Derived.ChangeOld
import Derived.Test.YtmjlabnjgdiakaaDoorTie
import Derived.Test.YtmjlabnjgdiakaaDoorCards
namespace Go.Proofs.YtmjlabnjgdiakaaDoor
open Go.ChangeShapes Go.WideShapes Go.ChangeAt Go.RowKit

theorem drawOnce_any (A : Option Addr) (n c : Nat) (l : List (BitVec 64)) (hl : l.length = n) (hn : n ≤ c) (hc : c ≤ maxLen) (hA : A = none → c = 0) (B : Option Addr) (m d : Nat) (ks : List (BitVec 64)) (kl : ks.length = m) (kn : m ≤ d) (kc : d ≤ maxLen) (kA : B = none → d = 0) (x : BitVec 64) (w : World) (hr : Row w w.heap.size A (l.map V)) (kr : Row w w.heap.size B (ks.map K)) (h0 : 0 < w.heap.size) (hs : Go.Proofs.YtmjlabnjgdiakaaDoor.Steps w) :
    Calls Tryd.prog 4 #[.slice A n c, .slice B m d, V x] w fun e w' => e = .returned (.bool true) ∧ Below w.heap.size w w' := by
  by_cases h : 200 < n
  · exact drawOnce_many1 draw_says A B n c m d x h w h0 hs
  · by_cases k : 200 < m
    · exact drawOnce_many2 draw_says A B n c m d x (by omega) k w h0 hs
    · by_cases j : m = 0
      · subst j; exact drawOnce_many3 draw_says A B n c d x (by omega) w h0 hs
      · exact drawOnce_few draw_says A B n c m d l ks x (by omega) (by omega) (by omega) w h0 hs (lieu_of hl (by omega) hn hc hA hr) (lieu_of kl (by omega) kn kc kA kr)

set_option maxRecDepth 100000 in
theorem drawOnce_lifted (os : Os) (started : os.Started) (H : Type) (enc : TypeId × Value → H) :
    ReturnsInHanded {} Tryd.checked os 4 .any (fun w args => (Rows.drawOnceSpec.pre enc Tryd.prog Tryd.f4 [] false w args ∧ laidMetH Tryd.prog laid8 w) ∧ sizedMet enc Tryd.prog Tryd.f4 (OpenSpec.ofChange Rows.drawOnceSpec) false w args)
      (Rows.drawOnceSpec.post enc Tryd.prog Tryd.f4 false true false false) := by
  refine returnsInHanded_of_change_and (C := Tryd.checked) (X := fun w _ => laidMetH Tryd.prog laid8 w) (fun _ _ _ hh h => h.of_heap hh) own started (by kernel_rfl) Tryd.func4
    (ChangeSpec.witness_shaped (enc := enc) (C := Tryd.checked) (os := os) (X := fun w _ => laidMetH Tryd.prog laid8 w) false (World.doorLaid Tryd.prog 400 os) #[.slice none 0 0, .slice none 0 0, .int .u64 0] 8 rfl (World.shaped_of_RefB (by kernel_rfl) (by kernel_rfl)) (by kernel_rfl) (by kernel_rfl) (by kernel_rfl) (door_met os _)) ?_
  intro W base args ds gs before hval0 hW _ _ hL _
  have hval : ∀ (j : Nat) t v, Tryd.f4.params[j]? = some t → args[j]? = some v → Value.okWide Tryd.prog W .any base t v := hval0
  have hW' := hW
  obtain ⟨p, q, hA0, hV, rfl, hfz, hnd⟩ := hW
  have hA : DataW.TrodAll enc Tryd.prog W 0 (fun _ => true) true Tryd.f4.params.toList args.toList ds p := hA0
  rw [Tryd.params4] at hA hval
  obtain ⟨v0, vs0, d0, ds0, p0, q0, hargs, rfl, rfl, h0, r0⟩ := trodAll_cons hA
  obtain ⟨v1, vs1, d1, ds1, p1, q1, rfl, rfl, rfl, h1, r1⟩ := trodAll_cons r0
  obtain ⟨v2, vs2, d2, ds2, p2, q2, rfl, rfl, rfl, h2, r2⟩ := trodAll_cons r1
  obtain ⟨rfl, rfl, rfl⟩ := trodAll_nil r2
  obtain rfl : args = #[v0, v1, v2] := by cases args; simp_all
  obtain ⟨rfl, rfl⟩ := trodVars_none hV
  have k0 := h0
  have lt0 : ∀ x ∈ p0, x.block < W.heap.size := by obtain ⟨m, hm⟩ := k0; exact DataW.trod_lt m _ _ _ hm
  obtain ⟨A0, n0, c0, l0, rfl, hl0, hn0, hc0, hz0, hr0⟩ := open_nums Tryd.underlying22 Tryd.underlying30 (by kernel_rfl) (hval 0 22 v0 rfl rfl) h0
  have k1 := h1
  have lt1 : ∀ x ∈ p1, x.block < W.heap.size := by obtain ⟨m, hm⟩ := k1; exact DataW.trod_lt m _ _ _ hm
  obtain ⟨A1, n1, c1, l1, rfl, hl1, hn1, hc1, hz1, hr1⟩ := open_row Tryd.underlying23 Tryd.underlying2 (by kernel_rfl) (hval 1 23 v1 rfl rfl) h1
  obtain ⟨a2, rfl, rfl, rfl, w2⟩ := open_int Tryd.underlying30 (hval 2 30 v2 rfl rfl) h2
  obtain ⟨b2, rfl⟩ := num_of a2 w2
  obtain ⟨hz, hst⟩ := steps_of hL
  clear hA0 hval0
  refine (drawOnce_any A0 n0 c0 l0 hl0 hn0 hc0 hz0 A1 n1 c1 l1 hl1 hn1 hc1 hz1 b2 W hr0 hr1 hz hst).mono fun e W' ⟨he, bel⟩ => ?_
  subst he
  exact ⟨_, rfl, _, _, _, [], _, [], hW', trodAll_mk1 (shut_bool Tryd.underlying4 _), trodAll_cons_mk (Below.trod laidOut (by kernel_rfl) (of_decide_eq_true (by kernel_rfl)) k0 bel lt0) (trodAll_cons_mk (Below.trod laidOut (by kernel_rfl) (of_decide_eq_true (by kernel_rfl)) k1 bel lt1) (trodAll_cons_mk (shut_int Tryd.underlying30 w2) trodAll_mk0)), rfl, bel.frame _, fun h => by cases h⟩

theorem drawOnce_row : Rows.DrawOnceSaid :=
  OpenClaim.holds_of_wide 4 Tryd.f4 rfl rfl rfl rfl rfl rfl rfl ⟨rfl, rfl, rfl, rfl, rfl⟩ rfl rfl rfl rfl rfl (by kernel_rfl) Tryd.func4 (by kernel_rfl)
    (of_decide_eq_true (by kernel_rfl)) (by unfold Func.isWrapper; first | (rw [if_pos (by decide +kernel)]; kernel_rfl) | (rw [if_neg (by decide +kernel)]; exact ⟨rfl, rfl⟩))
    (fun os started H enc _ => drawOnce_lifted os started H enc)

theorem drawOnce_holds : Rows.DrawOnceCardSaid :=
  Claim7.holds_tied_plain_at .later [] [.data] true Rows.drawOnceCard.stood.harness false
    drawOnce_row (fun _ h => by cases h) (by kernel_rfl) (fun _ h => by cases h) drawOnce_row_tie rfl ⟨rfl, rfl⟩ (by kernel_rfl) rfl
    (fun f fn hf hfn => by
      obtain rfl : f = 4 := Option.some.inj ((show Tryd.prog.funcNamed Rows.drawOnceRow.func = some 4 by kernel_rfl).symm.trans hf) |>.symm
      obtain rfl : fn = Tryd.f4 := (Option.some.inj (Tryd.func4.symm.trans hfn)).symm
      exact ⟨by kernel_rfl, fun j t ht => by
        rw [Tryd.params4] at ht
        have hm : t ∈ [22, 23, 30] := by simpa using Array.mem_of_getElem? ht
        have hall : ([22, 23, 30].all fun u => !Tryd.prog.wantsStandIn u) = true := by kernel_rfl
        exact (show Tryd.prog.wantsStandIn t = false by simpa using List.all_eq_true.1 hall t hm)⟩)
    (by kernel_rfl)
#print axioms drawOnce_holds
end Go.Proofs.YtmjlabnjgdiakaaDoor
