/- Proved here: for every order, every row of steps (a pair that is put, or a key that is dropped) and every key that is asked the law RowKeeps of layer 4 returns true (what was put is got, what was dropped is not, all other keys have what they had, and the row may be, whatever is done); it changes nothing that lay. Condition: package mix's table of steps holds what its initialiser lays (tied to the program's text by the card). -/
import Derived.Test.YtekggefokoaidaaDoorL4Open
import Derived.Test.YtekggefokoaidaaDoorL4Keeps
import Derived.Test.YtekggefokoaidaaDoorRows
import Derived.Below
import Derived.ChangeOld
import Derived.Test.YtekggefokoaidaaDoorTie
import Derived.Test.YtekggefokoaidaaDoorCards
namespace Go.Proofs.YtekggefokoaidaaDoor
open Go.ChangeShapes Go.WideShapes Go.ChangeAt Go.RowKit
open Go.Proofs.Rowm
theorem rowKeeps_any (o : Nat) (ho : o ≤ 255) (A : Option Addr) (n c : Nat) (l : List St) (key : BitVec 64) (hl : l.length = n) (hn : n ≤ c) (hc : c ≤ maxLen) (_hA : A = none → c = 0) (w : World) (hr : Row w w.heap.size A (flatS l)) (h0 : 0 < w.heap.size) (hs : Steps w) :
    Calls Tryd.prog 4 #[.int .u8 o, .slice A n c, K key] w fun e w' => e = .returned (.bool true) ∧ Below w.heap.size w w' := by
  rcases Nat.lt_or_ge 100 n with h | h
  · exact rowKeeps_many o A n c key h (Nat.le_trans hn hc) w h0 hs
  · exact rowKeeps_few o ho A n c l key hl h w h0 hs hr

set_option maxRecDepth 100000 in
theorem rowKeeps_lifted (os : Os) (started : os.Started) (H : Type) (enc : TypeId × Value → H) :
    ReturnsInHanded {} Tryd.checked os 4 .any (fun w args => (Rows.rowKeepsSpec.pre enc Tryd.prog Tryd.f4 [] false w args ∧ laidMetH Tryd.prog laid4 w) ∧ sizedMet enc Tryd.prog Tryd.f4 (OpenSpec.ofChange Rows.rowKeepsSpec) false w args)
      (Rows.rowKeepsSpec.post enc Tryd.prog Tryd.f4 false true false false) := by
  refine returnsInHanded_of_change_and (C := Tryd.checked) (X := fun w _ => laidMetH Tryd.prog laid4 w) (fun _ _ _ hh h => h.of_heap hh) own started (by kernel_rfl) Tryd.func4
    (ChangeSpec.witness_shaped (enc := enc) (C := Tryd.checked) (os := os) (X := fun w _ => laidMetH Tryd.prog laid4 w) false (World.doorLaid Tryd.prog 400 os) #[.int .u8 0, .slice none 0 0, .int .i64 0] 8 rfl (World.shaped_of_RefB (by kernel_rfl) (by kernel_rfl)) (by kernel_rfl) (by kernel_rfl) (by kernel_rfl) (door_met os _)) ?_
  intro W base args ds gs before hval0 hW _ _ hL _
  have hval : ∀ (j : Nat) t v, Tryd.f4.params[j]? = some t → args[j]? = some v → Value.okWide Tryd.prog W .any base t v := hval0
  have hW' := hW
  obtain ⟨p, q, hA0, hV, rfl, hfz, hnd⟩ := hW
  have hA : DataW.TrodAll enc Tryd.prog W 0 (fun _ => true) true Tryd.f4.params.toList args.toList ds p := hA0
  rw [Tryd.params4] at hA hval
  obtain ⟨v0, vs0, d0, ds0, p0, q0, hargs, rfl, rfl, h0, r0⟩ := trodAll_cons hA
  obtain ⟨v1, vs1, d1, ds1, p1, q1, rfl, rfl, rfl, h1, r1⟩ := trodAll_cons r0
  obtain ⟨v2, vs2, d2, ds2, p2, q2, rfl, rfl, rfl, h2, r2⟩ := trodAll_cons r1
  obtain ⟨rfl, rfl, rfl⟩ := trodAll_nil r2
  obtain rfl : args = #[v0, v1, v2] := by cases args; simp_all
  obtain ⟨rfl, rfl⟩ := trodVars_none hV
  obtain ⟨a0, rfl, rfl, rfl, w0⟩ := open_int Tryd.underlying5 (hval 0 5 v0 rfl rfl) h0
  obtain ⟨b0, rfl, u0⟩ := byte_of a0 w0
  have k1 := h1
  have lt1 : ∀ x ∈ p1, x.block < W.heap.size := by obtain ⟨m, hm⟩ := k1; exact DataW.trod_lt m _ _ _ hm
  obtain ⟨A1, n1, c1, l1, rfl, hl1, hn1, hc1, hz1, hr1⟩ := open_steps (hval 1 44 v1 rfl rfl) h1
  obtain ⟨a2, rfl, rfl, rfl, w2⟩ := open_int Tryd.underlying2 (hval 2 2 v2 rfl rfl) h2
  obtain ⟨b2, rfl⟩ := key_of a2 w2
  obtain ⟨hz, hst⟩ := steps_of hL
  clear hA0 hval0
  refine (rowKeeps_any b0 u0 A1 n1 c1 l1 b2 hl1 hn1 hc1 hz1 W hr1 hz hst).mono fun e W' ⟨he, bel⟩ => ?_
  subst he
  exact ⟨_, rfl, _, _, _, [], _, [], hW', trodAll_mk1 (shut_bool Tryd.underlying4 _), trodAll_cons_mk (shut_int Tryd.underlying5 w0) (trodAll_cons_mk (Below.trod laidOut (by kernel_rfl) (of_decide_eq_true (by kernel_rfl)) k1 bel lt1) (trodAll_cons_mk (shut_int Tryd.underlying2 w2) trodAll_mk0)), rfl, bel.frame _, fun h => by cases h⟩

theorem rowKeeps_row : Rows.RowKeepsSaid :=
  OpenClaim.holds_of_wide 4 Tryd.f4 rfl rfl rfl rfl rfl rfl rfl ⟨rfl, rfl, rfl, rfl, rfl⟩ rfl rfl rfl rfl rfl (by kernel_rfl) Tryd.func4 (by kernel_rfl)
    (of_decide_eq_true (by kernel_rfl)) (by unfold Func.isWrapper; first | (rw [if_pos (by decide +kernel)]; kernel_rfl) | (rw [if_neg (by decide +kernel)]; exact ⟨rfl, rfl⟩))
    (fun os started H enc _ => rowKeeps_lifted os started H enc)

theorem rowKeeps_holds : Rows.RowKeepsCardSaid :=
  Claim7.holds_tied_plain_at .later [] [.data] true Rows.rowKeepsCard.stood.harness false
    rowKeeps_row (fun _ h => by cases h) (by kernel_rfl) (fun _ h => by cases h) rowKeeps_row_tie rfl ⟨rfl, rfl⟩ (by kernel_rfl) rfl
    (fun f fn hf hfn => by
      obtain rfl : f = 4 := Option.some.inj ((show Tryd.prog.funcNamed Rows.rowKeepsRow.func = some 4 by kernel_rfl).symm.trans hf) |>.symm
      obtain rfl : fn = Tryd.f4 := (Option.some.inj (Tryd.func4.symm.trans hfn)).symm
      exact ⟨by kernel_rfl, fun j t ht => by
        rw [Tryd.params4] at ht
        have hm : t ∈ [5, 44, 2] := by simpa using Array.mem_of_getElem? ht
        have hall : ([5, 44, 2].all fun u => !Tryd.prog.wantsStandIn u) = true := by kernel_rfl
        exact (show Tryd.prog.wantsStandIn t = false by simpa using List.all_eq_true.1 hall t hm)⟩)
    (by kernel_rfl)
#print axioms rowKeeps_holds
end Go.Proofs.YtekggefokoaidaaDoor
