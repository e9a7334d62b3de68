/- Proved here: for every two rows of words, every exponent and every number the law NatTells of layer 7 returns true (which numbers may be, what any two come to, which power any has, how they stand, and their digits, are what the document says; what was handed in stays); it changes nothing that lay. Condition: the library's table of the powers of ten holds what its initialiser lays; four more tables of the library are listed and not read (tied to the program's text by the card, one of them pinned by its name). -/
import Derived.Test.YtmndfncogkjjpaaDoorL7Says
import Derived.Test.YtmndfncogkjjpaaDoorL7Tells
import Derived.Test.YtmndfncogkjjpaaDoorL7Open
import Derived.Test.YtmndfncogkjjpaaDoorRows
import Derived.Below
import Derived.ChangeOld
import Derived.Test.YtmndfncogkjjpaaDoorTie
import Derived.Test.YtmndfncogkjjpaaDoorCards
namespace Go.Proofs.YtmndfncogkjjpaaDoor
open Go.ChangeShapes Go.WideShapes Go.ChangeAt Go.RowKit

theorem natTells_any (A : Option Addr) (n c : Nat) (a : List Nat) (hl : a.length = n) (hn : n ≤ c) (hc : c ≤ maxLen) (hz : A = none → c = 0) (hw : ∀ x ∈ a, x < 4294967296) (B : Option Addr) (m d : Nat) (b : List Nat) (kl : b.length = m) (km : m ≤ d) (kc : d ≤ maxLen) (kz : B = none → d = 0) (kw : ∀ x ∈ b, x < 4294967296) (e : Int) (x : Nat) (hx : x < 18446744073709551616) (w : World) (hr : Row w w.heap.size A (a.map U)) (kr : Row w w.heap.size B (b.map U)) (hT : Tens w) :
    Calls Tryd.prog 3 #[.slice A n c, .slice B m d, .int .i64 e, .int .u64 x] w fun e w' => e = .returned (.bool true) ∧ Below w.heap.size w w' := by
  by_cases h : 200 < n
  · exact natTells_many1 nat_says A B n c m d x e h (Nat.le_trans hn hc) w (Lib.hid hT)
  · by_cases k : 200 < m
    · exact natTells_many2 nat_says A B n c m d x e (by omega) k (Nat.le_trans km kc) w (Lib.hid hT)
    · exact natTells_few nat_says A B n c m d x e a b (by omega) (by omega) hx w (Lib.hid hT) (liew_of hl (by omega) hn hc hz hr hw) (liew_of kl (by omega) km kc kz kr kw)

set_option maxRecDepth 100000 in
theorem natTells_lifted (os : Os) (started : os.Started) (H : Type) (enc : TypeId × Value → H) :
    ReturnsInHanded {} Tryd.checked os 3 .any (fun w args => (Rows.natTellsSpec.pre enc Tryd.prog Tryd.f3 [] false w args ∧ laidMetH Tryd.prog laid7 w) ∧ sizedMet enc Tryd.prog Tryd.f3 (OpenSpec.ofChange Rows.natTellsSpec) false w args)
      (Rows.natTellsSpec.post enc Tryd.prog Tryd.f3 false true false false) := by
  refine returnsInHanded_of_change_and (C := Tryd.checked) (X := fun w _ => laidMetH Tryd.prog laid7 w) (fun _ _ _ hh h => h.of_heap hh) own started (by kernel_rfl) Tryd.func3
    (ChangeSpec.witness_shaped (enc := enc) (C := Tryd.checked) (os := os) (X := fun w _ => laidMetH Tryd.prog laid7 w) false (World.laidAll Tryd.prog os laid7) #[.slice none 0 0, .slice none 0 0, .int .i64 0, .int .u64 0] 8 (World.laidAll_os _ _ _) (World.shaped_of_ZipB (by kernel_rfl) (by kernel_rfl)) (by kernel_rfl) (by kernel_rfl) (by kernel_rfl) (door_met os _)) ?_
  intro W base args ds gs before hval0 hW _ _ hL _
  have hval : ∀ (j : Nat) t v, Tryd.f3.params[j]? = some t → args[j]? = some v → Value.okWide Tryd.prog W .any base t v := hval0
  have hW' := hW
  obtain ⟨p, q, hA0, hV, rfl, hfz, hnd⟩ := hW
  have hA : DataW.TrodAll enc Tryd.prog W 0 (fun _ => true) true Tryd.f3.params.toList args.toList ds p := hA0
  rw [Tryd.params3] at hA hval
  obtain ⟨v0, vs0, d0, ds0, p0, q0, hargs, rfl, rfl, h0, r0⟩ := trodAll_cons hA
  obtain ⟨v1, vs1, d1, ds1, p1, q1, rfl, rfl, rfl, h1, r1⟩ := trodAll_cons r0
  obtain ⟨v2, vs2, d2, ds2, p2, q2, rfl, rfl, rfl, h2, r2⟩ := trodAll_cons r1
  obtain ⟨v3, vs3, d3, ds3, p3, q3, rfl, rfl, rfl, h3, r3⟩ := trodAll_cons r2
  obtain ⟨rfl, rfl, rfl⟩ := trodAll_nil r3
  obtain rfl : args = #[v0, v1, v2, v3] := by cases args; simp_all
  obtain ⟨rfl, rfl⟩ := trodVars_none hV
  have k0 := h0
  have lt0 : ∀ x ∈ p0, x.block < W.heap.size := by obtain ⟨m, hm⟩ := k0; exact DataW.trod_lt m _ _ _ hm
  obtain ⟨A0, n0, c0, l0, rfl, hl0, hn0, hc0, hz0, hr0, hw0⟩ := open_words Tryd.underlying23 Tryd.underlying42 (by kernel_rfl) (hval 0 23 v0 rfl rfl) h0
  have k1 := h1
  have lt1 : ∀ x ∈ p1, x.block < W.heap.size := by obtain ⟨m, hm⟩ := k1; exact DataW.trod_lt m _ _ _ hm
  obtain ⟨A1, n1, c1, l1, rfl, hl1, hn1, hc1, hz1, hr1, hw1⟩ := open_words Tryd.underlying23 Tryd.underlying42 (by kernel_rfl) (hval 1 23 v1 rfl rfl) h1
  obtain ⟨a2, rfl, rfl, rfl, w2⟩ := open_int Tryd.underlying3 (hval 2 3 v2 rfl rfl) h2
  obtain ⟨a3, rfl, rfl, rfl, w3⟩ := open_int Tryd.underlying24 (hval 3 24 v3 rfl rfl) h3
  obtain ⟨b3, rfl, u3⟩ := nat64_of a3 w3
  have hT := tens_of hL
  clear hA0 hval0
  refine (natTells_any A0 n0 c0 l0 hl0 hn0 hc0 hz0 hw0 A1 n1 c1 l1 hl1 hn1 hc1 hz1 hw1 a2 b3 u3 W hr0 hr1 hT).mono fun e W' ⟨he, bel⟩ => ?_
  subst he
  exact ⟨_, rfl, _, _, _, [], _, [], hW', trodAll_mk1 (shut_bool Tryd.underlying4 _), trodAll_cons_mk (Below.trod laidOut (by kernel_rfl) (of_decide_eq_true (by kernel_rfl)) k0 bel lt0) (trodAll_cons_mk (Below.trod laidOut (by kernel_rfl) (of_decide_eq_true (by kernel_rfl)) k1 bel lt1) (trodAll_cons_mk (shut_int Tryd.underlying3 w2) (trodAll_cons_mk (shut_int Tryd.underlying24 w3) trodAll_mk0))), rfl, bel.frame _, fun h => by cases h⟩

theorem natTells_row : Rows.NatTellsSaid :=
  OpenClaim.holds_of_wide 3 Tryd.f3 rfl rfl rfl rfl rfl rfl rfl ⟨rfl, rfl, rfl, rfl, rfl⟩ rfl rfl rfl rfl rfl (by kernel_rfl) Tryd.func3 (by kernel_rfl)
    (of_decide_eq_true (by kernel_rfl)) (by unfold Func.isWrapper; first | (rw [if_pos (by decide +kernel)]; kernel_rfl) | (rw [if_neg (by decide +kernel)]; exact ⟨rfl, rfl⟩))
    (fun os started H enc _ => natTells_lifted os started H enc)

theorem natTells_holds : Rows.NatTellsCardSaid :=
  Claim7.holds_tied_plain_at .later [] [.data, .data, .data, .data, .pinned] true Rows.natTellsCard.stood.harness false
    natTells_row (fun _ h => by cases h) (by kernel_rfl) (fun _ h => by cases h) natTells_row_tie rfl ⟨rfl, rfl⟩ (by kernel_rfl) rfl
    (fun f fn hf hfn => by
      obtain rfl : f = 3 := Option.some.inj ((show Tryd.prog.funcNamed Rows.natTellsRow.func = some 3 by kernel_rfl).symm.trans hf) |>.symm
      obtain rfl : fn = Tryd.f3 := (Option.some.inj (Tryd.func3.symm.trans hfn)).symm
      exact ⟨by kernel_rfl, fun j t ht => by
        rw [Tryd.params3] at ht
        have hm : t ∈ [23, 23, 3, 24] := by simpa using Array.mem_of_getElem? ht
        have hall : ([23, 23, 3, 24].all fun u => !Tryd.prog.wantsStandIn u) = true := by kernel_rfl
        exact (show Tryd.prog.wantsStandIn t = false by simpa using List.all_eq_true.1 hall t hm)⟩)
    (by kernel_rfl)
#print axioms natTells_holds
end Go.Proofs.YtmndfncogkjjpaaDoor
