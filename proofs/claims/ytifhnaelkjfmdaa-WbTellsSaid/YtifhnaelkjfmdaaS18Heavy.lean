/- Package wb, as landed: isTooHeavy. Made by wip/gen/layer18check.py. -/
import Derived.Test.YtifhnaelkjfmdaaSOnce
import Derived.Test.YtifhnaelkjfmdaaS18Leaf
import Derived.BigRegionIn
import Derived.Sort.CutIn
import Derived.Laws.EntriesVeiled
namespace Go.Proofs.Ytifhnaelkjfmdaa
open Go.RowKit Go.Shelf Go.Proofs.Treem
attribute [local go_sem] Oper.semAt_some
set_option maxRecDepth 100000
variable {Nd : NdP}

theorem Ret.one {P : Program} {fn : Func} {p : Tmp} {t : TypeId} (h : fn.results = #[.cell p t]) (tmps : Array Value) (w : World) (g : Nat) (x : Value)
    (hp : tmps.getD p undef = .pointer (some ⟨g, 0, none⟩)) (lp : (loadVar t ⟨g, 0, none⟩).run P w = .ok x w) : (results fn tmps).run P w = .ok x w := by
  have hp' : tmps[p]?.getD undef = .pointer (some ⟨g, 0, none⟩) := by simpa using hp
  simp [results, h, hp', asAddr, lp]
theorem Ret.load_bool (w : World) (a : Addr) (x : Value) (h : w.cell? a = some x) : (loadVar 4 a).run Try.prog w = .ok x w := by
  simp [loadVar, h]
abbrev none18 (_ : Tr) : Nat := 0
set_option maxHeartbeats 8000000 in
/-- a tree of so few nodes is not too heavy -/
theorem wbHeavy_any (hN : NodeSays Nd) (w : World) (t : Tr) (p : Option Addr) (ht : TreeAt Nd w w.heap.size t p) (h5 : t.size ≤ 5000) : Calls Try.prog 77 #[.pointer p] w fun e w' => e = .returned (.bool false) ∧ Below w.heap.size w w' := by
  obtain ⟨gB, hgB⟩ : ∃ g, w.heap.size = g := ⟨_, rfl⟩
  obtain ⟨Wa, hWa⟩ : ∃ W, w.alloc (.cells #[.bool false] 4) = W := ⟨_, rfl⟩
  have bB : Boxed Wa gB 4 (.bool false) := hgB ▸ hWa ▸ Boxed.new w _ _
  have ba : Below w.heap.size w Wa := hWa ▸ (Below.refl _ w).alloc (Nat.le_refl _) _
  have cS : Hid (∀ (gT : Nat) (W : World), Below w.heap.size w W → Boxed W gT 25 (.pointer p) → ∀ n, SeqTurns mine14 Fence.wide n Try.prog 102 #[.pointer (some ⟨gT, 0, none⟩)] (fun x : It14 => #[nI x.1, .pointer (some x.2.2)]) (Kf none14 w.heap.size) (Told14 Nd none18 t w) (fun xs => (∀ y ∈ xs, none18 y.2.1 = 0) → errF none18 t = 0) W) :=
    fun gT W hb h2 n => once_turns hN w none18 t p ht h5 gT W hb h2 n
  have cW : Hid (∀ (W : World) (u : Tr) (q : Option Addr), TreeAt Nd W W.heap.size u q → u.size ≤ 5000 → Calls Try.prog 22 #[.pointer q] W fun e w' => e = .returned (nI (u.size + 1)) ∧ Below W.heap.size W w') := fun W u q h1 h2 => wbWeight_any hN W u q h1 h2
  have HWa := Lib.hid hWa
  have HB := Lib.hid hgB
  have ba' := Lib.hid ba
  have bB' := Lib.hid bB
  have hN' := Lib.hid hN
  clear hWa hgB ba bB hN ht h5
  refine (callsIn_wide (n := 9)).1 ?_
  refine callsIn_of_wp_marks Try.func77 rfl trivial ?_ rfl
  simp only [Try.ntmps77, List.size_toArray, List.length_cons, List.length_nil, Nat.reduceAdd, Nat.reduceSub, Array.replicate_succ, Array.replicate_zero, List.push_toArray, List.append_toArray, List.nil_append, List.cons_append]
  refine wpIn_wide.2 ?_
  go_upto_region 1 with (fail)
  rw [HWa.out, HB.out]
  go_wp2_with fail
  refine (once_any p Wa).mono ?_
  rintro e W5 ⟨rfl, hW5⟩
  obtain ⟨gT, hgT⟩ : ∃ g, Wa.heap.size = g := ⟨_, rfl⟩
  rw [hgT]
  have bN : Below Wa.heap.size Wa W5 := hW5 ▸ (Below.refl _ Wa).alloc (Nat.le_refl _) _
  have bT : Boxed W5 gT 25 (.pointer p) := hgT ▸ hW5 ▸ Boxed.new Wa _ _
  have i5 : Boxed W5 gB 4 (.bool false) := Has.next (show Has _ _ _ _ from bB'.out) bN
  have hB5 : Below w.heap.size w W5 := Below.after ba'.out bN
  have hseq := cS.out gT W5 hB5 bT
  clear hW5 hgT bN bT bB' cS HWa ba'
  go_wp2_with fail
  refine (wpIn_wide (n := 9)).1 ?_
  refine wpIn_rangeFunc_turns (α := It14) rfl (by omega) (gf := 102) (lb := #[.pointer (some ⟨gT, 0, none⟩)]) rfl trivial (enters_of Try.func102 (by kernel_rfl) rfl)
    (hseq _) Kf.trans (Kf.put hB5.size) (Below.refl _ _) (fun _ => rfl)
    (fun _ W => Boxed W gB 4 (.bool false) ∧ Below w.heap.size w W)
    (fun _ _ _ => False)
    (Abide.and (Abide.boxed _ _ _ (.inl rfl)) (Abide.below hB5.size (Nat.le_refl _)))
    (fun c s X Y hs ht => hs)
    ⟨i5, hB5⟩
    (fun pre y a' W => TreeAt Nd w w.heap.size y.2.1 (some y.2.2) ∧ y.2.1.size ≤ 5000 ∧ a' = { tmps := #[.pointer p, undef, .pointer (some ⟨gB, 0, none⟩), undef, .pointer (some y.2.2), undef, .pointer p, .func (.func 102) #[] #[.pointer (some ⟨gT, 0, none⟩)], nI y.1, .pointer (some y.2.2), undef, undef, undef, undef, undef, undef, undef, undef], defers := [] })
    (fun pre y a' _ X Y row hs hg hr => hs)
    ?assign ?body ?done ?stop
  case assign =>
    rintro L pre ⟨pl, tn, a⟩ U KK hI ⟨h1, h2, h3, h4⟩ hK
    have hK2 := Lib.hid (hK { tmps := #[.pointer p, undef, .pointer (some ⟨gB, 0, none⟩), undef, .pointer (some a), undef, .pointer p, .func (.func 102) #[] #[.pointer (some ⟨gT, 0, none⟩)], nI pl, .pointer (some a), undef, undef, undef, undef, undef, undef, undef, undef], defers := [] } U ((KeepsOthers.refl _).from _) (Kf.refl _ _ U) hI ⟨h1, Nat.le_trans (Nat.le_add_left _ _) h3, rfl⟩)
    clear hK hI h1 h2 h3 h4
    gi_wp2
    exact hK2.out
  case body =>
    rintro L pre ⟨pl, tn, a⟩ a' U hL _ ⟨bI, hb⟩ ⟨h1, h3, rfl⟩
    have q1 := Lib.hid (cW.out U tn (some a) (h1.after hN'.out hb) h3)
    obtain ⟨s, hs⟩ : ∃ s, tn.size = s := ⟨_, rfl⟩
    simp only at h3
    rw [hs] at q1 h3
    have bI' := Lib.hid bI
    have hb' := Lib.hid hb
    clear bI hb h1 hs
    have d1 : decide ((s : Int) + 1 < 1) = false := decide_eq_false (by omega)
    have d2 : decide ((2199023255552 : Int) < (s : Int) + 1) = false := decide_eq_false (by omega)
    have d3 : decide (((s + 1 : Nat) : Int) < 1) = false := decide_eq_false (by omega)
    have d4 : decide ((2199023255552 : Int) < ((s + 1 : Nat) : Int)) = false := decide_eq_false (by omega)
    gi_wp2
    refine ⟨trivial, ?_⟩
    refine CallsIn.inRound L (callsIn_wide.2 (q1.out.mono ?_))
    rintro e U1 ⟨rfl, hb1⟩
    have i7 : Boxed U1 gB 4 (.bool false) := Has.next (show Has _ _ _ _ from bI'.out) hb1
    have B7 := Lib.hid (Below.after hb'.out hb1)
    have K7 := Lib.hid hb1
    have I7 := Lib.hid i7
    clear hb1 q1 bI' i7
    gi_wp2
    exact ⟨(Ret.keeps_below K7.out).from _, Kf.of_below K7.out hb'.out.size, I7.out, B7.out⟩
  case done =>
    rintro D xs U hD hxs ⟨bI, hb⟩ hK
    have hDI : D ≠ gB := fun e => by rw [e, show U.heap[gB]? = _ from bI] at hK; cases hK
    have sI := Ret.set_same bI
    have xI := bI.cell
    have fI := bI.frozen
    have hz2 : Has (U.putObj D (.deferred none)) gB 4 #[.bool false] := has_turned (B := 0) (show Has _ _ _ _ from bI) (grownBy_putObj' U D _) (fun r e => by cases e; exact ⟨Nat.zero_le _, _, hK, rfl⟩)
    have HZ := Lib.hid hz2
    have HB7 := Lib.hid hb
    have HK := Lib.hid hK
    clear hxs bI hb hK hz2 hDI
    go_wp2_with fail
    refine ⟨by simp, .inl ⟨_, _, rfl, run_takeDeferred HK.out, ?_⟩⟩
    exact ⟨_, Ret.one rfl _ _ gB _ rfl (Ret.load_bool _ _ _ (HZ.out.cell 0)), rfl, HB7.out.trans (belowK_b (w := w) (Nat.le_refl _) U D _ _ (by have := hB5.size; omega) HK.out rfl rfl)⟩
  case stop =>
    rintro D c pre U hD h hK
    exact h.elim
end Go.Proofs.Ytifhnaelkjfmdaa
