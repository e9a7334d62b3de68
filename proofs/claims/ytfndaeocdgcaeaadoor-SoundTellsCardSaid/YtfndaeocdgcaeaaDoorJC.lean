/- Layer 12, as landed: Ahead. -/
import Derived.Test.YtfndaeocdgcaeaaDoorJS
import Derived.Test.YtfndaeocdgcaeaaDoorGRound
import Derived.Test.YtfndaeocdgcaeaaDoorL12Math
import Derived.Test.YtfndaeocdgcaeaaDoorJF
import Derived.Test.YtfndaeocdgcaeaaDoorGApart
/- Layer 12, as landed: Check. -/
namespace Go.Proofs.YtfndaeocdgcaeaaDoor
open Go.RowKit Go.Shelf Go.Proofs.Treem
attribute [local go_sem] Oper.semAt_some
set_option maxRecDepth 100000
variable {Nd : NdP} {T : World → Prop}

theorem HiAt.turned {B : Nat} {X Y : World} {row : Option Nat} {hi : Option (BitVec 64)} {v : Value} (h : HiAt X hi v) (hg : X.grownBy Y row) (hr : ∀ r, row = some r → B ≤ r ∧ ∃ o : Obj, X.heap[r]? = some o ∧ o.isCells = false) : HiAt Y hi v := by
  cases hi with
  | none => exact h
  | some b => obtain ⟨g, h1, h2⟩ := h; exact ⟨g, h1, has_turned (show Has _ _ _ _ from h2) hg hr⟩
theorem LoAt.turned {B : Nat} {X Y : World} {row : Option Nat} {hi : Option (BitVec 64)} {v : Value} (h : LoAt X hi v) (hg : X.grownBy Y row) (hr : ∀ r, row = some r → B ≤ r ∧ ∃ o : Obj, X.heap[r]? = some o ∧ o.isCells = false) : LoAt Y hi v := by
  cases hi with
  | none => exact h
  | some b => obtain ⟨g, h1, h2⟩ := h; exact ⟨g, h1, has_turned (show Has _ _ _ _ from h2) hg hr⟩
theorem spots12_any (o : Nat) (p : Option Addr) (w : World) : Calls Tryd.prog 24 #[.int .u8 o, .pointer p] w fun e w' =>
    e = .returned (.func (.func 40) #[] #[.pointer (some ⟨w.heap.size, 0, none⟩), .pointer (some ⟨w.heap.size + 1, 0, none⟩)]) ∧ (w.alloc (.cells #[.int .u8 o] 5)).alloc (.cells #[.pointer p] 25) = w' := by
  go_enter Tryd.func24, Tryd.ntmps24
  go_wp2
  go_ret
  exact ⟨rfl, rfl⟩
theorem results_two {P : Program} {fn : Func} {p q : Tmp} {t u : TypeId} (h : fn.results = #[.cell p t, .cell q u]) (tmps : Array Value) (w : World) (gp gq : Nat) (x y : Value)
    (hp : tmps.getD p undef = .pointer (some ⟨gp, 0, none⟩)) (hq : tmps.getD q undef = .pointer (some ⟨gq, 0, none⟩)) (lp : (loadVar t ⟨gp, 0, none⟩).run P w = .ok x w) (lq : (loadVar u ⟨gq, 0, none⟩).run P w = .ok y w) :
    (results fn tmps).run P w = .ok (.tuple #[x, y]) w := by
  have hp' : tmps[p]?.getD undef = .pointer (some ⟨gp, 0, none⟩) := by simpa using hp
  have hq' : tmps[q]?.getD undef = .pointer (some ⟨gq, 0, none⟩) := by simpa using hq
  simp [results, h, hp', hq', asAddr, Sem.run_bind, Result.andThen, lp, lq]
/-- a store of what lies there changes nothing -/
theorem set_same {W : World} {g : Nat} {t : TypeId} {v : Value} (h : Boxed W g t v) : W.setCell ⟨g, 0, none⟩ v = W := by
  have h0 : W.heap[g]? = some (.cells #[v] t (0, 0)) := h
  obtain ⟨hlt, hg⟩ := Array.getElem?_eq_some_iff.1 h0
  have : (W.setCell ⟨g, 0, none⟩ v).heap = W.heap := by
    apply Array.ext_getElem?
    intro i
    simp only [World.setCell, Array.getElem?_modify]
    by_cases e : g = i
    · subst e
      rw [if_pos rfl, h0]
      simp
    · rw [if_neg e]
  cases W
  simp only [World.setCell] at this ⊢
  rw [this]
theorem load_int (w : World) (a : Addr) (x : Value) (h : w.cell? a = some x) : (loadVar 3 a).run Tryd.prog w = .ok x w := by
  simp [loadVar, h]
theorem load_errno (w : World) (a : Addr) (x : Value) (h : w.cell? a = some x) : (loadVar 27 a).run Tryd.prog w = .ok x w := by
  simp [loadVar, h]
theorem keeps_below12 {W W' : World} (h : Below W.heap.size W W') : KeepsOthers W W' := ⟨h.size, fun k _ hk _ => (h.block k (Array.getElem?_eq_some_iff.1 hk).1).trans hk⟩
set_option maxHeartbeats 4000000 in
theorem checkS_no (hO : OrdSays T) (w : World) (o : Nat) (p : Option Addr) (ho : ¬ (1 ≤ o ∧ o ≤ 7)) : Calls Tryd.prog 9 #[.int .u8 o, .pointer p] w fun e w' => e = .returned (.tuple #[.int .i64 0, .int .i64 2]) ∧ Below w.heap.size w w' := by
  obtain ⟨gI, hgI⟩ : ∃ g, w.heap.size = g := ⟨_, rfl⟩
  obtain ⟨gE, hgE⟩ : ∃ g, w.heap.size + 1 = g := ⟨_, rfl⟩
  obtain ⟨Wa, hWa⟩ : ∃ W, (w.alloc (.cells #[.int .i64 0] 3)).alloc (.cells #[.int .i64 0] 27) = W := ⟨_, rfl⟩
  have bI : Boxed Wa gI 3 (.int .i64 0) := hgI ▸ hWa ▸ (Boxed.new w _ _).alloc _
  have bE : Boxed Wa gE 27 (.int .i64 0) := by
    have := Boxed.new (w.alloc (.cells #[.int .i64 0] 3)) 27 (.int .i64 0)
    rw [World.size_alloc, hgE, hWa] at this
    exact this
  have ba : Below w.heap.size w Wa := hWa ▸ ((Below.refl _ w).alloc (Nat.le_refl _) _).alloc (by simp) _
  have c0 : Hid (Calls Tryd.prog 23 #[.int .u8 o, .int .i64 0] Wa fun e w' => e = .returned (.tuple #[.int .u64 0, .int .i64 2]) ∧ Below Wa.heap.size Wa w') := hO.codeNo Wa o 0#64 ho
  have HWa := Lib.hid hWa
  have HI := Lib.hid hgI
  have HE := Lib.hid hgE
  have ba' := Lib.hid ba
  have bI' := Lib.hid bI
  have bE' := Lib.hid bE
  clear hWa hgI hgE ba bI bE hO ho
  go_enter Tryd.func9, Tryd.ntmps9
  go_upto_region 1 with (fail)
  rw [HWa.out, HE.out, HI.out]
  go_wp2_with fail
  go_step3
  go_wp2_with fail
  refine c0.out.mono ?_
  rintro e W1 ⟨rfl, hb⟩
  have b1 := Lib.hid (Below.after ba'.out hb)
  have i1 : Boxed W1 gI 3 (.int .i64 0) := Has.next (show Has _ _ _ _ from bI'.out) hb
  have e1 : Boxed W1 gE 27 (.int .i64 0) := Has.next (show Has _ _ _ _ from bE'.out) hb
  have xE := e1.cell
  have fE := e1.frozen
  have e2 := e1.set (.int .i64 2)
  have i2 : Boxed (W1.setCell ⟨gE, 0, none⟩ (.int .i64 2)) gI 3 (.int .i64 0) := Has.far (show Has _ _ _ _ from i1) (p := ⟨gE, 0, none⟩) (by have := HI.out; have := HE.out; show gI ≠ gE; omega) _
  have b2 : Hid (Below w.heap.size w (W1.setCell ⟨gE, 0, none⟩ (.int .i64 2))) := b1.out.setCell (p := ⟨gE, 0, none⟩) (by have := HE.out; show w.heap.size ≤ gE; omega) _
  have I2 := Lib.hid i2
  have E2 := Lib.hid e2
  clear hb i1 e1 i2 e2 b1 bI' bE' c0
  go_upto_region 2 with (fail)
  clear xE fE
  obtain ⟨W2, hW2⟩ : ∃ W2, W1.setCell ⟨gE, 0, none⟩ (.int .i64 2) = W2 := ⟨_, rfl⟩
  rw [hW2] at I2 E2 b2 ⊢
  clear hW2
  have xE := E2.out.cell
  have fE := E2.out.frozen
  have xI := I2.out.cell
  have fI := I2.out.frozen
  have sE := set_same E2.out
  have sI := set_same I2.out
  go_wp2_with fail
  go_region
  go_wp2_with fail
  rw [Exit.noGoto_ret]
  exact bodyPost_ret (results_two rfl _ _ gI gE (.int .i64 0) (.int .i64 2) rfl rfl (load_int _ _ _ xI) (load_errno _ _ _ xE)) rfl ⟨rfl, b2.out.drew⟩
set_option maxHeartbeats 8000000 in
theorem checkS_yes (hN : NodeSays Nd) (hO : OrdSays T) (w : World) (o : Nat) (o1 : 1 ≤ o) (o7 : o ≤ 7) (t : Tr) (p : Option Addr) (hT : T w) (ht : TreeAt Nd w w.heap.size t p) (h5 : t.size ≤ 5000) :
    Calls Tryd.prog 9 #[.int .u8 o, .pointer p] w (Checked o t w) := by
  obtain ⟨gI, hgI⟩ : ∃ g, w.heap.size = g := ⟨_, rfl⟩
  obtain ⟨gE, hgE⟩ : ∃ g, w.heap.size + 1 = g := ⟨_, rfl⟩
  obtain ⟨Wa, hWa⟩ : ∃ W, (w.alloc (.cells #[.int .i64 0] 3)).alloc (.cells #[.int .i64 0] 27) = W := ⟨_, rfl⟩
  have bI : Boxed Wa gI 3 (.int .i64 0) := hgI ▸ hWa ▸ (Boxed.new w _ _).alloc _
  have bE : Boxed Wa gE 27 (.int .i64 0) := by
    have := Boxed.new (w.alloc (.cells #[.int .i64 0] 3)) 27 (.int .i64 0)
    rw [World.size_alloc, hgE, hWa] at this
    exact this
  have ba : Below w.heap.size w Wa := hWa ▸ ((Below.refl _ w).alloc (Nat.le_refl _) _).alloc (by simp) _
  obtain ⟨tot, htot⟩ : ∃ s, t.sites o none none = s := ⟨_, rfl⟩
  have tlen : tot.length = t.size := by rw [← htot, sites_len]
  have hfirst : firstT o t [] = tot.findIdx (Site.wrong o) := by rw [← htot]; exact first_sites o t none none [] (fun k => by simp [wrongB, okHi, okLo])
  have c0 : Hid (Calls Tryd.prog 23 #[.int .u8 o, .int .i64 0] Wa fun e w' => e = .returned (.tuple #[V (Ordm.code o 0#64), .int .i64 0]) ∧ Below Wa.heap.size Wa w') := hO.code Wa o 0#64 o1 o7 (hO.next hT ba)
  have cS : Hid (∀ (gA gT : Nat) (W : World), Below w.heap.size w W → Boxed W gA 5 (.int .u8 o) → Boxed W gT 25 (.pointer p) → ∀ n, SeqTurns mine12 Fence.wide n Tryd.prog 40 #[.pointer (some ⟨gA, 0, none⟩), .pointer (some ⟨gT, 0, none⟩)] (fun y => #[y]) (Kf free12 w.heap.size) (Told12 o tot) (fun xs => xs.length = tot.length) W) :=
    fun gA gT W hb h1 h2 n => htot ▸ spots_turns hN hO o o1 o7 w hT t p ht h5 gA gT W hb h1 h2 n
  have hyes : Hid (∀ (n : Nat) (s : Site), tot[n]? = some s → s.wrong o = true → (∀ i y, i < n → tot[i]? = some y → Site.wrong o y = false) → chkN o t = n ∧ chkE o t = 120) := fun n s h1 h2 h3 => by
    have e := find_at h1 h2 h3
    rw [← hfirst] at e
    have hlt := (List.getElem?_eq_some_iff.1 h1).1
    unfold chkN chkE
    rw [if_pos ⟨o1, o7⟩, if_pos ⟨o1, o7⟩, e, if_pos (by omega)]
    exact ⟨rfl, rfl⟩
  have hnone : Hid ((∀ i y, i < tot.length → tot[i]? = some y → Site.wrong o y = false) → chkN o t = tot.length ∧ chkE o t = 0) := fun h3 => by
    have e := find_none h3
    rw [← hfirst] at e
    unfold chkN chkE
    rw [if_pos ⟨o1, o7⟩, if_pos ⟨o1, o7⟩, e, if_neg (by omega)]
    exact ⟨rfl, rfl⟩
  have t5 : tot.length ≤ 5000 := by omega
  have HWa := Lib.hid hWa
  have HI := Lib.hid hgI
  have HE := Lib.hid hgE
  have ba' := Lib.hid ba
  have bI' := Lib.hid bI
  have bE' := Lib.hid bE
  clear hWa hgI hgE ba bI bE hO hN hT ht h5 htot tlen hfirst
  refine (callsIn_wide (n := 9)).1 ?_
  refine callsIn_of_wp_marks Tryd.func9 rfl trivial ?_ rfl
  simp only [Tryd.ntmps9, List.size_toArray, List.length_cons, List.length_nil, Nat.reduceAdd, Nat.reduceSub, Array.replicate_succ, Array.replicate_zero, List.push_toArray, List.append_toArray, List.nil_append, List.cons_append]
  refine wpIn_wide.2 ?_
  go_upto_region 1 with (fail)
  rw [HWa.out, HE.out, HI.out]
  go_wp2_with fail
  go_step3
  go_wp2_with fail
  refine c0.out.mono ?_
  rintro e W1 ⟨rfl, hb⟩
  have b1 := Lib.hid (Below.after ba'.out hb)
  have i1 : Boxed W1 gI 3 (.int .i64 0) := Has.next (show Has _ _ _ _ from bI'.out) hb
  have e1 : Boxed W1 gE 27 (.int .i64 0) := Has.next (show Has _ _ _ _ from bE'.out) hb
  have xE := e1.cell
  have fE := e1.frozen
  have sE := set_same e1
  have I1 := Lib.hid i1
  have E1 := Lib.hid e1
  clear hb i1 e1 bI' bE' c0
  go_wp2_with fail
  go_step3
  go_wp2_with fail
  refine (spots12_any o p W1).mono ?_
  rintro e W3 ⟨rfl, hW3⟩
  obtain ⟨gA, hgA⟩ : ∃ g, W1.heap.size = g := ⟨_, rfl⟩
  obtain ⟨gT, hgT⟩ : ∃ g, W1.heap.size + 1 = g := ⟨_, rfl⟩
  rw [hgT, hgA]
  have bN : Below W1.heap.size W1 W3 := hW3 ▸ ((Below.refl _ W1).alloc (Nat.le_refl _) _).alloc (by simp) _
  have bA : Boxed W3 gA 5 (.int .u8 o) := hgA ▸ hW3 ▸ (Boxed.new W1 _ _).alloc _
  have bT : Boxed W3 gT 25 (.pointer p) := by
    have := Boxed.new (W1.alloc (.cells #[.int .u8 o] 5)) 25 (.pointer p)
    rw [World.size_alloc, hgT, hW3] at this
    exact this
  have i3 : Boxed W3 gI 3 (.int .i64 ((0 : Nat) : Int)) := Has.next (show Has _ _ _ _ from I1.out) bN
  have e3 : Boxed W3 gE 27 (.int .i64 0) := Has.next (show Has _ _ _ _ from E1.out) bN
  have hB3 : Below w.heap.size w W3 := Below.after b1.out bN
  have hseq := cS.out gA gT W3 hB3 bA bT
  clear xE fE sE hW3 hgA hgT bN bA bT I1 E1 b1 cS
  obtain ⟨c0, hc0⟩ : ∃ c, Ordm.code o 0#64 = c := ⟨_, rfl⟩
  rw [hc0]
  clear hc0
  go_wp2_with fail
  refine (wpIn_wide (n := 9)).1 ?_
  refine wpIn_rangeFunc_turns (α := Value) rfl (by omega) (gf := 40) (lb := #[.pointer (some ⟨gA, 0, none⟩), .pointer (some ⟨gT, 0, none⟩)]) rfl trivial (enters_of Tryd.func40 (by kernel_rfl) rfl)
    (hseq _) Kf.trans (Kf.put hB3.size) (Below.refl _ _) (fun _ => rfl)
    (fun pre W => (Boxed W gI 3 (.int .i64 (pre.length : Int)) ∧ Boxed W gE 27 (.int .i64 0)) ∧ ((∀ i y, i < pre.length → tot[i]? = some y → Site.wrong o y = false) ∧ pre.length ≤ tot.length) ∧ Below w.heap.size w W)
    (fun c pre W => (c = .exit 0 ∧ ∃ n s, tot[n]? = some s ∧ Site.wrong o s = true ∧ (∀ i y, i < n → tot[i]? = some y → Site.wrong o y = false) ∧ Boxed W gI 3 (.int .i64 ((n : Nat) : Int)) ∧ Boxed W gE 27 (.int .i64 120)) ∧ Below w.heap.size w W)
    (Abide.and (Abide.and (Abide.boxed _ _ _ (.inl rfl)) (Abide.boxed _ _ _ (.inl rfl))) (Abide.and (fun _ _ _ h _ => h) (Abide.below hB3.size (Nat.le_refl _))))
    (fun c => Abide.and (fun s X Y hs ht => by obtain ⟨h1, q, s, h2, h3, h4, h5, h6⟩ := hs; exact ⟨h1, q, s, h2, h3, h4, ht.boxed h5 (.inl rfl), ht.boxed h6 (.inl rfl)⟩) (Abide.below hB3.size (Nat.le_refl _)))
    ⟨⟨i3, e3⟩, ⟨(fun i _ h => absurd h (Nat.not_lt_zero _)), Nat.zero_le _⟩, hB3⟩
    (fun pre y a' W => ∃ gs s a cd Fa ca Fb cb, tot[pre.length]? = some s ∧ Ordm.code o s.k = cd ∧ a' = { tmps := #[.int .u8 o, .pointer p, undef, undef, .pointer (some ⟨gI, 0, none⟩), .pointer (some ⟨gE, 0, none⟩), .pointer (some ⟨gs, 0, none⟩), .tuple #[V c0, .int .i64 0], .int .u8 o, .tuple #[V c0, .int .i64 0], V c0, .int .i64 0, .int .i64 0, .bool false, undef, .int .u8 o, .pointer p, .func (.func 40) #[] #[.pointer (some ⟨gA, 0, none⟩), .pointer (some ⟨gT, 0, none⟩)], .agg #[.pointer (some a), V cd, .func (.func Fa) #[] ca, .func (.func Fb) #[] cb], undef, undef, undef, undef, undef, undef], defers := [] } ∧ Has W gs 57 #[.pointer (some a), V cd, .func (.func Fa) #[] ca, .func (.func Fb) #[] cb] ∧ HiAt W s.hi (.func (.func Fa) #[] ca) ∧ LoAt W s.lo (.func (.func Fb) #[] cb))
    (fun pre y a' _ X Y row hs hg hr => let ⟨gs, s, a, cd, Fa, ca, Fb, cb, h1, h2, h3, h4, h5, h6⟩ := hs; ⟨gs, s, a, cd, Fa, ca, Fb, cb, h1, h2, h3, has_turned h4 hg hr, h5.turned hg hr, h6.turned hg hr⟩)
    ?assign ?body ?done ?stop
  case assign =>
    rintro L pre y U KK ⟨⟨hi1, he1⟩, hp, hb⟩ ⟨s, a, va, vb, hs, rfl, hhi, hlo⟩ hK
    obtain ⟨Fa, ca, rfl, -, -⟩ := hhi.says
    obtain ⟨Fb, cb, rfl, -, -⟩ := hlo.says
    obtain ⟨cd, hcd⟩ : ∃ c, Ordm.code o s.k = c := ⟨_, rfl⟩
    rw [hcd]
    have hbn : Below U.heap.size U (U.alloc (.cells #[.pointer (some a), .int .u64 (cd.toNat : Int), .func (.func Fa) #[] ca, .func (.func Fb) #[] cb] 57)) := (Below.refl _ _).alloc (Nat.le_refl _) _
    have hK2 := Lib.hid (hK { tmps := #[.int .u8 o, .pointer p, undef, undef, .pointer (some ⟨gI, 0, none⟩), .pointer (some ⟨gE, 0, none⟩), .pointer (some ⟨U.heap.size, 0, none⟩), .tuple #[V c0, .int .i64 0], .int .u8 o, .tuple #[V c0, .int .i64 0], V c0, .int .i64 0, .int .i64 0, .bool false, undef, .int .u8 o, .pointer p, .func (.func 40) #[] #[.pointer (some ⟨gA, 0, none⟩), .pointer (some ⟨gT, 0, none⟩)], .agg #[.pointer (some a), V cd, .func (.func Fa) #[] ca, .func (.func Fb) #[] cb], undef, undef, undef, undef, undef, undef], defers := [] } _ ((keeps_below12 hbn).from _) (Kf.of_below hbn hb.size) ⟨⟨Has.next (show Has _ _ _ _ from hi1) hbn, Has.next (show Has _ _ _ _ from he1) hbn⟩, hp, Below.after hb hbn⟩ ⟨_, s, a, cd, Fa, ca, Fb, cb, hs, hcd, rfl, Has.new U _ _, hhi.below hbn, hlo.below hbn⟩)
    clear hK hi1 he1 hb hbn hp hs hhi hlo hcd
    gi_wp2
    exact hK2.out
  case body =>
    rintro L pre y a' U hL _ ⟨⟨bI, bE⟩, ⟨hp, hple⟩, hb⟩ ⟨gs, s, a, cd, Fa, ca, Fb, cb, hs, hcd, rfl, hS, hhi, hlo⟩
    have cW := Lib.hid (isWrong_any U (some a) cd s.hi s.lo _ _ hhi hlo)
    obtain ⟨b, hbe⟩ : ∃ b, (!okHi s.hi cd || !okLo s.lo cd) = b := ⟨_, rfl⟩
    have hwr : Site.wrong o s = b := by rw [← hbe, ← hcd]; rfl
    rw [hbe] at cW
    have hlt := (List.getElem?_eq_some_iff.1 hs).1
    have x0 := hS.cell 0
    have x1 := hS.cell 1
    have x2 := hS.cell 2
    have x3 := hS.cell 3
    simp only [List.getElem?_toArray, List.getElem?_cons_zero, List.getElem?_cons_succ] at x0 x1 x2 x3
    have hp' := Lib.hid hp
    have hs' := Lib.hid hs
    have hwr' := Lib.hid hwr
    have bI' := Lib.hid bI
    have bE' := Lib.hid bE
    have hb' := Lib.hid hb
    clear hS hhi hlo hcd hbe hp hs hwr bI bE hb
    gi_wp2
    refine ⟨trivial, ?_⟩
    refine CallsIn.inRound L (callsIn_wide.2 (cW.out.mono ?_))
    rintro e U1 ⟨rfl, hb1⟩
    have i1 : Boxed U1 gI 3 (.int .i64 (pre.length : Int)) := Has.next (show Has _ _ _ _ from bI'.out) hb1
    have e1 : Boxed U1 gE 27 (.int .i64 0) := Has.next (show Has _ _ _ _ from bE'.out) hb1
    have xI := i1.cell
    have fI := i1.frozen
    have xE := e1.cell
    have fE := e1.frozen
    have e5 : wrap64 ((pre.length : Int) + 1) = ((pre.length + 1 : Nat) : Int) := by unfold wrap64; omega
    have gIE : gI ≠ gE := by have := HI.out; have := HE.out; omega
    have I1 := Lib.hid i1
    have E1 := Lib.hid e1
    have kU := Lib.hid (keeps_below12 hb1)
    have hU1 := Lib.hid (Below.after hb'.out hb1)
    have fU := Lib.hid (Kf.of_below (free := free12) hb1 hb'.out.size)
    have GIE := Lib.hid gIE
    have gW : Hid (w.heap.size ≤ gI ∧ w.heap.size ≤ gE) := ⟨by have := HI.out; omega, by have := HE.out; omega⟩
    clear hb1 i1 e1 gIE cW x0 x1 x2 x3
    cases b with
    | true =>
      gi_wp2
      refine ⟨(kU.out.trans (KeepsOthers.setCell _ _ _)).from _, ⟨rfl, pre.length, s, hs'.out, hwr'.out, hp'.out, ?_, E1.out.set _⟩, hU1.out.setCell (p := ⟨gE, 0, none⟩) gW.out.2 _⟩
      exact Has.far (show Has _ _ _ _ from I1.out) (p := ⟨gE, 0, none⟩) GIE.out _
    | false =>
      gi_wp2
      refine ⟨(kU.out.trans (KeepsOthers.setCell _ _ _)).from _, fU.out.trans (Kf.store I1.out _ rfl gW.out.1), ⟨?_, ?_⟩, ⟨?_, ?_⟩, hU1.out.setCell (p := ⟨gI, 0, none⟩) gW.out.1 _⟩
      · rw [List.length_append, List.length_singleton]
        exact I1.out.set _
      · exact Has.far (show Has _ _ _ _ from E1.out) (p := ⟨gI, 0, none⟩) (Ne.symm GIE.out) _
      · intro i z hi hz
        rw [List.length_append, List.length_singleton] at hi
        rcases Nat.lt_succ_iff_lt_or_eq.1 hi with h | rfl
        · exact hp'.out i z h hz
        · rw [hs'.out] at hz
          cases hz
          exact hwr'.out
      · rw [List.length_append, List.length_singleton]; omega
  case done =>
    rintro D xs U hD hxs ⟨⟨bI, bE⟩, ⟨hp, hple⟩, hb⟩ hK
    have hxs : xs.length = tot.length := hxs
    rw [hxs] at bI hp
    obtain ⟨k1, k2⟩ := hnone.out hp
    have xI := bI.cell
    have fI := bI.frozen
    have xE := bE.cell
    have fE := bE.frozen
    have sI := set_same bI
    have sE := set_same bE
    go_wp2_with fail
    go_region
    go_wp2_with fail
    dsimp only [Exit.noGoto]
    have hz : Has U gI 3 #[.int .i64 (tot.length : Int)] := bI
    have hy : Has U gE 27 #[.int .i64 0] := bE
    have hz2 : Has (U.drew.putObj D (.deferred none)) gI 3 #[.int .i64 (tot.length : Int)] := has_turned (B := 0) (show Has U.drew gI _ _ from hz) (grownBy_putObj' U.drew D _) (fun r e => by cases e; exact ⟨Nat.zero_le _, _, hK, rfl⟩)
    have hy2 : Has (U.drew.putObj D (.deferred none)) gE 27 #[.int .i64 0] := has_turned (B := 0) (show Has U.drew gE _ _ from hy) (grownBy_putObj' U.drew D _) (fun r e => by cases e; exact ⟨Nat.zero_le _, _, hK, rfl⟩)
    refine ⟨by simp, .inl ⟨_, _, rfl, run_takeDeferred (w := U.drew) hK, ?_⟩⟩
    exact ⟨_, results_two rfl _ _ gI gE _ _ rfl rfl (load_int _ _ _ (hz2.cell 0)) (load_errno _ _ _ (hy2.cell 0)), by rw [k1, k2]; rfl, hb.drew.trans (belowK_b (w := w) (Nat.le_refl _) U.drew D _ _ (by have := hB3.size; omega) hK rfl rfl)⟩
  case stop =>
    rintro D c pre U hD ⟨⟨rfl, n, s, h1, h2, h3, bI, bE⟩, hb⟩ hK
    obtain ⟨k1, k2⟩ := hyes.out n s h1 h2 h3
    have xI := bI.cell
    have fI := bI.frozen
    have xE := bE.cell
    have fE := bE.frozen
    have sI := set_same bI
    have sE := set_same bE
    gi_wp2
    go_wp2_with fail
    go_region
    go_wp2_with fail
    dsimp only [Exit.noGoto]
    have hz : Has U gI 3 #[.int .i64 (n : Int)] := bI
    have hy : Has U gE 27 #[.int .i64 120] := bE
    have hz2 : Has (U.drew.putObj D (.deferred none)) gI 3 #[.int .i64 (n : Int)] := has_turned (B := 0) (show Has U.drew gI _ _ from hz) (grownBy_putObj' U.drew D _) (fun r e => by cases e; exact ⟨Nat.zero_le _, _, hK, rfl⟩)
    have hy2 : Has (U.drew.putObj D (.deferred none)) gE 27 #[.int .i64 120] := has_turned (B := 0) (show Has U.drew gE _ _ from hy) (grownBy_putObj' U.drew D _) (fun r e => by cases e; exact ⟨Nat.zero_le _, _, hK, rfl⟩)
    refine ⟨by simp, .inl ⟨_, _, rfl, run_takeDeferred (w := U.drew) hK, ?_⟩⟩
    exact ⟨_, results_two rfl _ _ gI gE _ _ rfl rfl (load_int _ _ _ (hz2.cell 0)) (load_errno _ _ _ (hy2.cell 0)), by rw [k1, k2]; rfl, hb.drew.trans (belowK_b (w := w) (Nat.le_refl _) U.drew D _ _ (by have := hB3.size; omega) hK rfl rfl)⟩
theorem checkS_any (hN : NodeSays Nd) (hO : OrdSays T) (w : World) (o : Nat) (t : Tr) (p : Option Addr) (hT : T w) (ht : TreeAt Nd w w.heap.size t p) (h5 : t.size ≤ 5000) : Calls Tryd.prog 9 #[.int .u8 o, .pointer p] w (Checked o t w) := by
  by_cases ho : 1 ≤ o ∧ o ≤ 7
  · exact checkS_yes hN hO w o ho.1 ho.2 t p hT ht h5
  · refine (checkS_no hO w o p ho).mono ?_
    rintro e w' ⟨rfl, hb⟩
    unfold Checked chkN chkE
    rw [if_neg ho, if_neg ho]
    exact ⟨rfl, hb⟩
end Go.Proofs.YtfndaeocdgcaeaaDoor
/- The plain mathematics of layer 12, more: one tree stands ahead of another one, told by their ends; no program in it. -/
namespace Go.Proofs.Treem

/-- two ends, if both are there, stand one ahead of the other one -/
def endsK (o : Nat) : Option (BitVec 64) → Option (BitVec 64) → Bool
  | some x, some y => decide (ltK o x y)
  | _, _ => true
theorem risesK_append (o : Nat) : ∀ l m : List (BitVec 64), risesK o (l ++ m) = (risesK o l && risesK o m && endsK o l.getLast? m.head?)
  | [], m => by simp [risesK, endsK]
  | [x], [] => by simp [risesK, endsK]
  | [x], y :: m => by simp [risesK, endsK, Bool.and_comm]
  | x :: y :: l, m => by
    have ih := risesK_append o (y :: l) m
    rw [List.cons_append] at ih
    rw [List.cons_append, List.cons_append, risesK, ih, risesK, List.getLast?_cons_cons, Bool.and_assoc, Bool.and_assoc, Bool.and_assoc]
/-- the first key, the last one -/
def Tr.lo : Tr → Option (BitVec 64)
  | .e => none
  | .n l k _ _ _ => if l.is then l.lo else some k
def Tr.hi : Tr → Option (BitVec 64)
  | .e => none
  | .n _ k _ _ r => if r.is then r.hi else some k
theorem keys_e : Tr.e.keys = [] := rfl
theorem keys_some : ∀ t : Tr, t.keys = [] ↔ t.is = false
  | .e => by simp [Tr.keys, Tr.pairs, Tr.is]
  | .n l k v g r => by simp [keys_n, Tr.is]
theorem lo_is : ∀ t : Tr, t.keys.head? = t.lo
  | .e => rfl
  | .n l k v g r => by
    rw [keys_n, Tr.lo]
    cases h : l.is with
    | false => rw [(keys_some l).2 h]; rfl
    | true =>
      have hn : l.keys ≠ [] := fun e => by rw [(keys_some l).1 e] at h; cases h
      rw [if_pos rfl, ← lo_is l, List.head?_append]
      cases hk : l.keys with
      | nil => exact absurd hk hn
      | cons a b => rfl
theorem hi_is : ∀ t : Tr, t.keys.getLast? = t.hi
  | .e => rfl
  | .n l k v g r => by
    rw [keys_n, Tr.hi, List.getLast?_append, List.getLast?_cons]
    cases h : r.is with
    | false => rw [(keys_some r).2 h]; rfl
    | true =>
      rw [if_pos rfl, ← hi_is r]
      cases hk : r.keys.getLast? with
      | none => rw [List.getLast?_eq_none_iff, keys_some, h] at hk; cases hk
      | some a => rfl
/-- one tree stands ahead of another one: both are sound, and so do their ends, if both are there -/
theorem ahead_ends (o : Nat) (a b : Tr) : aheadT o a b = (risesK o a.keys && risesK o b.keys && endsK o a.hi b.lo) := by
  rw [aheadT, risesK_append, hi_is, lo_is]
end Go.Proofs.Treem
/- Layer 12, as landed: a tree's outermost node on a side, by a method expression. -/
namespace Go.Proofs.YtfndaeocdgcaeaaDoor
open Go.RowKit Go.Proofs.Treem
set_option maxRecDepth 100000
variable {Nd : NdP} {T : World → Prop}

set_option maxHeartbeats 2000000 in
theorem hiEnd (hN : NodeSays Nd) (w : World) (t : Tr) (p : Option Addr) (k : BitVec 64) (hp : TreeAt Nd w w.heap.size t p) (hk : t.hi = some k) :
    Calls Tryd.prog 31 #[.pointer p, .func (.func 17) #[] #[]] w fun e w' => (∃ a x, e = .returned (.pointer (some a)) ∧ Nd w w.heap.size a x ∧ x.k = k) ∧ w = w' := by
  obtain ⟨mu, hmu⟩ := least_of (fun m v => ∃ (t' : Tr) (a' : Addr), t'.size = m ∧ v = Value.pointer (some a') ∧ TreeAt Nd w w.heap.size t' (some a') ∧ t'.hi = some k)
  have h0 : ∃ (t' : Tr) (a' : Addr), p = some a' ∧ TreeAt Nd w w.heap.size t' (some a') ∧ t'.hi = some k := by
    cases t with
    | e => cases hk
    | n l x v g r =>
      obtain ⟨a, pl, pr, rfl, h1, h2, h3⟩ := hp
      exact ⟨.n l x v g r, a, rfl, ⟨a, pl, pr, rfl, h1, h2, h3⟩, hk⟩
  obtain ⟨t0, a0, rfl, h1, h2⟩ := h0
  have hs := Lib.hid (hmu (.pointer (some a0)) t0.size ⟨t0, a0, rfl, rfl, h1, h2⟩)
  have hmu' := Lib.hid hmu
  have hN' := Lib.hid hN
  clear hmu h1 h2 hp hk hN
  go_enter Tryd.func31, Tryd.ntmps31
  go_wp2_with fail
  go_loop [0] (fun v => ∃ (t' : Tr) (a' : Addr), t'.size = mu v ∧ v = Value.pointer (some a') ∧ TreeAt Nd w w.heap.size t' (some a') ∧ t'.hi = some k) (fun v => mu v)
  case atStart => exact hs.out.1
  case round =>
    obtain ⟨t', a', hsz, rfl, hT, hk⟩ := hrel
    cases t' with
    | e => cases hk
    | n l x v g r =>
      obtain ⟨a, pl, pr, ha, hnd, hl, hr⟩ := hT
      cases ha
      have hsz' := Lib.hid hsz
      have hl' := Lib.hid hl
      have hr' := Lib.hid hr
      have hk' := Lib.hid hk
      have cG := Lib.hid (hN'.out.right w w.heap.size _ _ hnd)
      have hnd' := hnd
      have his := Lib.hid hr'.out.is
      clear hsz hl hr hk hnd
      go_wp2_with fail
      refine cG.out.mono ?_
      rintro e w' ⟨rfl, rfl⟩
      cases pr with
      | none =>
        have hx : Hid (x = k) := by
          have h := hk'.out
          rw [Tr.hi, if_neg (by rw [his.out]; simp)] at h
          exact Option.some.inj h
        go_wp2_with fail
        go_ret
        exact ⟨⟨a', _, rfl, hnd', hx.out⟩, rfl⟩
      | some b =>
        have hx : Hid (r.hi = some k) := by
          have h := hk'.out
          rw [Tr.hi, if_pos (by rw [his.out]; rfl)] at h
          exact h
        have hm := Lib.hid (hmu'.out (.pointer (some b)) r.size ⟨r, b, rfl, rfl, hr'.out, hx.out⟩)
        go_wp2_with fail
        refine cG.out.mono ?_
        rintro e w' ⟨rfl, rfl⟩
        go_wp2_with fail
        go_round
        case rel => exact hm.out.1
        case measure =>
          have h1 := hm.out.2
          have h2 := hsz'.out
          rw [Tr.size] at h2
          omega
set_option maxHeartbeats 2000000 in
theorem loEnd (hN : NodeSays Nd) (w : World) (t : Tr) (p : Option Addr) (k : BitVec 64) (hp : TreeAt Nd w w.heap.size t p) (hk : t.lo = some k) :
    Calls Tryd.prog 31 #[.pointer p, .func (.func 16) #[] #[]] w fun e w' => (∃ a x, e = .returned (.pointer (some a)) ∧ Nd w w.heap.size a x ∧ x.k = k) ∧ w = w' := by
  obtain ⟨mu, hmu⟩ := least_of (fun m v => ∃ (t' : Tr) (a' : Addr), t'.size = m ∧ v = Value.pointer (some a') ∧ TreeAt Nd w w.heap.size t' (some a') ∧ t'.lo = some k)
  have h0 : ∃ (t' : Tr) (a' : Addr), p = some a' ∧ TreeAt Nd w w.heap.size t' (some a') ∧ t'.lo = some k := by
    cases t with
    | e => cases hk
    | n l x v g r =>
      obtain ⟨a, pl, pr, rfl, h1, h2, h3⟩ := hp
      exact ⟨.n l x v g r, a, rfl, ⟨a, pl, pr, rfl, h1, h2, h3⟩, hk⟩
  obtain ⟨t0, a0, rfl, h1, h2⟩ := h0
  have hs := Lib.hid (hmu (.pointer (some a0)) t0.size ⟨t0, a0, rfl, rfl, h1, h2⟩)
  have hmu' := Lib.hid hmu
  have hN' := Lib.hid hN
  clear hmu h1 h2 hp hk hN
  go_enter Tryd.func31, Tryd.ntmps31
  go_wp2_with fail
  go_loop [0] (fun v => ∃ (t' : Tr) (a' : Addr), t'.size = mu v ∧ v = Value.pointer (some a') ∧ TreeAt Nd w w.heap.size t' (some a') ∧ t'.lo = some k) (fun v => mu v)
  case atStart => exact hs.out.1
  case round =>
    obtain ⟨t', a', hsz, rfl, hT, hk⟩ := hrel
    cases t' with
    | e => cases hk
    | n l x v g r =>
      obtain ⟨a, pl, pr, ha, hnd, hl, hr⟩ := hT
      cases ha
      have hsz' := Lib.hid hsz
      have hl' := Lib.hid hl
      have hr' := Lib.hid hr
      have hk' := Lib.hid hk
      have cG := Lib.hid (hN'.out.left w w.heap.size _ _ hnd)
      have hnd' := hnd
      have his := Lib.hid hl'.out.is
      clear hsz hl hr hk hnd
      go_wp2_with fail
      refine cG.out.mono ?_
      rintro e w' ⟨rfl, rfl⟩
      cases pl with
      | none =>
        have hx : Hid (x = k) := by
          have h := hk'.out
          rw [Tr.lo, if_neg (by rw [his.out]; simp)] at h
          exact Option.some.inj h
        go_wp2_with fail
        go_ret
        exact ⟨⟨a', _, rfl, hnd', hx.out⟩, rfl⟩
      | some b =>
        have hx : Hid (l.lo = some k) := by
          have h := hk'.out
          rw [Tr.lo, if_pos (by rw [his.out]; rfl)] at h
          exact h
        have hm := Lib.hid (hmu'.out (.pointer (some b)) l.size ⟨l, b, rfl, rfl, hl'.out, hx.out⟩)
        go_wp2_with fail
        refine cG.out.mono ?_
        rintro e w' ⟨rfl, rfl⟩
        go_wp2_with fail
        go_round
        case rel => exact hm.out.1
        case measure =>
          have h1 := hm.out.2
          have h2 := hsz'.out
          rw [Tr.size] at h2
          omega
end Go.Proofs.YtfndaeocdgcaeaaDoor
namespace Go.Proofs.YtfndaeocdgcaeaaDoor
open Go.RowKit Go.Shelf Go.Proofs.Treem
set_option maxRecDepth 100000
variable {Nd : NdP} {T : World → Prop}

theorem hi_some : ∀ t : Tr, t ≠ .e → ∃ k, t.hi = some k
  | .e, h => absurd rfl h
  | .n l k v g r, _ => by
    rw [Tr.hi]
    cases r with
    | e => exact ⟨k, rfl⟩
    | n a b c d f => exact hi_some _ (by simp)
theorem lo_some : ∀ t : Tr, t ≠ .e → ∃ k, t.lo = some k
  | .e, h => absurd rfl h
  | .n l k v g r, _ => by
    rw [Tr.lo]
    cases l with
    | e => exact ⟨k, rfl⟩
    | n a b c d f => exact lo_some _ (by simp)
theorem ahd_is (o : Nat) (t u : Tr) : ahd o t u = ((chkE o t == 0) && (chkE o u == 0) && endsK o t.hi u.lo) := by
  unfold ahd
  by_cases ho : 1 ≤ o ∧ o ≤ 7
  · rw [decide_eq_true ho, Bool.true_and, ahead_ends, chkE_ok o t ho.1 ho.2, chkE_ok o u ho.1 ho.2]
  · have : chkE o t = 2 := by unfold chkE; rw [if_neg ho]
    rw [decide_eq_false ho, this]; rfl
set_option maxHeartbeats 1000000 in
theorem isSound_any (hN : NodeSays Nd) (hO : OrdSays T) (w : World) (o : Nat) (t : Tr) (p : Option Addr) (hT : T w) (hp : TreeAt Nd w w.heap.size t p) (h5 : t.size ≤ 5000) :
    Calls Tryd.prog 30 #[.int .u8 o, .pointer p] w fun e w' => e = .returned (.bool (chkE o t == 0)) ∧ Below w.heap.size w w' := by
  have c1 := Lib.hid (checkS_any hN hO w o t p hT hp h5)
  unfold Checked at c1
  obtain ⟨f1, hf1⟩ : ∃ f, chkN o t = f := ⟨_, rfl⟩
  obtain ⟨E1, hE1⟩ : ∃ f, chkE o t = f := ⟨_, rfl⟩
  rw [hf1, hE1] at c1
  rw [hE1]
  clear hN hO hT hp h5 hf1 hE1
  go_enter Tryd.func30, Tryd.ntmps30
  go_wp2_with fail
  refine c1.out.mono ?_
  rintro e w1 ⟨rfl, hb⟩
  have b1 := Lib.hid hb
  clear hb
  go_wp2_with fail
  go_ret
  exact ⟨rfl, b1.out⟩
set_option maxHeartbeats 4000000 in
theorem aheadS_any (hN : NodeSays Nd) (hO : OrdSays T) (w : World) (o : Nat) (t u : Tr) (p q : Option Addr) (hT : T w) (hp : TreeAt Nd w w.heap.size t p) (hq : TreeAt Nd w w.heap.size u q) (h5 : t.size ≤ 5000) (h6 : u.size ≤ 5000) :
    Calls Tryd.prog 12 #[.int .u8 o, .pointer p, .pointer q] w fun e w' => e = .returned (.bool (ahd o t u)) ∧ Below w.heap.size w w' := by
  have c1 := Lib.hid (isSound_any hN hO w o t p hT hp h5)
  have c2 := Lib.hid (fun W (hb : Below w.heap.size w W) => isSound_any hN hO W o u q (hO.next hT hb) (hq.after hN hb) h6)
  have cO : Hid (∀ x y W, Below w.heap.size w W → 1 ≤ o → o ≤ 7 → Calls Tryd.prog 15 #[.int .u8 o, K x, K y] W fun e w' => e = .returned (.int .i64 (Ordm.stand o x y)) ∧ Below W.heap.size W w') := fun x y W hb h1 h7 => hO.cmp W o x y h1 h7 (hO.next hT hb)
  have cR : Hid (∀ k W, Below w.heap.size w W → t.hi = some k → Calls Tryd.prog 31 #[.pointer p, .func (.func 17) #[] #[]] W fun e w' => (∃ a x, e = .returned (.pointer (some a)) ∧ Nd W W.heap.size a x ∧ x.k = k) ∧ W = w') := fun k W hb hk => hiEnd hN W t p k (hp.after hN hb) hk
  have cL : Hid (∀ k W, Below w.heap.size w W → u.lo = some k → Calls Tryd.prog 31 #[.pointer q, .func (.func 16) #[] #[]] W fun e w' => (∃ a x, e = .returned (.pointer (some a)) ∧ Nd W W.heap.size a x ∧ x.k = k) ∧ W = w') := fun k W hb hk => loEnd hN W u q k (hq.after hN hb) hk
  have cK : Hid (∀ a x W, Nd W W.heap.size a x → Calls Tryd.prog 19 #[.pointer (some a)] W fun e w' => e = .returned (K x.k) ∧ W = w') := fun a x W h => hN.key W W.heap.size a x h
  have hps := Lib.hid hp.parts
  have hqs := Lib.hid hq.parts
  have hin : Hid (chkE o t = 0 → 1 ≤ o ∧ o ≤ 7) := fun h => by
    by_cases ho : 1 ≤ o ∧ o ≤ 7
    · exact ho
    · unfold chkE at h; rw [if_neg ho] at h; cases h
  rw [ahd_is]
  obtain ⟨R1, hR1⟩ : ∃ b, (chkE o t == 0) = b := ⟨_, rfl⟩
  obtain ⟨R2, hR2⟩ : ∃ b, (chkE o u == 0) = b := ⟨_, rfl⟩
  obtain ⟨N, hN0⟩ : ∃ b, endsK o t.hi u.lo = b := ⟨_, rfl⟩
  rw [hR1] at c1 ⊢
  rw [hR2] at c2 ⊢
  rw [hN0]
  have hin' : Hid (R1 = true → 1 ≤ o ∧ o ≤ 7) := fun h => hin.out (by have := hR1; rw [h] at this; simpa using this)
  have hN1 := Lib.hid hN0
  clear hN hO hT hp hq h5 h6 hR1 hR2 hN0 hin
  go_enter Tryd.func12, Tryd.ntmps12
  cases R1 with
  | false =>
    go_wp2_with fail
    refine c1.out.mono ?_
    rintro e w1 ⟨rfl, hb⟩
    have b1 := Lib.hid hb
    clear hb c1
    go_wp2_with fail
    go_ret
    exact ⟨rfl, b1.out⟩
  | true =>
    go_wp2_with fail
    refine c1.out.mono ?_
    rintro e w1 ⟨rfl, hb⟩
    have b1 := Lib.hid hb
    clear hb c1
    go_wp2_with fail
    refine (c2.out w1 b1.out).mono ?_
    rintro e w2 ⟨rfl, hb⟩
    have b2 := Lib.hid (Below.after b1.out hb)
    clear hb c2 b1
    cases R2 with
    | false =>
      go_wp2_with fail
      go_ret
      exact ⟨rfl, b2.out⟩
    | true =>
      have ho := hin'.out (by trivial)
      rcases hps.out with ⟨rfl, rfl⟩ | ⟨a, pl, pr, tl, k, v, g, tr, S, M, rfl, rfl, -, -, -⟩
      · have hx : Hid (N = true) := hN1.out.symm
        go_wp2_with fail
        go_ret
        exact ⟨by rw [hx.out]; rfl, b2.out⟩
      · rcases hqs.out with ⟨rfl, rfl⟩ | ⟨a', pl', pr', tl', k', v', g', tr', S', M', rfl, rfl, -, -, -⟩
        · obtain ⟨x, hx⟩ := hi_some (.n tl k v g tr) (by simp)
          have hx : Hid (N = true) := by have := hN1.out; rw [hx] at this; exact this.symm
          go_wp2_with fail
          go_ret
          exact ⟨by rw [hx.out]; rfl, b2.out⟩
        · obtain ⟨x, hx⟩ := hi_some (.n tl k v g tr) (by simp)
          obtain ⟨y, hy⟩ := lo_some (.n tl' k' v' g' tr') (by simp)
          have d1 := Lib.hid (cR.out x w2 b2.out hx)
          have d2 := Lib.hid (cL.out y w2 b2.out hy)
          have d3 := Lib.hid (cO.out x y w2 b2.out ho.1 ho.2)
          have hx : Hid (decide (Ordm.stand o x y < 0) = N) := by
            have h := hN1.out
            rw [hx, hy, endsK] at h
            show _ = _
            rw [← h, Bool.eq_iff_iff, decide_eq_true_eq, decide_eq_true_eq]
            exact ltK_stand.symm
          obtain ⟨s, hs⟩ : ∃ s, Ordm.stand o x y = s := ⟨_, rfl⟩
          rw [hs] at hx d3
          clear hs hN1 hps hqs cO cR cL hin' ho hy
          go_wp2_with fail
          refine d1.out.mono ?_
          rintro e w' ⟨⟨a1, x1, rfl, n1, hk1⟩, rfl⟩
          go_wp2_with fail
          refine d2.out.mono ?_
          rintro e w' ⟨⟨a2, x2, rfl, n2, hk2⟩, rfl⟩
          have k1 := Lib.hid (cK.out a1 x1 w2 n1)
          have k2 := Lib.hid (cK.out a2 x2 w2 n2)
          rw [hk1] at k1
          rw [hk2] at k2
          clear n1 n2 hk1 hk2 cK d1 d2
          go_wp2_with fail
          refine k1.out.mono ?_
          rintro e w' ⟨rfl, rfl⟩
          go_wp2_with fail
          refine k2.out.mono ?_
          rintro e w' ⟨rfl, rfl⟩
          go_wp2_with fail
          refine d3.out.mono ?_
          rintro e w3 ⟨rfl, hb⟩
          have b3 := Lib.hid (Below.after b2.out hb)
          clear hb
          go_wp2_with fail
          go_ret
          exact ⟨by rw [← hx.out]; rfl, b3.out⟩
end Go.Proofs.YtfndaeocdgcaeaaDoor
