/- Layer 12, as landed: what goes over a tree's nodes, in the order of its beads. Made by wip/gen/layer12spots.py. -/
import Derived.Test.YtfndaeocdgcaeaaDoorL12Math
import Derived.Test.YtfndaeocdgcaeaaDoorJF
import Derived.Test.YtfndaeocdgcaeaaDoorGApart
import Derived.Shelf.Abstract
import Derived.Deep.Cut
import Derived.Test.YtfndaeocdgcaeaaDoorGOwn
import Derived.Deep.RegionHeld3
import Derived.Test.YtfndaeocdgcaeaaDoorGCut
import Derived.Test.YtfndaeocdgcaeaaDoorGHeldIn
import Derived.Laws.EntriesVeiled
/- Layer 12, as landed: nodes held against their two nearest bounds alone; the first one that is wrong is the first one that is wrong by all its bounds. No program. -/
namespace Go.Proofs.Treem
open Ordm

def okHi : Option (BitVec 64) → BitVec 64 → Bool
  | none, _ => true
  | some b, c => decide (c.toNat < b.toNat)
def okLo : Option (BitVec 64) → BitVec 64 → Bool
  | none, _ => true
  | some b, c => decide (b.toNat < c.toNat)
/-- a node's key, and the codes of its nearest bounds: what it stands ahead of, and behind -/
structure Site where
  k : BitVec 64
  hi : Option (BitVec 64)
  lo : Option (BitVec 64)
def Site.wrong (o : Nat) (s : Site) : Bool := !okHi s.hi (code o s.k) || !okLo s.lo (code o s.k)
def Tr.sites (o : Nat) : Tr → Option (BitVec 64) → Option (BitVec 64) → List Site
  | .e, _, _ => []
  | .n l k _ _ r, hi, lo => ⟨k, hi, lo⟩ :: (l.sites o (some (code o k)) lo ++ r.sites o hi (some (code o k)))
theorem sites_len (o : Nat) : ∀ (t : Tr) (hi lo : Option (BitVec 64)), (t.sites o hi lo).length = t.size
  | .e, _, _ => rfl
  | .n l k v g r, hi, lo => by
    simp only [Tr.sites, List.length_cons, List.length_append, Tr.size, sites_len o l, sites_len o r]; omega
theorem first_sites (o : Nat) : ∀ (t : Tr) (hi lo : Option (BitVec 64)) (b : List Bnd), (∀ k, wrongB o k b = (!okHi hi (code o k) || !okLo lo (code o k))) → firstT o t b = (t.sites o hi lo).findIdx (Site.wrong o)
  | .e, _, _, _, _ => rfl
  | .n l k v g r, hi, lo, b, h => by
    rw [firstT, Tr.sites, List.findIdx_cons]
    have hk := h k
    have e0 : Site.wrong o ⟨k, hi, lo⟩ = wrongB o k b := hk.symm
    cases hw : wrongB o k b with
    | true => rw [e0, hw]; rfl
    | false =>
      rw [e0, hw, if_neg (by simp)]
      rw [hw] at hk
      have hk1 : okHi hi (code o k) = true := by cases h1 : okHi hi (code o k) <;> simp [h1] at hk ⊢
      have hk2 : okLo lo (code o k) = true := by cases h1 : okLo lo (code o k) <;> simp [h1] at hk ⊢
      have snoc : ∀ (x : BitVec 64) (c : Bnd), wrongB o x (b ++ [c]) = (wrongB o x b || !decide (okB o x c)) := fun x c => by
        have hm := wrong_more (o := o) (k := x) (l := b) (b := c)
        cases hl : wrongB o x b <;> by_cases hb : okB o x c
        · rw [hm.2 ⟨hl, hb⟩]; simp [hb]
        · cases hh : wrongB o x (b ++ [c])
          · exact absurd (hm.1 hh).2 hb
          · simp [hb]
        · cases hh : wrongB o x (b ++ [c])
          · rw [(hm.1 hh).1] at hl; cases hl
          · rfl
        · cases hh : wrongB o x (b ++ [c])
          · rw [(hm.1 hh).1] at hl; cases hl
          · rfl
      have hl : ∀ x, wrongB o x (b ++ [(k, false)]) = (!okHi (some (code o k)) (code o x) || !okLo lo (code o x)) := fun x => by
        rw [snoc, h x]
        have hb : decide (okB o x (k, false)) = okHi (some (code o k)) (code o x) := by simp [okB, ltK, okHi]
        rw [hb]
        cases h1 : okHi (some (code o k)) (code o x) with
        | false => simp
        | true =>
          have : okHi hi (code o x) = true := by
            cases hi with
            | none => rfl
            | some z =>
              have a1 : (code o x).toNat < (code o k).toNat := of_decide_eq_true h1
              have a2 : (code o k).toNat < z.toNat := of_decide_eq_true hk1
              exact decide_eq_true (by omega)
          rw [this]; simp
      have hr : ∀ x, wrongB o x (b ++ [(k, true)]) = (!okHi hi (code o x) || !okLo (some (code o k)) (code o x)) := fun x => by
        rw [snoc, h x]
        have hb : decide (okB o x (k, true)) = okLo (some (code o k)) (code o x) := by simp [okB, ltK, okLo]
        rw [hb]
        cases h1 : okLo (some (code o k)) (code o x) with
        | false => simp
        | true =>
          have : okLo lo (code o x) = true := by
            cases lo with
            | none => rfl
            | some z =>
              have a1 : (code o k).toNat < (code o x).toNat := of_decide_eq_true h1
              have a2 : z.toNat < (code o k).toNat := of_decide_eq_true hk2
              exact decide_eq_true (by omega)
          rw [this]; simp
      have i1 := first_sites o l (some (code o k)) lo _ hl
      have i2 := first_sites o r hi (some (code o k)) _ hr
      rw [i1, i2, List.findIdx_append, sites_len]
      show _ = _ + 1
      split
      · omega
      · have := List.findIdx_le_length (xs := l.sites o (some (code o k)) lo) (p := Site.wrong o)
        rw [sites_len] at this
        omega
/-- where all those ahead are right, and one is wrong, that is the first one -/
theorem find_at {α : Type} {p : α → Bool} {l : List α} {n : Nat} {x : α} (hx : l[n]? = some x) (hp : p x = true) (h : ∀ i y, i < n → l[i]? = some y → p y = false) : l.findIdx p = n := by
  obtain ⟨hn, rfl⟩ := List.getElem?_eq_some_iff.1 hx
  rw [List.findIdx_eq hn]
  exact ⟨hp, fun j hj => h j _ hj (List.getElem?_eq_getElem (by omega))⟩
theorem find_none {α : Type} {p : α → Bool} {l : List α} (h : ∀ i y, i < l.length → l[i]? = some y → p y = false) : l.findIdx p = l.length := by
  rw [List.findIdx_eq_length]
  intro x hx
  obtain ⟨i, hi, rfl⟩ := List.getElem_of_mem hx
  exact h i _ hi (List.getElem?_eq_getElem hi)
end Go.Proofs.Treem
/- Layer 12, as landed: bounds as closures, and a node held against its two. -/
namespace Go.Proofs.YtfndaeocdgcaeaaDoor
open Go.RowKit Go.Shelf Go.Proofs.Treem
set_option maxRecDepth 100000

/-- a function value that tells of codes whether they are ahead of that one -/
def HiAt (w : World) (hi : Option (BitVec 64)) (v : Value) : Prop := match hi with
  | none => v = .func (.func 42) #[] #[]
  | some b => ∃ g, v = .func (.func 66) #[] #[.pointer (some ⟨g, 0, none⟩)] ∧ Boxed w g 42 (V b)
def LoAt (w : World) (lo : Option (BitVec 64)) (v : Value) : Prop := match lo with
  | none => v = .func (.func 42) #[] #[]
  | some b => ∃ g, v = .func (.func 65) #[] #[.pointer (some ⟨g, 0, none⟩)] ∧ Boxed w g 42 (V b)
theorem HiAt.kf {free : TypeId → Bool} {B : Nat} {w w' : World} {hi : Option (BitVec 64)} {v : Value} (h : HiAt w hi v) (hk : Kf free B w w') (ht : free 42 = false) : HiAt w' hi v := by
  cases hi with
  | none => exact h
  | some b => obtain ⟨g, h1, h2⟩ := h; exact ⟨g, h1, hk.boxed h2 ht⟩
theorem LoAt.kf {free : TypeId → Bool} {B : Nat} {w w' : World} {lo : Option (BitVec 64)} {v : Value} (h : LoAt w lo v) (hk : Kf free B w w') (ht : free 42 = false) : LoAt w' lo v := by
  cases lo with
  | none => exact h
  | some b => obtain ⟨g, h1, h2⟩ := h; exact ⟨g, h1, hk.boxed h2 ht⟩
theorem HiAt.below {w w' : World} {hi : Option (BitVec 64)} {v : Value} (h : HiAt w hi v) (hb : Below w.heap.size w w') : HiAt w' hi v := h.kf (free := fun _ => false) (Kf.of_below hb (Nat.le_refl _)) rfl
theorem LoAt.below {w w' : World} {hi : Option (BitVec 64)} {v : Value} (h : LoAt w hi v) (hb : Below w.heap.size w w') : LoAt w' hi v := h.kf (free := fun _ => false) (Kf.of_below hb (Nat.le_refl _)) rfl
theorem anywhere_any (v : Value) (w : World) : Calls Tryd.prog 42 #[v] w fun e w' => e = .returned (.bool true) ∧ w = w' := by
  go_enter Tryd.func42, Tryd.ntmps42
  go_wp2
  go_ret
  exact ⟨rfl, rfl⟩
theorem ahead_code (b c : BitVec 64) (g : Nat) (w : World) (h : w.cell? ⟨g, 0, none⟩ = some (V b)) : Calls Tryd.prog 66 #[V c, .pointer (some ⟨g, 0, none⟩)] w fun e w' => e = .returned (.bool (decide (c.toNat < b.toNat))) ∧ w = w' := by
  go_enter Tryd.func66, Tryd.ntmps66
  go_wp2
  go_ret
  exact ⟨by simp, rfl⟩
theorem behind_code (b c : BitVec 64) (g : Nat) (w : World) (h : w.cell? ⟨g, 0, none⟩ = some (V b)) : Calls Tryd.prog 65 #[V c, .pointer (some ⟨g, 0, none⟩)] w fun e w' => e = .returned (.bool (decide (b.toNat < c.toNat))) ∧ w = w' := by
  go_enter Tryd.func65, Tryd.ntmps65
  go_wp2
  go_ret
  exact ⟨by simp, rfl⟩
/-- what a bound answers -/
theorem HiAt.says {w : World} {hi : Option (BitVec 64)} {v : Value} (h : HiAt w hi v) : ∃ (F : FuncId) (cap : Array Value), v = .func (.func F) #[] cap ∧ (∀ args W, (callFunc F args).run Tryd.prog W = .ok (.enter F args) W) ∧
    ∀ (c : BitVec 64) (W : World), Below w.heap.size w W → Calls Tryd.prog F (#[V c] ++ cap) W fun e W' => e = .returned (.bool (okHi hi c)) ∧ W = W' := by
  cases hi with
  | none => exact ⟨_, _, h, enters_of Tryd.func42 (by kernel_rfl) rfl, fun c W _ => anywhere_any _ W⟩
  | some b =>
    obtain ⟨g, h1, h2⟩ := h
    exact ⟨_, _, h1, enters_of Tryd.func66 (by kernel_rfl) rfl, fun c W hb => ahead_code b c g W (keep_cell hb h2.cell)⟩
theorem LoAt.says {w : World} {lo : Option (BitVec 64)} {v : Value} (h : LoAt w lo v) : ∃ (F : FuncId) (cap : Array Value), v = .func (.func F) #[] cap ∧ (∀ args W, (callFunc F args).run Tryd.prog W = .ok (.enter F args) W) ∧
    ∀ (c : BitVec 64) (W : World), Below w.heap.size w W → Calls Tryd.prog F (#[V c] ++ cap) W fun e W' => e = .returned (.bool (okLo lo c)) ∧ W = W' := by
  cases lo with
  | none => exact ⟨_, _, h, enters_of Tryd.func42 (by kernel_rfl) rfl, fun c W _ => anywhere_any _ W⟩
  | some b =>
    obtain ⟨g, h1, h2⟩ := h
    exact ⟨_, _, h1, enters_of Tryd.func65 (by kernel_rfl) rfl, fun c W hb => behind_code b c g W (keep_cell hb h2.cell)⟩
theorem behindOf_any (c : BitVec 64) (w : World) : Calls Tryd.prog 43 #[V c] w fun e w' => ∃ v, e = .returned v ∧ LoAt w' (some c) v ∧ Below w.heap.size w w' := by
  have hN := Boxed.new w 42 (V c)
  have hb : Below w.heap.size w (w.alloc (.cells #[V c] 42)) := (Below.refl _ w).alloc (Nat.le_refl _) _
  have hN' := Lib.hid hN
  have hb' := Lib.hid hb
  clear hN hb
  go_enter Tryd.func43, Tryd.ntmps43
  go_wp2
  go_ret
  exact ⟨_, rfl, ⟨_, rfl, hN'.out⟩, hb'.out⟩
theorem aheadOf_any (c : BitVec 64) (w : World) : Calls Tryd.prog 44 #[V c] w fun e w' => ∃ v, e = .returned v ∧ HiAt w' (some c) v ∧ Below w.heap.size w w' := by
  have hN := Boxed.new w 42 (V c)
  have hb : Below w.heap.size w (w.alloc (.cells #[V c] 42)) := (Below.refl _ w).alloc (Nat.le_refl _) _
  have hN' := Lib.hid hN
  have hb' := Lib.hid hb
  clear hN hb
  go_enter Tryd.func44, Tryd.ntmps44
  go_wp2
  go_ret
  exact ⟨_, rfl, ⟨_, rfl, hN'.out⟩, hb'.out⟩
set_option maxHeartbeats 2000000 in
theorem isWrong_any (w : World) (p : Option Addr) (c : BitVec 64) (hi lo : Option (BitVec 64)) (va vb : Value) (ha : HiAt w hi va) (hl : LoAt w lo vb) :
    Calls Tryd.prog 25 #[.agg #[.pointer p, V c, va, vb]] w fun e w' => e = .returned (.bool (!okHi hi c || !okLo lo c)) ∧ Below w.heap.size w w' := by
  obtain ⟨F, ca, rfl, eF, sF⟩ := ha.says
  obtain ⟨G, cb, rfl, eG, sG⟩ := hl.says
  obtain ⟨W, hW⟩ : ∃ W, w.alloc (.cells #[.pointer p, V c, .func (.func F) #[] ca, .func (.func G) #[] cb] 57) = W := ⟨_, rfl⟩
  have hb : Below w.heap.size w W := hW ▸ (Below.refl _ w).alloc (Nat.le_refl _) _
  have hS : Has W w.heap.size 57 #[.pointer p, V c, .func (.func F) #[] ca, .func (.func G) #[] cb] := hW ▸ Has.new w _ _
  have x0 := hS.cell 0
  have x1 := hS.cell 1
  have x2 := hS.cell 2
  have x3 := hS.cell 3
  simp only [List.getElem?_toArray, List.getElem?_cons_zero, List.getElem?_cons_succ] at x0 x1 x2 x3
  have c1 := Lib.hid (sF c W hb)
  have c2 := Lib.hid (sG c W hb)
  have hb' := Lib.hid hb
  have hW' := Lib.hid hW
  obtain ⟨A, hA⟩ : ∃ b, okHi hi c = b := ⟨_, rfl⟩
  obtain ⟨B, hB⟩ : ∃ b, okLo lo c = b := ⟨_, rfl⟩
  rw [hA] at c1 ⊢
  rw [hB] at c2 ⊢
  obtain ⟨gS, hgS⟩ : ∃ g, w.heap.size = g := ⟨_, rfl⟩
  rw [hgS] at x0 x1 x2 x3
  have hgS' := Lib.hid hgS
  clear ha hl sF sG hb hW hS hA hB hgS
  go_enter Tryd.func25, Tryd.ntmps25
  go_upto_region 1 with (fail)
  rw [hW'.out, hgS'.out]
  cases A with
  | false =>
    go_wp2_with fail
    refine c1.out.mono ?_
    rintro e w' ⟨rfl, rfl⟩
    go_wp2_with fail
    go_ret
    exact ⟨rfl, hb'.out⟩
  | true =>
    go_wp2_with fail
    refine c1.out.mono ?_
    rintro e w' ⟨rfl, rfl⟩
    go_wp2_with fail
    refine c2.out.mono ?_
    rintro e w' ⟨rfl, rfl⟩
    go_wp2_with fail
    go_ret
    exact ⟨rfl, hb'.out⟩
end Go.Proofs.YtfndaeocdgcaeaaDoor
/- Layer 12, as landed: the closure that puts a node on the stack. Made by wip/gen/layer12keep.py. -/
namespace Go.Proofs.YtfndaeocdgcaeaaDoor
open Go.RowKit Go.Shelf Go.Proofs.Treem
set_option maxRecDepth 100000
variable {Nd : NdP} {T : World → Prop}

/-- kinds of variables that what goes over a tree turns as it goes -/
def mine12 (t : TypeId) : Bool := t == 57 || t == 83
theorem info_spot12 : (Tryd.prog.info? 57).map (fun i => (i.zero, i.size, i.bytes)) = some (some (.agg #[.pointer none, .int .u64 0, .nilFunc, .nilFunc]), 4, 32) := by kernel_rfl
theorem keep_none (va vb : Value) (p q : Addr) (W : World) : Calls Tryd.prog 41 #[.pointer none, va, vb, .pointer (some p), .pointer (some q)] W fun e W' => (∃ v, e = .returned v) ∧ W = W' := by
  go_enter Tryd.func41, Tryd.ntmps41
  go_wp2_with fail
  exact bodyPost_end (results_none rfl _ _ _) rfl ⟨⟨_, rfl⟩, rfl⟩
set_option maxHeartbeats 4000000 in
theorem keep_some (hN : NodeSays Nd) (hO : OrdSays T) (o : Nat) (o1 : 1 ≤ o) (o7 : o ≤ 7) (W : World) (hT : T W) (a : Addr) (x : No) (hnd : Nd W W.heap.size a x) (F G : FuncId) (ca cb : Array Value) (gA gO B' k : Nat) (v : Value) (xs : List Value)
    (hA : Boxed W gA 5 (.int .u8 o)) (hB : Boxed W gO 83 v) (how : W.ownsRow B' 57 4 v k xs) (hk : k ≤ 10000) (hBW : B' ≤ W.heap.size) (hgO : B' ≤ gO) :
    Calls Tryd.prog 41 #[.pointer (some a), .func (.func F) #[] ca, .func (.func G) #[] cb, .pointer (some ⟨gA, 0, none⟩), .pointer (some ⟨gO, 0, none⟩)] W fun e W' => (∃ v, e = .returned v) ∧
      ∃ v', Boxed W' gO 83 v' ∧ W'.ownsRow B' 57 4 v' (k + 1) (xs ++ [.pointer (some a), V (Ordm.code o x.k), .func (.func F) #[] ca, .func (.func G) #[] cb]) ∧ Kf mine12 B' W W' ∧ (∀ g t cs, Has W g t cs → g ≠ gO → some g ≠ v.ownBlock → Has W' g t cs) ∧ (v'.ownBlock = v.ownBlock ∨ ∀ i, v'.ownBlock = some i → W.heap.size ≤ i) := by
  obtain ⟨i0, hin, hz0, hz1, hz2⟩ := info_parts info_spot12
  have cK : Hid (∀ U, Below W.heap.size W U → Calls Tryd.prog 19 #[.pointer (some a)] U fun e w' => e = .returned (K x.k) ∧ U = w') := fun U hU => hN.key U U.heap.size a x (nd_after hN hnd hU)
  have cC : Hid (∀ U, Below W.heap.size W U → Calls Tryd.prog 23 #[.int .u8 o, K x.k] U fun e w' => e = .returned (.tuple #[V (Ordm.code o x.k), .int .i64 0]) ∧ Below U.heap.size U w') := fun U hU => hO.code U o x.k o1 o7 (hO.next hT hU)
  obtain ⟨c, hc⟩ : ∃ c, Ordm.code o x.k = c := ⟨_, rfl⟩
  rw [hc] at cC ⊢
  have xA := hA.cell
  have b0 := Lib.hid (Below.refl W.heap.size W)
  have hB' := Lib.hid hB
  have how' := Lib.hid how
  have hBW' := Lib.hid hBW
  have hgO' := Lib.hid hgO
  obtain ⟨A, q, rfl, -, -, -⟩ := own_slice how
  clear hA hB how hN hO hT hnd hc hBW hgO
  go_enter Tryd.func41, Tryd.ntmps41
  go_wp2_with fail
  refine wp_region_held_drew (S := fun u => u.cell? ⟨gA, 0, none⟩ = some (.int .u8 o) ∧ Below W.heap.size W u) (by kernel_rfl) ⟨xA, b0.out.drew⟩ (fun hS => ?_)
  refine wpAnyH_take (i := 0) (oi := ?dqr1q0) (v := ?dvr1q0) ?hir1q0 (by kernel_rfl) (by kernel_rfl) (by kernel_rfl) ?hQr1q0 (Or.inl ⟨?hwr1q0, ?hyr1q0⟩) hS ?hrr1q0
  case hir1q0 => simp only [List.getElem?_toArray, List.getElem?_cons_zero]; rfl
  case hQr1q0 => exact fun _ _ _ h => h
  case hwr1q0 => rfl
  case hyr1q0 => (intro w hSw; (try dsimp only at hSw); go_simp; (try with_reducible rfl))
  simp only [Act.put, List.setIfInBounds_toArray, List.set_cons_zero, List.set_cons_succ]
  refine wpAnyH_take (i := 1) (oi := ?dqr1q1) (v := ?dvr1q1) ?hir1q1 (by kernel_rfl) (by kernel_rfl) (by kernel_rfl) ?hQr1q1 (Or.inl ⟨?hwr1q1, ?hyr1q1⟩) hS ?hrr1q1
  case hir1q1 => simp only [List.getElem?_toArray, List.getElem?_cons_succ, List.getElem?_cons_zero]; rfl
  case hQr1q1 => exact fun _ _ _ h => h
  case hwr1q1 => rfl
  case hyr1q1 => (intro w hSw; (try dsimp only at hSw); go_simp; (try with_reducible rfl))
  simp only [Act.put, List.setIfInBounds_toArray, List.set_cons_zero, List.set_cons_succ]
  refine wpAnyH_ready (rs := [2]) (by kernel_rfl) (by simp) ?_
  refine AllReadyH.cons (o := ?dqr1q2) ?hir1q2 (fun K hK => ?_) AllReadyH.nil
  case hir1q2 => simp only [List.getElem?_toArray, List.getElem?_cons_succ, List.getElem?_cons_zero]; rfl
  go_simp
  go_at_call 19
  (with_reducible refine (cK.out _ hS.2).mono ?_)
  rintro e w'' ⟨rfl, rfl⟩
  have hS2 := hS
  clear hS
  refine hK.out _ _ hS2 (fun hS => ?_)
  clear hS2 hK K
  try simp only [Act.put, List.setIfInBounds_toArray, List.set_cons_zero, List.set_cons_succ]
  refine wpAnyH_ready (rs := [3]) (by kernel_rfl) (by simp) ?_
  refine AllReadyH.cons (o := ?dqr1q3) ?hir1q3 (fun K hK => ?_) AllReadyH.nil
  case hir1q3 => simp only [List.getElem?_toArray, List.getElem?_cons_succ, List.getElem?_cons_zero]; rfl
  go_simp
  go_at_call 23
  (with_reducible refine (cC.out _ hS.2).mono ?_)
  rintro e u3 ⟨rfl, hb⟩
  have hS2 := (And.intro (keep_cell hb hS.1) (Below.after hS.2 hb))
  clear hS
  refine hK.out _ _ hS2 (fun hS => ?_)
  clear hS2 hK K
  try simp only [Act.put, List.setIfInBounds_toArray, List.set_cons_zero, List.set_cons_succ]
  refine wpAnyH_take (i := 4) (oi := ?dqr1q4) (v := ?dvr1q4) ?hir1q4 (by kernel_rfl) (by kernel_rfl) (by kernel_rfl) ?hQr1q4 (Or.inl ⟨?hwr1q4, ?hyr1q4⟩) hS ?hrr1q4
  case hir1q4 => simp only [List.getElem?_toArray, List.getElem?_cons_succ, List.getElem?_cons_zero]; rfl
  case hQr1q4 => exact fun _ _ _ h => h
  case hwr1q4 => rfl
  case hyr1q4 => (intro w hSw; (try dsimp only at hSw); go_simp; (try with_reducible rfl))
  simp only [Act.put, List.setIfInBounds_toArray, List.set_cons_zero, List.set_cons_succ]
  refine wpAnyH_take (i := 5) (oi := ?dqr1q5) (v := ?dvr1q5) ?hir1q5 (by kernel_rfl) (by kernel_rfl) (by kernel_rfl) ?hQr1q5 (Or.inl ⟨?hwr1q5, ?hyr1q5⟩) hS ?hrr1q5
  case hir1q5 => simp only [List.getElem?_toArray, List.getElem?_cons_succ, List.getElem?_cons_zero]; rfl
  case hQr1q5 => exact fun _ _ _ h => h
  case hwr1q5 => rfl
  case hyr1q5 => (intro w hSw; (try dsimp only at hSw); go_simp; (try with_reducible rfl))
  simp only [Act.put, List.setIfInBounds_toArray, List.set_cons_zero, List.set_cons_succ]
  refine wpAnyH_take (i := 6) (oi := ?dqr1q6) (v := ?dvr1q6) ?hir1q6 (by kernel_rfl) (by kernel_rfl) (by kernel_rfl) ?hQr1q6 (Or.inl ⟨?hwr1q6, ?hyr1q6⟩) hS ?hrr1q6
  case hir1q6 => simp only [List.getElem?_toArray, List.getElem?_cons_succ, List.getElem?_cons_zero]; rfl
  case hQr1q6 => exact fun _ _ _ h => h
  case hwr1q6 => rfl
  case hyr1q6 => (intro w hSw; (try dsimp only at hSw); go_simp; (try with_reducible rfl))
  simp only [Act.put, List.setIfInBounds_toArray, List.set_cons_zero, List.set_cons_succ]
  refine wpAnyH_take (i := 7) (oi := ?dqr1q7) (v := ?dvr1q7) ?hir1q7 (by kernel_rfl) (by kernel_rfl) (by kernel_rfl) ?hQr1q7 (Or.inl ⟨?hwr1q7, ?hyr1q7⟩) hS ?hrr1q7
  case hir1q7 => simp only [List.getElem?_toArray, List.getElem?_cons_succ, List.getElem?_cons_zero]; rfl
  case hQr1q7 => exact fun _ _ _ h => h
  case hwr1q7 => rfl
  case hyr1q7 => (intro w hSw; (try dsimp only at hSw); go_simp; (try with_reducible rfl))
  simp only [Act.put, List.setIfInBounds_toArray, List.set_cons_zero, List.set_cons_succ]
  refine wpAnyH_take (i := 8) (oi := ?dqr1q8) (v := ?dvr1q8) ?hir1q8 (by kernel_rfl) (by kernel_rfl) (by kernel_rfl) ?hQr1q8 (Or.inl ⟨?hwr1q8, ?hyr1q8⟩) hS ?hrr1q8
  case hir1q8 => simp only [List.getElem?_toArray, List.getElem?_cons_succ, List.getElem?_cons_zero]; rfl
  case hQr1q8 => exact fun _ _ _ h => h
  case hwr1q8 => rfl
  case hyr1q8 => (intro w hSw; (try dsimp only at hSw); go_simp; (try with_reducible rfl))
  simp only [Act.put, List.setIfInBounds_toArray, List.set_cons_zero, List.set_cons_succ]
  refine wpAnyH_done (by kernel_rfl) ?_ _
  obtain ⟨W1, rfl⟩ : ∃ W1, W1 = u3 := ⟨_, rfl⟩
  obtain ⟨xA1, hb1⟩ := hS
  have b1 := Lib.hid hb1
  have hB1 : Boxed W1 gO 83 (.slice A k q) := Has.next (show Has _ _ _ _ from hB'.out) b1.out
  have ow1 := owned_next how'.out b1.out
  have xO := hB1.cell
  clear xA xA1 hb1 cK cC
  go_wp2_with (
    (at_builtin
     refine wpList_append_where rfl _ _ 83 rfl B' 57 i0 (.agg #[.pointer none, .int .u64 0, .nilFunc, .nilFunc]) 4 32 Tryd.underlying83 hin hz0 hz1 hz2 rfl (by decide) (.slice A k q) k xs rfl (ow1.alloc _) ⟨W1.heap.size, 0, none⟩ 1 1 [.pointer (some a), V c, .func (.func F) #[] ca, .func (.func G) #[] cb] rfl rfl (fun j u hu => ((Has.new W1 57 #[.pointer (some a), V c, .func (.func F) #[] ca, .func (.func G) #[] cb]).row.at_ hu).2) (by simp [Value.oneCell']) (by unfold maxLen; omega) (by omega) (by have := b1.out.size; have := hBW'.out; simp; omega) ?_
     intro v2 w4 hown' hgrow hwh
     obtain ⟨g', cap', rfl⟩ := ownsRow_succ hown'
     have hb4 : Boxed w4 gO 83 (.slice A k q) := (hB1.alloc _).kept hgrow (Boxed.not_row hB1 (by decide) ow1)
     have cO4 := hb4.cell
     have fO4 := hb4.frozen))
  refine bodyPost_end (results_none rfl _ _ _) rfl ⟨⟨_, rfl⟩, _, hb4.set _, hown'.kept (grownBy_setCell' w4 gO _) (.inr (Ne.symm (has_not_row (show Has _ _ _ _ from hb4) (by decide) hown'))), ?_, fun g t cs hg h1 h2 => Has.far (p := ⟨gO, 0, none⟩) ((hgrow.block g (by have := (hg.next b1.out).lt; simp; omega) h2).trans ((hg.next b1.out).alloc _)) h1 _, hwh.imp id (fun h i hi => Nat.le_trans (Nat.le_trans b1.out.size (by simp)) (h i hi))⟩
  have z1 : B' ≤ W1.heap.size := Nat.le_trans hBW'.out b1.out.size
  refine (((Kf.of_below b1.out hBW'.out).trans (Kf.of_below ((Below.refl W1.heap.size W1).alloc (Nat.le_refl _) _) z1)).trans (Kf.grown hgrow (ow1.alloc _) rfl (Nat.le_refl _) (by simp; omega))).trans (Kf.store hb4 _ rfl hgO'.out)
end Go.Proofs.YtfndaeocdgcaeaaDoor
/- Layer 12, as landed: where the closure that goes over a tree's nodes stands, between its steps. -/
namespace Go.Proofs.YtfndaeocdgcaeaaDoor
open Go.RowKit Go.Shelf Go.Proofs.Treem
set_option maxRecDepth 100000

/-- kinds of variables that a round may change -/
def free12 (t : TypeId) : Bool := t == 3 || t == 27
def all12 (t : TypeId) : Bool := free12 t || mine12 t
/-- what stands on the stack: a node, and what it is held against -/
structure Fr12 where
  a : Addr
  l : Tr
  k : BitVec 64
  x : BitVec 64
  g : BitVec 64
  r : Tr
  hi : Option (BitVec 64)
  lo : Option (BitVec 64)
  va : Value
  vb : Value
def Fr12.t (f : Fr12) : Tr := .n f.l f.k f.x f.g f.r
def flat12 (o : Nat) (us : List Fr12) : List Value := us.flatMap fun f => [.pointer (some f.a), V (Ordm.code o f.k), f.va, f.vb]
def rest12 (o : Nat) (us : List Fr12) : List Site := us.flatMap fun f => f.t.sites o f.hi f.lo
theorem flat12_append (o : Nat) (a b : List Fr12) : flat12 o (a ++ b) = flat12 o a ++ flat12 o b := List.flatMap_append
theorem flat12_len (o : Nat) : ∀ us : List Fr12, (flat12 o us).length = us.length * 4
  | [] => rfl
  | f :: us => by have := flat12_len o us; simp only [flat12, List.flatMap_cons, List.length_append, List.length_cons, List.length_nil] at this ⊢; omega
theorem rest12_cons (o : Nat) (f : Fr12) (us : List Fr12) : rest12 o (f :: us) = f.t.sites o f.hi f.lo ++ rest12 o us := rfl
theorem rest12_len (o : Nat) : ∀ us : List Fr12, us.length ≤ (rest12 o us).length
  | [] => Nat.le_refl _
  | f :: us => by
    have := rest12_len o us
    have h2 := sites_len o f.t f.hi f.lo
    have h3 : f.t.size = 1 + f.l.size + f.r.size := rfl
    rw [rest12_cons, List.length_append, h2, List.length_cons]; omega
structure Lain (Nd : NdP) (w0 w : World) (f : Fr12) : Prop where
  tr : TreeAt Nd w0 w0.heap.size f.t (some f.a)
  hi : HiAt w f.hi f.va
  lo : LoAt w f.lo f.vb
theorem Lain.kf {Nd : NdP} {w0 w w' : World} {f : Fr12} {free : TypeId → Bool} {B : Nat} (h : Lain Nd w0 w f) (hk : Kf free B w w') (ht : free 42 = false) : Lain Nd w0 w' f := ⟨h.tr, h.hi.kf hk ht, h.lo.kf hk ht⟩
/-- the box of the stack holds those at us; todo is to come ahead of those on the stack, pre has come -/
structure At12 (Nd : NdP) (o : Nat) (w0 : World) (gA gO B' : Nat) (tot : List Site) (J : List Value → World → Prop) (todo : List Site) (us : List Fr12) (pre : List Value) (v : Value) (w : World) : Prop where
  base : Below w0.heap.size w0 w
  ob : Boxed w gA 5 (.int .u8 o)
  bo : Boxed w gO 83 v
  ow : w.ownsRow B' 57 4 v us.length (flat12 o us.reverse)
  ls : ∀ f ∈ us, Lain Nd w0 w f
  j : J pre w
  eq : ∃ done : List Site, done.length = pre.length ∧ done ++ (todo ++ rest12 o us) = tot
  sz : B' ≤ w.heap.size
  low : w0.heap.size ≤ B'
section
variable {Nd : NdP} {T : World → Prop} {o : Nat} {w0 : World} {gA gO B' : Nat} {tot : List Site} {J : List Value → World → Prop} {todo : List Site} {us : List Fr12} {pre : List Value} {v : Value} {w w' : World}
/-- whatever makes memory alone -/
theorem At12.below (h : At12 Nd o w0 gA gO B' tot J todo us pre v w) (hJ : Abide mine12 B' J) (hb : Below w.heap.size w w') : At12 Nd o w0 gA gO B' tot J todo us pre v w' :=
  ⟨h.base.trans (hb.mono h.base.size), Has.next (show Has _ _ _ _ from h.ob) hb, Has.next (show Has _ _ _ _ from h.bo) hb, owned_next h.ow hb, fun f hf => (h.ls f hf).kf (free := fun _ => false) (Kf.of_below hb (Nat.le_refl _)) rfl, hJ _ _ _ h.j (.of_below hb), h.eq, Nat.le_trans h.sz hb.size, h.low⟩
/-- a spot has been told -/
theorem At12.yielded {s : Site} {y : Value} (h : At12 Nd o w0 gA gO B' tot J (s :: todo) us pre v w) (hj : J (pre ++ [y]) w') (hk : Kf free12 w0.heap.size w w') : At12 Nd o w0 gA gO B' tot J todo us (pre ++ [y]) v w' := by
  obtain ⟨d, h1, h2⟩ := h.eq
  refine ⟨h.base.trans hk.below, hk.boxed h.ob rfl, hk.boxed h.bo rfl, hk.owned h.ow rfl, fun f hf => (h.ls f hf).kf hk rfl, hj, ⟨d ++ [s], by simp [h1], by rw [← h2]; simp⟩, Nat.le_trans h.sz hk.size, h.low⟩
/-- a tree is put on the stack -/
theorem At12.keep (hN : NodeSays Nd) (hO : OrdSays T) (o1 : 1 ≤ o) (o7 : o ≤ 7) (hT : T w0) (hJ : Abide mine12 B' J) (hgO : B' ≤ gO) (t5 : tot.length ≤ 5000) {t : Tr} {p : Option Addr} {hi lo : Option (BitVec 64)} {va vb : Value}
    (h : At12 Nd o w0 gA gO B' tot J (todo ++ t.sites o hi lo) us pre v w) (ht : TreeAt Nd w0 w0.heap.size t p) (ha : HiAt w hi va) (hl : LoAt w lo vb) :
    Calls Tryd.prog 41 #[.pointer p, va, vb, .pointer (some ⟨gA, 0, none⟩), .pointer (some ⟨gO, 0, none⟩)] w fun e w' => (∃ v, e = .returned v) ∧
      ∃ us' v', At12 Nd o w0 gA gO B' tot J todo us' pre v' w' ∧ (∀ g t cs, Has w g t cs → g ≠ gO → some g ≠ v.ownBlock → Has w' g t cs) ∧ Kf mine12 B' w w' ∧ (v'.ownBlock = v.ownBlock ∨ ∀ i, v'.ownBlock = some i → w.heap.size ≤ i) := by
  cases t with
  | e =>
    obtain rfl : p = none := ht
    refine (keep_none va vb _ _ w).mono ?_
    rintro e w' ⟨he, rfl⟩
    have h' : At12 Nd o w0 gA gO B' tot J todo us pre v w := by simpa [Tr.sites] using h
    exact ⟨he, us, v, h', fun _ _ _ hg _ _ => hg, Kf.refl _ _ _, .inl rfl⟩
  | n l k x g r =>
    obtain ⟨a, pl, pr, rfl, hnd, hl1, hr1⟩ := ht
    obtain ⟨F, ca, rfl, -, -⟩ := ha.says
    obtain ⟨G, cb, rfl, -, -⟩ := hl.says
    obtain ⟨d, e1, e2⟩ := h.eq
    have hlen : us.length ≤ 5000 := by
      have h1 := rest12_len o us
      have h2 := congrArg List.length e2
      simp only [List.length_append] at h2
      omega
    refine (keep_some hN hO o o1 o7 w (hO.next hT h.base) a ⟨pl, pr, k, x, g, _, _⟩ (hN.more (hN.next hnd h.base) h.base.size) F G ca cb gA gO B' us.length v _ h.ob h.bo h.ow (by omega) h.sz hgO).mono ?_
    rintro e w' ⟨he, v', hb, hw, hk, hh, hv⟩
    refine ⟨he, ⟨a, l, k, x, g, r, hi, lo, .func (.func F) #[] ca, .func (.func G) #[] cb⟩ :: us, v', ⟨?_, hk.boxed h.ob rfl, hb, ?_, ?_, hJ _ _ _ h.j (.of_kf hk), ⟨d, e1, ?_⟩, Nat.le_trans h.sz hk.size, h.low⟩, hh, hk, hv⟩
    · exact h.base.trans (hk.below.mono h.low)
    · rw [List.reverse_cons, flat12_append, List.length_cons]
      exact hw
    · intro f hf
      rcases List.mem_cons.1 hf with rfl | hf
      · exact ⟨⟨a, pl, pr, rfl, hnd, hl1, hr1⟩, ha.kf hk rfl, hl.kf hk rfl⟩
      · exact (h.ls f hf).kf hk rfl
    · rw [← e2, rest12_cons, List.append_assoc]; rfl
/-- four cells of a row -/
theorem four_at {w : World} {B : Nat} {A : Option Addr} {xs : List Value} (h : Row w B A xs) (k : Nat) (u0 u1 u2 u3 : Value) (h0 : xs[k * 4]? = some u0) (h1 : xs[k * 4 + 1]? = some u1) (h2 : xs[k * 4 + 2]? = some u2) (h3 : xs[k * 4 + 3]? = some u3) :
    ∃ ad, A = some ad ∧ ad.block < B ∧ w.cell? (ad.add (k * 4)) = some u0 ∧ w.cell? ⟨(ad.add (k * 4)).block, (ad.add (k * 4)).off + 1, none⟩ = some u1 ∧ w.cell? ⟨(ad.add (k * 4)).block, (ad.add (k * 4)).off + 2, none⟩ = some u2 ∧ w.cell? ⟨(ad.add (k * 4)).block, (ad.add (k * 4)).off + 3, none⟩ = some u3 := by
  obtain ⟨ad, e, hb, g0⟩ := h _ _ h0
  obtain ⟨ad1, e1, _, g1⟩ := h _ _ h1
  obtain ⟨ad2, e2, _, g2⟩ := h _ _ h2
  obtain ⟨ad3, e3, _, g3⟩ := h _ _ h3
  rw [e] at e1 e2 e3
  cases e1; cases e2; cases e3
  have hn : ∀ j : Nat, j ≠ 0 → (⟨(ad.add (k * 4)).block, (ad.add (k * 4)).off + j, none⟩ : Addr) = ad.add (k * 4 + j) := fun j hj => by
    rw [← add_add]
    generalize ad.add (k * 4) = q
    unfold Addr.add
    rw [if_neg hj]
  exact ⟨ad, e, hb, g0, by rw [hn 1 (by omega)]; exact g1, by rw [hn 2 (by omega)]; exact g2, by rw [hn 3 (by omega)]; exact g3⟩
/-- the last one on the stack, as it lies -/
theorem At12.top {f : Fr12} {A : Option Addr} {n m c : Nat} (h : At12 Nd o w0 gA gO B' tot J todo (f :: us) pre (.slice A n c) w) (hm : us.length = m) :
    ∃ ad, A = some ad ∧ ad.block < w.heap.size ∧ ad.block ≠ gO ∧ w.cell? (ad.add (m * 4)) = some (.pointer (some f.a)) ∧ w.cell? ⟨(ad.add (m * 4)).block, (ad.add (m * 4)).off + 1, none⟩ = some (V (Ordm.code o f.k)) ∧
      w.cell? ⟨(ad.add (m * 4)).block, (ad.add (m * 4)).off + 2, none⟩ = some f.va ∧ w.cell? ⟨(ad.add (m * 4)).block, (ad.add (m * 4)).off + 3, none⟩ = some f.vb := by
  obtain ⟨A', c', e1, -, -, -⟩ := own_slice h.ow
  cases e1
  have ho := h.ow
  rw [List.reverse_cons, flat12_append] at ho
  have hx : (flat12 o us.reverse).length = m * 4 := by rw [flat12_len, List.length_reverse, hm]
  obtain ⟨ad, e, hb, g0, g1, g2, g3⟩ := four_at (Row.of_own ho) m (.pointer (some f.a)) (V (Ordm.code o f.k)) f.va f.vb
    (by rw [List.getElem?_append_right (by omega), hx, Nat.sub_self]; rfl)
    (by rw [List.getElem?_append_right (by omega), hx, Nat.add_sub_cancel_left]; rfl)
    (by rw [List.getElem?_append_right (by omega), hx, Nat.add_sub_cancel_left]; rfl)
    (by rw [List.getElem?_append_right (by omega), hx, Nat.add_sub_cancel_left]; rfl)
  subst e
  exact ⟨ad, rfl, hb, fun e => has_not_row (show Has _ _ _ _ from h.bo) (by decide) h.ow (by rw [← e]; rfl), g0, g1, g2, g3⟩
/-- the last one is taken off -/
theorem At12.pop {f : Fr12} {A : Option Addr} {m n c : Nat} (h : At12 Nd o w0 gA gO B' tot J [] (f :: us) pre (.slice A n c) w) (hm : us.length = m) (hn : m + 1 = n) (hJ : Abide mine12 B' J) (hgO : B' ≤ gO) :
    At12 Nd o w0 gA gO B' tot J (f.t.sites o f.hi f.lo) us pre (.slice A m c) (w.setCell ⟨gO, 0, none⟩ (.slice A m c)) ∧ Lain Nd w0 (w.setCell ⟨gO, 0, none⟩ (.slice A m c)) f := by
  subst hm hn
  have hk : Kf mine12 B' w (w.setCell ⟨gO, 0, none⟩ (.slice A us.length c)) := Kf.store h.bo _ rfl hgO
  have ho := h.ow
  rw [List.reverse_cons, flat12_append] at ho
  have hx : (flat12 o us.reverse).length = us.length * 4 := by rw [flat12_len, List.length_reverse]
  have ht := owned_take ho us.length (by simp)
  rw [← hx, List.take_left] at ht
  refine ⟨⟨h.base.trans (hk.below.mono h.low), hk.boxed h.ob rfl, h.bo.set _, ht.kept (grownBy_setCell' w gO _) (.inr (Ne.symm (has_not_row (show Has _ _ _ _ from h.bo) (by decide) ht))), fun f' hf => (h.ls f' (List.mem_cons_of_mem _ hf)).kf hk rfl, hJ _ _ _ h.j (.of_kf hk), ?_, Nat.le_trans h.sz hk.size, h.low⟩, (h.ls f (List.mem_cons_self ..)).kf hk rfl⟩
  obtain ⟨d, e1, e2⟩ := h.eq
  exact ⟨d, e1, by rw [← e2]; rfl⟩
end
end Go.Proofs.YtfndaeocdgcaeaaDoor
namespace Go.Proofs.YtfndaeocdgcaeaaDoor
open Go.RowKit Go.Shelf Go.Proofs.Treem
attribute [local go_sem] Oper.semAt_some
set_option maxRecDepth 100000
variable {Nd : NdP} {T : World → Prop}

/-- what is told of a spot that is handed over -/
def Told12 (o : Nat) (tot : List Site) (pre : List Value) (y : Value) (W : World) : Prop :=
  ∃ (s : Site) (a : Addr) (va vb : Value), tot[pre.length]? = some s ∧ y = .agg #[.pointer (some a), V (Ordm.code o s.k), va, vb] ∧ HiAt W s.hi va ∧ LoAt W s.lo vb
theorem size_spot12 (W : World) : (sizeOf 57).run Tryd.prog W = .ok 4 W := by kernel_rfl
theorem At12.few {o : Nat} {w0 : World} {gA gO B' : Nat} {tot : List Site} {J : List Value → World → Prop} {todo : List Site} {us : List Fr12} {pre : List Value} {v : Value} {w : World} (h : At12 Nd o w0 gA gO B' tot J todo us pre v w) : us.length ≤ tot.length ∧ pre.length + todo.length + us.length ≤ tot.length := by
  obtain ⟨d, h1, h2⟩ := h.eq
  have h3 := rest12_len o us
  have h4 := congrArg List.length h2
  simp only [List.length_append] at h4
  omega
theorem At12.all {o : Nat} {w0 : World} {gA gO B' : Nat} {tot : List Site} {J : List Value → World → Prop} {pre : List Value} {v : Value} {w : World} (h : At12 Nd o w0 gA gO B' tot J [] [] pre v w) : pre.length = tot.length := by
  obtain ⟨d, h1, h2⟩ := h.eq
  have h4 := congrArg List.length h2
  simp only [List.length_append, rest12, List.flatMap_nil, List.length_nil] at h4
  omega
theorem At12.next {o : Nat} {w0 : World} {gA gO B' : Nat} {tot : List Site} {J : List Value → World → Prop} {s : Site} {todo : List Site} {us : List Fr12} {pre : List Value} {v : Value} {w : World} (h : At12 Nd o w0 gA gO B' tot J (s :: todo) us pre v w) : tot[pre.length]? = some s := by
  obtain ⟨d, h1, h2⟩ := h.eq
  rw [← h2, ← h1, List.getElem?_append_right (Nat.le_refl _), Nat.sub_self]; rfl
set_option maxHeartbeats 8000000 in
theorem spots_turns (hN : NodeSays Nd) (hO : OrdSays T) (o : Nat) (o1 : 1 ≤ o) (o7 : o ≤ 7) (w0 : World) (hT : T w0) (t : Tr) (p : Option Addr) (ht : TreeAt Nd w0 w0.heap.size t p) (h5 : t.size ≤ 5000) (gA gT : Nat) (w : World) (hb0 : Below w0.heap.size w0 w)
    (hA : Boxed w gA 5 (.int .u8 o)) (hP : Boxed w gT 25 (.pointer p)) (n : Nat) :
    SeqTurns mine12 Fence.wide n Tryd.prog 40 #[.pointer (some ⟨gA, 0, none⟩), .pointer (some ⟨gT, 0, none⟩)] (fun y => #[y]) (Kf free12 w0.heap.size) (Told12 o (t.sites o none none)) (fun xs => xs.length = (t.sites o none none).length) w := fun l J Jx W hbW hJ hJx hY hJ0 => by
  obtain ⟨tot, htot⟩ : ∃ s, t.sites o none none = s := ⟨_, rfl⟩
  have t5 : tot.length ≤ 5000 := by rw [← htot, sites_len]; exact h5
  rw [htot] at hY ⊢
  obtain ⟨B', hB'⟩ : ∃ b, W.heap.size = b := ⟨_, rfl⟩
  obtain ⟨gO, hgO⟩ : ∃ b, W.heap.size = b := ⟨_, rfl⟩
  have hOB : B' ≤ gO := by omega
  obtain ⟨W1, hW1⟩ : ∃ W1, W.alloc (.cells #[.slice none 0 0] 83) = W1 := ⟨_, rfl⟩
  have b1 : Below W.heap.size W W1 := hW1 ▸ (Below.refl _ W).alloc (Nat.le_refl _) _
  have bO : Boxed W1 gO 83 (.slice none 0 0) := hgO ▸ hW1 ▸ Boxed.new W _ _
  have bA : Boxed W1 gA 5 (.int .u8 o) := Has.next (Has.next (show Has _ _ _ _ from hA) hbW) b1
  have xP : W1.cell? ⟨gT, 0, none⟩ = some (.pointer p) := keep_cell b1 (keep_cell hbW hP.cell)
  have bw : Below w0.heap.size w0 W := hb0.trans (hbW.mono hb0.size)
  rw [hB'] at hJ hJx hY
  have h1 : At12 Nd o w0 gA gO B' tot J ([] ++ t.sites o none none) [] [] (.slice none 0 0) W1 :=
    ⟨bw.trans (b1.mono bw.size), bA, bO, World.ownsRow_nil _ _ _ _, (fun f hf => by cases hf), hJ _ _ _ hJ0 (.of_below b1), ⟨[], rfl, by simp [rest12, htot]⟩, hB' ▸ b1.size, hB' ▸ bw.size⟩
  have cK := Lib.hid (h1.keep hN hO o1 o7 hT hJ hOB t5 (va := .func (.func 42) #[] #[]) (vb := .func (.func 42) #[] #[]) ht (show HiAt W1 none _ from rfl) (show LoAt W1 none _ from rfl))
  obtain ⟨mu, hmu⟩ := least_there (fun m w => ∃ (us : List Fr12) (pre : List Value) (v : Value), m = tot.length - pre.length ∧ At12 Nd o w0 gA gO B' tot J [] us pre v w)
  have hmu' := Lib.hid hmu
  have HW1 := Lib.hid hW1
  have HGO := Lib.hid hgO
  have hN' := Lib.hid hN
  have hO' := Lib.hid hO
  have hT' := Lib.hid hT
  have hJ' := Lib.hid hJ
  have hY' := Lib.hid hY
  have hOB' := Lib.hid hOB
  have t5' := Lib.hid t5
  clear hmu hW1 hgO hN hO hT hJ hJx hY hOB t5 h1 bw bA bO b1 hJ0 hB' htot ht h5 hb0 hA hP hbW
  refine callsIn_of_wp Tryd.func40 rfl trivial ?_ rfl
  simp only [Tryd.ntmps40, List.size_toArray, List.length_cons, List.length_nil, Nat.reduceAdd, Nat.reduceSub, Array.replicate_succ, Array.replicate_zero, List.push_toArray, List.append_toArray, List.nil_append, List.cons_append]
  refine wpIn_wide.2 ?_
  go_upto_region 2 with (fail)
  rw [HW1.out, HGO.out]
  go_wp2_with fail
  refine cK.out.mono ?_
  rintro e w2 ⟨⟨_, rfl⟩, us2, v2, h2, -, -, -⟩
  have H2 := Lib.hid h2
  clear h2 cK xP
  go_wp2_with fail
  go_loopw [] (fun wr => ∃ (m : Nat) (us : List Fr12) (pre : List Value) (v : Value), m = tot.length - pre.length ∧ At12 Nd o w0 gA gO B' tot J [] us pre v wr) (fun wr => mu wr)
  case atStart => exact ⟨_, _, _, _, rfl, H2.out⟩
  case round =>
    clear H2
    obtain ⟨m, hm⟩ := hrel
    obtain ⟨⟨us, pre, v, em, h3⟩, -⟩ := hmu'.out wr m hm
    obtain ⟨A, c, rfl, hcn, -, -⟩ := own_slice h3.ow
    cases us with
    | nil =>
      have cO : wr.cell? ⟨gO, 0, none⟩ = some (.slice A 0 c) := h3.bo.cell
      have H3 := Lib.hid h3
      clear h3 hm em hcn
      go_wp2_with fail
      go_end0
      exact ⟨⟨_, rfl⟩, .inl ⟨pre, H3.out.all, H3.out.j⟩⟩
    | cons f us =>
      obtain ⟨a, tl, k, x, g, tr, hi, lo, va, vb⟩ := f
      obtain ⟨mm, hmm⟩ : ∃ n, us.length = n := ⟨_, rfl⟩
      obtain ⟨nn, hnn⟩ : ∃ n, mm + 1 = n := ⟨_, rfl⟩
      have hfew := h3.few
      rw [List.length_cons, hmm] at hfew
      have d5 : mm ≤ 5000 := by have := t5'.out; omega
      obtain ⟨ad, rfl, hlt, hnO, g0, g1, g2, g3⟩ := h3.top hmm
      obtain ⟨htr, hhi, hlo⟩ := h3.ls _ (List.mem_cons_self ..)
      obtain ⟨Fa, ca, eva, -, -⟩ := hhi.says
      obtain ⟨Fb, cb, evb, -, -⟩ := hlo.says
      simp only at eva evb g0 g1 g2 g3
      subst eva evb
      obtain ⟨cd, hcd⟩ : ∃ c, Ordm.code o k = c := ⟨_, rfl⟩
      rw [hcd] at g1
      rw [List.length_cons, hmm, hnn] at h3 hcn
      have cO : wr.cell? ⟨gO, 0, none⟩ = some (.slice (some ad) nn c) := h3.bo.cell
      have fO : wr.frozen? ⟨gO, 0, none⟩ = false := h3.bo.frozen
      have e1 : wrap64 ((nn : Int) - 1) = (mm : Int) := by unfold wrap64; omega
      have d1 : decide ((0 : Int) < (nn : Int)) = true := decide_eq_true (by omega)
      have d2 : 0 < nn := by omega
      have hix : mm < nn := by omega
      have ct : ∀ W, (Instr.slice 83 (.slice (some ad) nn c) none (some (.int .i64 (mm : Int))) none).run Tryd.prog W = .ok (.slice (some ad) mm c) W := cut_to Tryd.underlying83 size_spot12 (some ad) nn c mm _ rfl (by omega)
      have H3 := Lib.hid h3
      have hnn' := Lib.hid hnn
      have hmm' := Lib.hid hmm
      have hcd' := Lib.hid hcd
      have em' := Lib.hid em
      have htr' := Lib.hid htr
      have hfew' := Lib.hid hfew
      have hlt' := Lib.hid hlt
      clear h3 hm em hcn hnn hmm hcd htr hhi hlo hfew hlt
      go_upto_region 6 with (fail)
      rw [e1]
      obtain ⟨gS, hgS⟩ : ∃ g, wr.heap.size = g := ⟨_, rfl⟩
      obtain ⟨wa, hwa⟩ : ∃ wa, wr.alloc (.cells #[.pointer (some a), .int .u64 (cd.toNat : Int), .func (.func Fa) #[] ca, .func (.func Fb) #[] cb] 57) = wa := ⟨_, rfl⟩
      rw [hwa, hgS]
      have bwa : Below wr.heap.size wr wa := hwa ▸ (Below.refl _ wr).alloc (Nat.le_refl _) _
      have sa : Has wa gS 57 #[.pointer (some a), V cd, .func (.func Fa) #[] ca, .func (.func Fb) #[] cb] := hgS ▸ hwa ▸ Has.new wr _ _
      have H4 := H3.out.below hJ'.out bwa
      have cOa := H4.bo.cell
      have fOa := H4.bo.frozen
      have nSO : gS ≠ gO := by have := H3.out.bo.lt; omega
      have nS : some gS ≠ (Value.slice (some ad) mm c).ownBlock := by
        have := hlt'.out
        intro e
        have e : gS = ad.block := by simpa [Value.ownBlock] using e
        omega
      have H5 := H4.pop hmm'.out hnn'.out hJ'.out hOB'.out
      have sb : Has (wa.setCell ⟨gO, 0, none⟩ (.slice (some ad) mm c)) gS 57 #[.pointer (some a), V cd, .func (.func Fa) #[] ca, .func (.func Fb) #[] cb] := sa.far (p := ⟨gO, 0, none⟩) nSO _
      obtain ⟨wb, hwb⟩ : ∃ wb, wa.setCell ⟨gO, 0, none⟩ (.slice (some ad) mm c) = wb := ⟨_, rfl⟩
      rw [hwb] at H5 sb
      have HWB := Lib.hid hwb
      have H5' := Lib.hid H5
      have SB := Lib.hid sb
      have nSO' := Lib.hid nSO
      have nS' := Lib.hid nS
      clear cO fO g0 g1 g2 g3 e1 d1 d2 hnO H3 H4 H5 hwa hgS hwb bwa sa sb nSO nS hlt'
      go_upto_region 7 with (fail)
      rw [HWB.out]
      have y0 := SB.out.cell 0
      have y1 := SB.out.cell 1
      have y2 := SB.out.cell 2
      have y3 := SB.out.cell 3
      simp only [List.getElem?_toArray, List.getElem?_cons_zero, List.getElem?_cons_succ] at y0 y1 y2 y3
      have hTold : Told12 o tot pre (.agg #[.pointer (some a), V cd, .func (.func Fa) #[] ca, .func (.func Fb) #[] cb]) wb :=
        ⟨⟨k, hi, lo⟩, a, _, _, H5'.out.1.next, by rw [hcd'.out], H5'.out.2.hi, H5'.out.2.lo⟩
      obtain ⟨fnY, tmY, asY, bdY, hyv, hR⟩ := round_any (m' := 0) (hY'.out pre _ wb H5'.out.1.j hTold)
      have hR' := Lib.hid hR
      clear hR hTold cOa fOa ct
      refine (wpIn_wide (n := 0)).1 ?_
      gi_wp2
      refine ⟨rfl, ?_⟩
      refine hR'.out.mono ?_
      clear hR' hyv
      rintro e wy ⟨⟨rfl, hj, hk⟩ | ⟨rfl, hx⟩, -⟩
      · have HY := Lib.hid (H5'.out.1.yielded hj hk)
        have LY := Lib.hid (H5'.out.2.kf hk rfl)
        have SY : Has wy gS 57 #[.pointer (some a), V cd, .func (.func Fa) #[] ca, .func (.func Fb) #[] cb] := hk.has SB.out rfl
        obtain ⟨a', pl, pr, ha', hnd, hl, hr⟩ := htr'.out
        cases ha'
        have bY := HY.out.base
        have cT : Hid (∀ U, Below wy.heap.size wy U → Calls Tryd.prog 17 #[.pointer (some a)] U fun e w' => e = .returned (.pointer pr) ∧ U = w') := fun U hU => hN'.out.right U w0.heap.size a _ (hN'.out.next hnd (bY.trans (hU.mono bY.size)))
        have cR : Hid (∀ U vL, Below wy.heap.size wy U → LoAt U (some cd) vL → Calls Tryd.prog 41 #[.pointer pr, .func (.func Fa) #[] ca, vL, .pointer (some ⟨gA, 0, none⟩), .pointer (some ⟨gO, 0, none⟩)] U fun e w' => (∃ v, e = .returned v) ∧
            ∃ us' v', At12 Nd o w0 gA gO B' tot J (tl.sites o (some cd) lo) us' (pre ++ [.agg #[.pointer (some a), V cd, .func (.func Fa) #[] ca, .func (.func Fb) #[] cb]]) v' w' ∧ (∀ g t cs, Has U g t cs → g ≠ gO → some g ≠ (Value.slice (some ad) mm c).ownBlock → Has w' g t cs) ∧ Kf mine12 B' U w' ∧
              (v'.ownBlock = (Value.slice (some ad) mm c).ownBlock ∨ ∀ i, v'.ownBlock = some i → U.heap.size ≤ i)) := fun U vL hU hL =>
          (show At12 Nd o w0 gA gO B' tot J (tl.sites o (some cd) lo ++ tr.sites o hi (some cd)) us _ _ U from hcd'.out ▸ (HY.out.below hJ'.out hU)).keep hN'.out hO'.out o1 o7 hT'.out hJ'.out hOB'.out t5'.out hr (LY.out.hi.below hU) hL
        have y0 := SY.cell 0
        have y1 := SY.cell 1
        have y2 := SY.cell 2
        have y3 := SY.cell 3
        simp only [List.getElem?_toArray, List.getElem?_cons_zero, List.getElem?_cons_succ] at y0 y1 y2 y3
        have hl' := Lib.hid hl
        have hnd' := Lib.hid hnd
        have SY' := Lib.hid SY
        have bY' := Lib.hid bY
        clear hj hk hnd hl hr SY bY
        gi_wp2
        go_wp2_with fail
        refine wp_region_held_drew (S := fun u => u.cell? ⟨gS, 0, none⟩ = some (.pointer (some a)) ∧ u.cell? ⟨gS, 1, none⟩ = some (V cd) ∧ u.cell? ⟨gS, 2, none⟩ = some (.func (.func Fa) #[] ca) ∧ u.cell? ⟨gS, 3, none⟩ = some (.func (.func Fb) #[] cb)) (by kernel_rfl) ⟨y0, y1, y2, y3⟩ (fun hS => ?_)
        refine wpAnyH_take (i := 0) (oi := ?dqr1q0) (v := ?dvr1q0) ?hir1q0 (by kernel_rfl) (by kernel_rfl) (by kernel_rfl) ?hQr1q0 (Or.inl ⟨?hwr1q0, ?hyr1q0⟩) hS ?hrr1q0
        case hir1q0 => simp only [List.getElem?_toArray, List.getElem?_cons_zero]; rfl
        case hQr1q0 => exact fun _ _ _ h => h
        case hwr1q0 => rfl
        case hyr1q0 => (intro w hSw; (try dsimp only at hSw); go_simp; (try with_reducible rfl))
        simp only [Act.put, List.setIfInBounds_toArray, List.set_cons_zero, List.set_cons_succ]
        refine wpAnyH_take (i := 1) (oi := ?dqr1q1) (v := ?dvr1q1) ?hir1q1 (by kernel_rfl) (by kernel_rfl) (by kernel_rfl) ?hQr1q1 (Or.inl ⟨?hwr1q1, ?hyr1q1⟩) hS ?hrr1q1
        case hir1q1 => simp only [List.getElem?_toArray, List.getElem?_cons_succ, List.getElem?_cons_zero]; rfl
        case hQr1q1 => exact fun _ _ _ h => h
        case hwr1q1 => rfl
        case hyr1q1 => (intro w hSw; (try dsimp only at hSw); go_simp; (try with_reducible rfl))
        simp only [Act.put, List.setIfInBounds_toArray, List.set_cons_zero, List.set_cons_succ]
        refine wpAnyH_take (i := 2) (oi := ?dqr1q2) (v := ?dvr1q2) ?hir1q2 (by kernel_rfl) (by kernel_rfl) (by kernel_rfl) ?hQr1q2 (Or.inl ⟨?hwr1q2, ?hyr1q2⟩) hS ?hrr1q2
        case hir1q2 => simp only [List.getElem?_toArray, List.getElem?_cons_succ, List.getElem?_cons_zero]; rfl
        case hQr1q2 => exact fun _ _ _ h => h
        case hwr1q2 => rfl
        case hyr1q2 => (intro w hSw; (try dsimp only at hSw); go_simp; (try with_reducible rfl))
        simp only [Act.put, List.setIfInBounds_toArray, List.set_cons_zero, List.set_cons_succ]
        refine wpAnyH_take (i := 4) (oi := ?dqr1q4) (v := ?dvr1q4) ?hir1q4 (by kernel_rfl) (by kernel_rfl) (by kernel_rfl) ?hQr1q4 (Or.inl ⟨?hwr1q4, ?hyr1q4⟩) hS ?hrr1q4
        case hir1q4 => simp only [List.getElem?_toArray, List.getElem?_cons_succ, List.getElem?_cons_zero]; rfl
        case hQr1q4 => exact fun _ _ _ h => h
        case hwr1q4 => rfl
        case hyr1q4 => (intro w hSw; (try dsimp only at hSw); go_simp; (try with_reducible rfl))
        simp only [Act.put, List.setIfInBounds_toArray, List.set_cons_zero, List.set_cons_succ]
        refine wpAnyH_take (i := 5) (oi := ?dqr1q5) (v := ?dvr1q5) ?hir1q5 (by kernel_rfl) (by kernel_rfl) (by kernel_rfl) ?hQr1q5 (Or.inl ⟨?hwr1q5, ?hyr1q5⟩) hS ?hrr1q5
        case hir1q5 => simp only [List.getElem?_toArray, List.getElem?_cons_succ, List.getElem?_cons_zero]; rfl
        case hQr1q5 => exact fun _ _ _ h => h
        case hwr1q5 => rfl
        case hyr1q5 => (intro w hSw; (try dsimp only at hSw); go_simp; (try with_reducible rfl))
        simp only [Act.put, List.setIfInBounds_toArray, List.set_cons_zero, List.set_cons_succ]
        refine wpAnyH_take (i := 6) (oi := ?dqr1q6) (v := ?dvr1q6) ?hir1q6 (by kernel_rfl) (by kernel_rfl) (by kernel_rfl) ?hQr1q6 (Or.inl ⟨?hwr1q6, ?hyr1q6⟩) hS ?hrr1q6
        case hir1q6 => simp only [List.getElem?_toArray, List.getElem?_cons_succ, List.getElem?_cons_zero]; rfl
        case hQr1q6 => exact fun _ _ _ h => h
        case hwr1q6 => rfl
        case hyr1q6 => (intro w hSw; (try dsimp only at hSw); go_simp; (try with_reducible rfl))
        simp only [Act.put, List.setIfInBounds_toArray, List.set_cons_zero, List.set_cons_succ]
        refine wpAnyH_take (i := 7) (oi := ?dqr1q7) (v := ?dvr1q7) ?hir1q7 (by kernel_rfl) (by kernel_rfl) (by kernel_rfl) ?hQr1q7 (Or.inl ⟨?hwr1q7, ?hyr1q7⟩) hS ?hrr1q7
        case hir1q7 => simp only [List.getElem?_toArray, List.getElem?_cons_succ, List.getElem?_cons_zero]; rfl
        case hQr1q7 => exact fun _ _ _ h => h
        case hwr1q7 => rfl
        case hyr1q7 => (intro w hSw; (try dsimp only at hSw); go_simp; (try with_reducible rfl))
        simp only [Act.put, List.setIfInBounds_toArray, List.set_cons_zero, List.set_cons_succ]
        refine wpAnyH_ready (rs := [3]) (by kernel_rfl) (by simp) ?_
        refine AllReadyH.cons (o := ?dqr1q3) ?hir1q3 (fun K hK => ?_) AllReadyH.nil
        case hir1q3 => simp only [List.getElem?_toArray, List.getElem?_cons_succ, List.getElem?_cons_zero]; rfl
        go_simp
        go_at_call 17
        (with_reducible refine (cT.out _ (Below.refl wy.heap.size wy).drew).mono ?_)
        rintro e w'' ⟨rfl, rfl⟩
        have hS2 := hS
        clear hS
        refine hK.out _ _ hS2 (fun hS => ?_)
        clear hS2 hK K
        try simp only [Act.put, List.setIfInBounds_toArray, List.set_cons_zero, List.set_cons_succ]
        refine wpAnyH_ready (rs := [8]) (by kernel_rfl) (by simp) ?_
        refine AllReadyH.cons (o := ?dqr1q8) ?hir1q8 (fun K hK => ?_) AllReadyH.nil
        case hir1q8 => simp only [List.getElem?_toArray, List.getElem?_cons_succ, List.getElem?_cons_zero]; rfl
        go_simp
        go_at_call 43
        (with_reducible refine (behindOf_any cd _).mono ?_)
        rintro e uL8 ⟨vL8, rfl, hL, hb⟩
        have hL8 := Lib.hid hL
        have bL8 : Hid (Below wy.heap.size wy uL8) := Below.after (Below.refl wy.heap.size wy).drew hb
        have hS2 := (And.intro (keep_cell hb hS.1) (And.intro (keep_cell hb hS.2.1) (And.intro (keep_cell hb hS.2.2.1) (keep_cell hb hS.2.2.2))))
        clear hS
        refine hK.out _ _ hS2 (fun hS => ?_)
        clear hS2 hK K
        try simp only [Act.put, List.setIfInBounds_toArray, List.set_cons_zero, List.set_cons_succ]
        refine wpAnyH_ready (rs := [9]) (by kernel_rfl) (by simp) ?_
        refine AllReadyH.cons (o := ?dqr1q9) ?hir1q9 (fun K hK => ?_) AllReadyH.nil
        case hir1q9 => simp only [List.getElem?_toArray, List.getElem?_cons_succ, List.getElem?_cons_zero]; rfl
        go_simp
        refine (cR.out _ _ bL8.out hL8.out).mono ?_
        rintro e u8 ⟨⟨_, rfl⟩, us8, v8, h8, hh8, hk8, hv8⟩
        have H8 := Lib.hid h8
        have G8 := Lib.hid (hh8 gS _ _ (SY'.out.next bL8.out) nSO'.out nS'.out)
        have L8 := Lib.hid ((LY.out.kf (free := fun _ => false) (Kf.of_below bL8.out (Nat.le_refl _)) rfl).kf hk8 rfl)
        have nS8 : Hid (some gS ≠ v8.ownBlock) := hv8.elim (fun e => by rw [e]; exact nS'.out) (fun h e => absurd (h gS e.symm) (by have := (SY'.out.next bL8.out).lt; omega))
        clear h8 hh8 hk8 hv8
        have hS2 := (⟨G8.out.cell 0, G8.out.cell 1, G8.out.cell 2, G8.out.cell 3⟩ : u8.cell? ⟨gS, 0, none⟩ = some (.pointer (some a)) ∧ u8.cell? ⟨gS, 1, none⟩ = some (V cd) ∧ u8.cell? ⟨gS, 2, none⟩ = some (.func (.func Fa) #[] ca) ∧ u8.cell? ⟨gS, 3, none⟩ = some (.func (.func Fb) #[] cb))
        clear hS
        refine hK.out _ _ hS2 (fun hS => ?_)
        clear hS2 hK K
        try simp only [Act.put, List.setIfInBounds_toArray, List.set_cons_zero, List.set_cons_succ]
        refine wpAnyH_done (by kernel_rfl) ?_ _
        have cT : Hid (∀ U, Below u8.heap.size u8 U → Calls Tryd.prog 16 #[.pointer (some a)] U fun e w' => e = .returned (.pointer pl) ∧ U = w') := fun U hU => hN'.out.left U w0.heap.size a _ (hN'.out.next hnd'.out (H8.out.base.trans (hU.mono H8.out.base.size)))
        have cL : Hid (∀ U vL, Below u8.heap.size u8 U → HiAt U (some cd) vL → Calls Tryd.prog 41 #[.pointer pl, vL, .func (.func Fb) #[] cb, .pointer (some ⟨gA, 0, none⟩), .pointer (some ⟨gO, 0, none⟩)] U fun e w' => (∃ v, e = .returned v) ∧
            ∃ us' v', At12 Nd o w0 gA gO B' tot J [] us' (pre ++ [.agg #[.pointer (some a), V cd, .func (.func Fa) #[] ca, .func (.func Fb) #[] cb]]) v' w' ∧ (∀ g t cs, Has U g t cs → g ≠ gO → some g ≠ v8.ownBlock → Has w' g t cs) ∧ Kf mine12 B' U w' ∧
              (v'.ownBlock = v8.ownBlock ∨ ∀ i, v'.ownBlock = some i → U.heap.size ≤ i)) := fun U vL hU hL =>
          (show At12 Nd o w0 gA gO B' tot J ([] ++ tl.sites o (some cd) lo) us8 _ _ U from H8.out.below hJ'.out hU).keep hN'.out hO'.out o1 o7 hT'.out hJ'.out hOB'.out t5'.out hl'.out hL (L8.out.lo.below hU)
        have y0 := hS.1
        have y1 := hS.2.1
        have y2 := hS.2.2.1
        have y3 := hS.2.2.2
        clear hS
        go_wp2_with fail
        refine wp_region_held_drew (S := fun u => u.cell? ⟨gS, 0, none⟩ = some (.pointer (some a)) ∧ u.cell? ⟨gS, 1, none⟩ = some (V cd) ∧ u.cell? ⟨gS, 2, none⟩ = some (.func (.func Fa) #[] ca) ∧ u.cell? ⟨gS, 3, none⟩ = some (.func (.func Fb) #[] cb)) (by kernel_rfl) ⟨y0, y1, y2, y3⟩ (fun hS => ?_)
        refine wpAnyH_take (i := 0) (oi := ?dqr2q0) (v := ?dvr2q0) ?hir2q0 (by kernel_rfl) (by kernel_rfl) (by kernel_rfl) ?hQr2q0 (Or.inl ⟨?hwr2q0, ?hyr2q0⟩) hS ?hrr2q0
        case hir2q0 => simp only [List.getElem?_toArray, List.getElem?_cons_zero]; rfl
        case hQr2q0 => exact fun _ _ _ h => h
        case hwr2q0 => rfl
        case hyr2q0 => (intro w hSw; (try dsimp only at hSw); go_simp; (try with_reducible rfl))
        simp only [Act.put, List.setIfInBounds_toArray, List.set_cons_zero, List.set_cons_succ]
        refine wpAnyH_take (i := 1) (oi := ?dqr2q1) (v := ?dvr2q1) ?hir2q1 (by kernel_rfl) (by kernel_rfl) (by kernel_rfl) ?hQr2q1 (Or.inl ⟨?hwr2q1, ?hyr2q1⟩) hS ?hrr2q1
        case hir2q1 => simp only [List.getElem?_toArray, List.getElem?_cons_succ, List.getElem?_cons_zero]; rfl
        case hQr2q1 => exact fun _ _ _ h => h
        case hwr2q1 => rfl
        case hyr2q1 => (intro w hSw; (try dsimp only at hSw); go_simp; (try with_reducible rfl))
        simp only [Act.put, List.setIfInBounds_toArray, List.set_cons_zero, List.set_cons_succ]
        refine wpAnyH_take (i := 2) (oi := ?dqr2q2) (v := ?dvr2q2) ?hir2q2 (by kernel_rfl) (by kernel_rfl) (by kernel_rfl) ?hQr2q2 (Or.inl ⟨?hwr2q2, ?hyr2q2⟩) hS ?hrr2q2
        case hir2q2 => simp only [List.getElem?_toArray, List.getElem?_cons_succ, List.getElem?_cons_zero]; rfl
        case hQr2q2 => exact fun _ _ _ h => h
        case hwr2q2 => rfl
        case hyr2q2 => (intro w hSw; (try dsimp only at hSw); go_simp; (try with_reducible rfl))
        simp only [Act.put, List.setIfInBounds_toArray, List.set_cons_zero, List.set_cons_succ]
        refine wpAnyH_take (i := 4) (oi := ?dqr2q4) (v := ?dvr2q4) ?hir2q4 (by kernel_rfl) (by kernel_rfl) (by kernel_rfl) ?hQr2q4 (Or.inl ⟨?hwr2q4, ?hyr2q4⟩) hS ?hrr2q4
        case hir2q4 => simp only [List.getElem?_toArray, List.getElem?_cons_succ, List.getElem?_cons_zero]; rfl
        case hQr2q4 => exact fun _ _ _ h => h
        case hwr2q4 => rfl
        case hyr2q4 => (intro w hSw; (try dsimp only at hSw); go_simp; (try with_reducible rfl))
        simp only [Act.put, List.setIfInBounds_toArray, List.set_cons_zero, List.set_cons_succ]
        refine wpAnyH_take (i := 5) (oi := ?dqr2q5) (v := ?dvr2q5) ?hir2q5 (by kernel_rfl) (by kernel_rfl) (by kernel_rfl) ?hQr2q5 (Or.inl ⟨?hwr2q5, ?hyr2q5⟩) hS ?hrr2q5
        case hir2q5 => simp only [List.getElem?_toArray, List.getElem?_cons_succ, List.getElem?_cons_zero]; rfl
        case hQr2q5 => exact fun _ _ _ h => h
        case hwr2q5 => rfl
        case hyr2q5 => (intro w hSw; (try dsimp only at hSw); go_simp; (try with_reducible rfl))
        simp only [Act.put, List.setIfInBounds_toArray, List.set_cons_zero, List.set_cons_succ]
        refine wpAnyH_take (i := 7) (oi := ?dqr2q7) (v := ?dvr2q7) ?hir2q7 (by kernel_rfl) (by kernel_rfl) (by kernel_rfl) ?hQr2q7 (Or.inl ⟨?hwr2q7, ?hyr2q7⟩) hS ?hrr2q7
        case hir2q7 => simp only [List.getElem?_toArray, List.getElem?_cons_succ, List.getElem?_cons_zero]; rfl
        case hQr2q7 => exact fun _ _ _ h => h
        case hwr2q7 => rfl
        case hyr2q7 => (intro w hSw; (try dsimp only at hSw); go_simp; (try with_reducible rfl))
        simp only [Act.put, List.setIfInBounds_toArray, List.set_cons_zero, List.set_cons_succ]
        refine wpAnyH_take (i := 8) (oi := ?dqr2q8) (v := ?dvr2q8) ?hir2q8 (by kernel_rfl) (by kernel_rfl) (by kernel_rfl) ?hQr2q8 (Or.inl ⟨?hwr2q8, ?hyr2q8⟩) hS ?hrr2q8
        case hir2q8 => simp only [List.getElem?_toArray, List.getElem?_cons_succ, List.getElem?_cons_zero]; rfl
        case hQr2q8 => exact fun _ _ _ h => h
        case hwr2q8 => rfl
        case hyr2q8 => (intro w hSw; (try dsimp only at hSw); go_simp; (try with_reducible rfl))
        simp only [Act.put, List.setIfInBounds_toArray, List.set_cons_zero, List.set_cons_succ]
        refine wpAnyH_ready (rs := [3]) (by kernel_rfl) (by simp) ?_
        refine AllReadyH.cons (o := ?dqr2q3) ?hir2q3 (fun K hK => ?_) AllReadyH.nil
        case hir2q3 => simp only [List.getElem?_toArray, List.getElem?_cons_succ, List.getElem?_cons_zero]; rfl
        go_simp
        go_at_call 16
        (with_reducible refine (cT.out _ (Below.refl u8.heap.size u8).drew).mono ?_)
        rintro e w'' ⟨rfl, rfl⟩
        have hS2 := hS
        clear hS
        refine hK.out _ _ hS2 (fun hS => ?_)
        clear hS2 hK K
        try simp only [Act.put, List.setIfInBounds_toArray, List.set_cons_zero, List.set_cons_succ]
        refine wpAnyH_ready (rs := [6]) (by kernel_rfl) (by simp) ?_
        refine AllReadyH.cons (o := ?dqr2q6) ?hir2q6 (fun K hK => ?_) AllReadyH.nil
        case hir2q6 => simp only [List.getElem?_toArray, List.getElem?_cons_succ, List.getElem?_cons_zero]; rfl
        go_simp
        go_at_call 44
        (with_reducible refine (aheadOf_any cd _).mono ?_)
        rintro e uL9 ⟨vL9, rfl, hL, hb⟩
        have hL9 := Lib.hid hL
        have bL9 : Hid (Below u8.heap.size u8 uL9) := Below.after (Below.refl u8.heap.size u8).drew hb
        have hS2 := (And.intro (keep_cell hb hS.1) (And.intro (keep_cell hb hS.2.1) (And.intro (keep_cell hb hS.2.2.1) (keep_cell hb hS.2.2.2))))
        clear hS
        refine hK.out _ _ hS2 (fun hS => ?_)
        clear hS2 hK K
        try simp only [Act.put, List.setIfInBounds_toArray, List.set_cons_zero, List.set_cons_succ]
        refine wpAnyH_ready (rs := [9]) (by kernel_rfl) (by simp) ?_
        refine AllReadyH.cons (o := ?dqr2q9) ?hir2q9 (fun K hK => ?_) AllReadyH.nil
        case hir2q9 => simp only [List.getElem?_toArray, List.getElem?_cons_succ, List.getElem?_cons_zero]; rfl
        go_simp
        refine (cL.out _ _ bL9.out hL9.out).mono ?_
        rintro e u9 ⟨⟨_, rfl⟩, us9, v9, h9, hh9, -, -⟩
        have H9 := Lib.hid h9
        have G9 := Lib.hid (hh9 gS _ _ (G8.out.next bL9.out) nSO'.out nS8.out)
        clear h9 hh9
        have hS2 := (⟨G9.out.cell 0, G9.out.cell 1, G9.out.cell 2, G9.out.cell 3⟩ : u9.cell? ⟨gS, 0, none⟩ = some (.pointer (some a)) ∧ u9.cell? ⟨gS, 1, none⟩ = some (V cd) ∧ u9.cell? ⟨gS, 2, none⟩ = some (.func (.func Fa) #[] ca) ∧ u9.cell? ⟨gS, 3, none⟩ = some (.func (.func Fb) #[] cb))
        clear hS
        refine hK.out _ _ hS2 (fun hS => ?_)
        clear hS2 hK K
        try simp only [Act.put, List.setIfInBounds_toArray, List.set_cons_zero, List.set_cons_succ]
        refine wpAnyH_done (by kernel_rfl) ?_ _
        clear hS y0 y1 y2 y3
        have hm := Lib.hid (hmu'.out _ _ ⟨_, _, _, rfl, H9.out⟩)
        have hlen := H9.out.few
        go_wp2_with fail
        go_roundw
        case rel => exact ⟨_, (hm.out).1⟩
        case measure =>
          have h1 := hm.out.2
          have h2 := em'.out
          have h3 := hfew'.out
          simp only [List.length_append, List.length_cons, List.length_nil] at h1 h3
          omega
      · have hx' := Lib.hid hx
        clear hx
        gi_wp2
        go_wp2_with fail
        exact bodyPost_ret (results_none rfl _ _ _) rfl ⟨⟨_, rfl⟩, .inr ⟨_, hx'.out⟩⟩
end Go.Proofs.YtfndaeocdgcaeaaDoor
