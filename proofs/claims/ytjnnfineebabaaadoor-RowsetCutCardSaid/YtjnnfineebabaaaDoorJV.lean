/- The chapter's examples of layer 5 stand: what each statement of it asks ahead of all else. -/
import Derived.Test.YtjnnfineebabaaaDoorJT
import Derived.Test.YtjnnfineebabaaaDoorJS
/- What is said of a key, made a pair; what stays of two rows. -/
namespace Go.Proofs.YtjnnfineebabaaaDoor
open Go.RowKit Go.Shelf Go.Proofs.Rowm
attribute [local go_sem] Oper.semAt_some

/-- the value of a key, by a policy -/
def valE (p : Nat) : Ov × Ov → BitVec 64
  | (some x, some y) => Foldm.cmb p x y
  | (some x, none) => x
  | (none, some y) => y
  | (none, none) => 0#64
/-- what is said of a key, made a pair -/
def pairE (p : Nat) (e : En) : Pr := match e.2 with
  | (none, none) => (0#64, 0#64)
  | _ => (e.1, valE p e.2)
theorem pairE_of {p : Nat} {e : En} (h : e.2.1 ≠ none ∨ e.2.2 ≠ none) : pairE p e = (e.1, valE p e.2) := by
  obtain ⟨k, x, y⟩ := e
  cases x <;> cases y <;> simp [pairE] at h ⊢
/-- those that stay -/
def staysL (p : Nat) (st : Bool → Bool → Bool) (w : List En) : List Pr := w.filterMap fun e => if st e.2.1.isSome e.2.2.isSome then some (pairE p e) else none
theorem staysL_snoc (p : Nat) (st : Bool → Bool → Bool) (w : List En) (e : En) : staysL p st (w ++ [e]) = if st e.2.1.isSome e.2.2.isSome then staysL p st w ++ [pairE p e] else staysL p st w := by
  unfold staysL
  rw [List.filterMap_append]
  by_cases h : st e.2.1.isSome e.2.2.isSome = true
  · rw [if_pos h, List.filterMap_cons, if_pos h]; rfl
  · rw [if_neg h, List.filterMap_cons, if_neg h]; simp
theorem staysL_le (p : Nat) (st : Bool → Bool → Bool) (w : List En) : (staysL p st w).length ≤ w.length := List.length_filterMap_le _ _
theorem fm_congr {α β : Type} {f g : α → Option β} : ∀ {l : List α}, (∀ x ∈ l, f x = g x) → l.filterMap f = l.filterMap g
  | [], _ => rfl
  | x :: l, h => by rw [List.filterMap_cons, List.filterMap_cons, h x List.mem_cons_self, fm_congr fun y hy => h y (List.mem_cons_of_mem _ hy)]
theorem stays_is {o p : Nat} {st : Bool → Bool → Bool} {f : Ov → Ov → Ov} {a b : List Pr} (ha : incr o a) (hb : incr o b) (h : ∀ x y, (x ≠ none ∨ y ≠ none) → f x y = if st x.isSome y.isSome then some (valE p (x, y)) else none) : staysL p st (walk o a b) = pair2 o f a b := by
  unfold staysL pair2 stay
  refine fm_congr fun e he => ?_
  obtain ⟨_, _, hn⟩ := (mem_walk a b ha hb e).1 he
  rw [h _ _ hn]
  by_cases hs : st e.2.1.isSome e.2.2.isSome = true
  · rw [if_pos hs, if_pos hs, pairE_of hn]; rfl
  · rw [if_neg hs, if_neg hs]; rfl
section
variable {o p : Nat} {a b : List Pr} (ha : incr o a) (hb : incr o b)
include ha hb
theorem stays_union : staysL p (fun _ _ => true) (walk o a b) = unionL o p a b := stays_is ha hb fun x y h => by cases x <;> cases y <;> simp [come, valE] at h ⊢
theorem stays_meet : staysL p (fun x y => x && y) (walk o a b) = meetL o p a b := stays_is ha hb fun x y h => by cases x <;> cases y <;> simp [meet2, valE] at h ⊢
theorem stays_less : staysL p (fun _ y => !y) (walk o a b) = lessL o a b := stays_is ha hb fun x y h => by cases x <;> cases y <;> simp [less2, valE] at h ⊢
theorem stays_apart : staysL p (fun x y => x != y) (walk o a b) = apartL o a b := stays_is ha hb fun x y h => by cases x <;> cases y <;> simp [apart2, valE] at h ⊢
end

set_option maxRecDepth 100000 in
set_option maxHeartbeats 1000000 in
theorem pair_first (k x : BitVec 64) (p : Int) (w : World) : Calls Tryd.prog 54 #[.agg #[.bool true, .bool false, K k, K x, K 0#64, K 0#64], .int .u8 p] w fun e w' => e = .returned (pV (k, x)) ∧ Below w.heap.size w w' := by
  go_enter Tryd.func54, Tryd.ntmps54
  go_wp2
  refine bodyPost_ret (v := pV (k, x)) (by simp [results, Tryd.results54, go_sem]) rfl ⟨rfl, ?_⟩
  exact ((Below.refl _ _).alloc (Nat.le_refl _) _).alloc (by simp) _
set_option maxRecDepth 100000 in
set_option maxHeartbeats 1000000 in
theorem pair_second (k y : BitVec 64) (b : Bool) (p : Int) (w : World) : Calls Tryd.prog 54 #[.agg #[.bool false, .bool b, K 0#64, K 0#64, K k, K y], .int .u8 p] w fun e w' => e = .returned (pV (k, y)) ∧ Below w.heap.size w w' := by
  go_enter Tryd.func54, Tryd.ntmps54
  go_wp2
  refine bodyPost_ret (v := pV (k, y)) (by simp [results, Tryd.results54, go_sem]) rfl ⟨rfl, ?_⟩
  exact ((Below.refl _ _).alloc (Nat.le_refl _) _).alloc (by simp) _
set_option maxRecDepth 100000 in
set_option maxHeartbeats 1000000 in
theorem pair_both (k x y z : BitVec 64) (p : Nat) (p1 : 1 ≤ p) (p3 : p ≤ 3) (hz : Foldm.cmb p x y = z) (w : World) : Calls Tryd.prog 54 #[.agg #[.bool true, .bool true, K k, K x, K k, K y], .int .u8 p] w fun e w' => e = .returned (pV (k, z)) ∧ Below w.heap.size w w' := by
  have hz' := Lib.hid hz
  clear hz
  go_enter Tryd.func54, Tryd.ntmps54
  go_wp2_with fail
  have bw : Hid (Below w.heap.size w ((w.alloc (.cells #[.bool true, .bool true, K k, K x, K k, K y] 84)).alloc (.cells #[K 0#64, K 0#64] 42))) := ((Below.refl _ _).alloc (Nat.le_refl _) _).alloc (by simp) _
  have g1 := (Has.new w 84 #[.bool true, .bool true, K k, K x, K k, K y]).alloc (.cells #[K 0#64, K 0#64] 42)
  have g2 := Has.new (w.alloc (.cells #[.bool true, .bool true, K k, K x, K k, K y] 84)) 42 #[K 0#64, K 0#64]
  obtain ⟨W, hW⟩ : ∃ W, (w.alloc (.cells #[.bool true, .bool true, K k, K x, K k, K y] 84)).alloc (.cells #[K 0#64, K 0#64] 42) = W := ⟨_, rfl⟩
  rw [hW] at bw g1 g2
  rw [show (w.alloc (.cells #[.bool true, .bool true, K k, K x, K k, K y] 84)).alloc (.cells #[.int .i64 0, .int .i64 0] 42) = W from hW]
  rw [World.size_alloc] at g2
  have g1' := Lib.hid g1
  have g2' := Lib.hid g2
  clear hW g1 g2
  (with_reducible refine (combine_named p1 p3 hz'.out _).mono ?_)
  rintro e w1 ⟨rfl, hb⟩
  have h1 := g1'.out.next hb
  have h2 := g2'.out.next hb
  have c2 := h1.cell 2
  have c3 := h1.cell 3
  have f3 := h1.free 3
  have d0 := h2.cell 0
  have d1 := h2.cell 1
  have q0 := h2.free 0
  have q1 := h2.free 1
  simp only [List.getElem?_toArray, List.getElem?_cons_zero, List.getElem?_cons_succ] at c2 c3 d0 d1
  have b1 := Lib.hid (bw.out.trans (hb.mono bw.out.size))
  clear h1 h2 hb g1' g2' bw
  go_wp2
  refine bodyPost_ret (v := pV (k, z)) (by simp [results, Tryd.results54, go_sem, d0, d1]) rfl ⟨rfl, ?_⟩
  exact ((b1.out.setCell (p := ⟨w.heap.size, 3, none⟩) (Nat.le_refl _) _).setCell (p := ⟨w.heap.size + 1, 0, none⟩) (by simp) _).setCell (p := ⟨w.heap.size + 1, 1, none⟩) (by simp) _
theorem pair_any (x : En) (p : Nat) (p1 : 1 ≤ p) (p3 : p ≤ 3) (w : World) : Calls Tryd.prog 54 #[.agg (fcells x), .int .u8 p] w fun e w' => e = .returned (pV (pairE p x)) ∧ Below w.heap.size w w' := by
  obtain ⟨k, a, b⟩ := x
  cases a with
  | none =>
    cases b with
    | none => exact pair_second 0#64 0#64 false p w
    | some y => exact pair_second k y true p w
  | some x =>
    cases b with
    | none => exact pair_first k x p w
    | some y => exact pair_both k x y _ p p1 p3 rfl w
end Go.Proofs.YtjnnfineebabaaaDoor
/- What two rows come to: together, of package rowset. -/
namespace Go.Proofs.YtjnnfineebabaaaDoor
open Go.RowKit Go.Shelf Go.Proofs.Rowm
attribute [local go_sem] Oper.semAt_some

/-- what is known of a function that tells which keys stay -/
structure Stays (f : FuncId) (st : Bool → Bool → Bool) : Prop where
  enters : ∀ args w, (callFunc f args).run Tryd.prog w = .ok (.enter f args) w
  says : ∀ x y w, Calls Tryd.prog f #[.bool x, .bool y] w fun e w' => e = .returned (.bool (st x y)) ∧ w = w'

theorem own_kept {W W' : World} {row : Option Nat} {base : Nat} {e : TypeId} {size n : Nat} {v : Value} {xs : List Value} (h : W.ownsRow base e size v n xs) (hg : W.grownBy W' row) (hr : ∀ r, row = some r → ∃ o : Obj, W.heap[r]? = some o ∧ o.isCells = false) : W'.ownsRow base e size v n xs := by
  refine ⟨h.1, ?_⟩
  rcases h.2 with h0 | ⟨g, cap, cur, hv, hbs, hh, h1, h2, h3, h4⟩
  · exact .inl h0
  · refine .inr ⟨g, cap, cur, hv, hbs, (hg.block g (lt_of_block hh) (fun e' => ?_)).trans hh, h1, h2, h3, h4⟩
    obtain ⟨o, ho, hc⟩ := hr g e'.symm
    rw [hh] at ho
    cases ho
    cases hc
/-- a variable that holds a row of the call's own -/
def Holds (Lb base : Nat) (l : List Pr) (W : World) : Prop := ∃ v, Boxed W Lb 22 v ∧ W.ownsRow base 42 2 v l.length (flat l)
theorem holds_own (Lb base p : Nat) (st : Bool → Bool → Bool) : Own (fun (pre : List En) W => Holds Lb base (staysL p st pre) W) := fun s X Y row hs hg hr => by
  obtain ⟨v, h1, h2⟩ := hs
  refine ⟨v, h1.kept hg (fun e' => ?_), own_kept h2 hg hr⟩
  obtain ⟨o, ho, hc⟩ := hr Lb e'.symm
  rw [show X.heap[Lb]? = _ from h1] at ho
  cases ho
  cases hc
theorem kb_t {n₀ b : Nat} {A B C : World} (h : KB n₀ b A B) (k : KB n₀ b B C) : KB n₀ b A C := ⟨h.1.trans k.1, k.2.trans h.2⟩
theorem kb_b {n₀ b : Nat} {w : World} (hn : n₀ ≤ w.heap.size) (hb : b < w.heap.size) (W : World) (l : Nat) (o o' : Obj) (hl : w.heap.size ≤ l) (h : W.heap[l]? = some o) (h1 : o.isCells = false) (h2 : o.isWalk = false) : KB n₀ b W (W.putObj l o') :=
  ⟨belowK_b hn W l o o' hl h h1 h2, World.putObj_heap_other (by omega)⟩

theorem grown_keeps {A B : World} {base : Nat} {e : TypeId} {size k : Nat} {v : Value} {xs : List Value} (hrow : A.ownsRow base e size v k xs) (hg : A.grownBy B v.ownBlock) : KeepsOthers A B := by
  refine KeepsOthers.of_grownBy hg fun j o ej hj => ?_
  rcases hrow.2 with ⟨rfl, _⟩ | ⟨g, cap, cur, rfl, _, hgb, _⟩
  · simp [Value.ownBlock] at ej
  · obtain rfl : g = j := by simpa [Value.ownBlock] using ej
    rw [hgb] at hj; cases hj; rfl
/-- a pair is put behind the row that a variable holds -/
theorem put_behind {W w7 w8 : World} {Lb base : Nat} {v v' : Value} {l : List Pr} {z : Pr} {tmp : Obj} (hv : Boxed W Lb 22 v) (ho : W.ownsRow base 42 2 v l.length (flat l)) (hb : Below W.drew.heap.size W.drew w7) (hg : (w7.alloc tmp).grownBy w8 v.ownBlock)
    (o8 : w8.ownsRow base 42 2 v' (l.length + 1) (flat l ++ flat [z])) (h1 : Lb + 1 < base) (h2 : base ≤ W.heap.size) :
    Boxed w8 Lb 22 v ∧ KeepsOthers W (w8.setCell ⟨Lb, 0, none⟩ v') ∧ KB Lb (Lb + 1) W (w8.setCell ⟨Lb, 0, none⟩ v') ∧ Holds Lb base (l ++ [z]) (w8.setCell ⟨Lb, 0, none⟩ v') := by
  have hte : (22 : TypeId) ≠ 42 := by decide
  have hs7 : W.heap.size ≤ w7.heap.size := hb.size
  have o7 : w7.ownsRow base 42 2 v l.length (flat l) := own_next (w := W.drew) ho.drew hb
  have v7 : Boxed w7 Lb 22 v := (hb.block Lb hv.lt).trans hv
  have v8 : Boxed w8 Lb 22 v := (v7.alloc tmp).kept hg (v7.not_row hte o7)
  have hlt := fun r e => (o7.lt r e).1
  refine ⟨v8, ?_, ⟨?_, ?_⟩, ⟨v', v8.set v', ?_⟩⟩
  · exact ((((KeepsOthers.drew W).trans (keeps_below hb)).trans (KeepsOthers.alloc w7 tmp)).trans (grown_keeps (o7.alloc tmp) hg)).trans (KeepsOthers.setCell _ _ _)
  · exact (((((Below.refl Lb W).drew).trans (hb.mono (show Lb ≤ W.heap.size by omega))).alloc (by omega) tmp).grown hg (by simp; omega) (fun r e => by have := hlt r e; omega)).setCell (p := ⟨Lb, 0, none⟩) (Nat.le_refl _) _
  · have e1 : w7.heap[Lb + 1]? = W.heap[Lb + 1]? := hb.block (Lb + 1) (show Lb + 1 < W.heap.size by omega)
    have e2 : (w7.alloc tmp).heap[Lb + 1]? = w7.heap[Lb + 1]? := Below.heap_alloc _ _ _ (by omega)
    have e3 : w8.heap[Lb + 1]? = (w7.alloc tmp).heap[Lb + 1]? := hg.block (Lb + 1) (by simp; omega) (fun e => by have := hlt _ e.symm; omega)
    have e4 : (w8.setCell ⟨Lb, 0, none⟩ v').heap[Lb + 1]? = w8.heap[Lb + 1]? := Below.heap_setCell _ _ _ _ (by simp)
    rw [e4, e3, e2, e1]
  · rw [List.length_append, flat_append]
    exact o8.kept (grownBy_setCell' w8 Lb v') (.inr (v8.not_row hte o8).symm)

theorem stepIn_append {F : Fence} {n : Nat} {P : Program} {w w' : World} {ops : Array Oper} {o : Oper} {a : Act} {K : Act → World → Prop} {Q : Exit → Act → World → Prop} {E : Prop} (hgd : o.guard = none) (s x : Operand) (t : TypeId)
    (hop : o.op = .call { callee := .builtin .append, args := #[s, x], argTypes := #[t, t] }) {v xv v' : Value} (hs : a.eval s = v) (hx : a.eval x = xv) (hrun : (Builtin.append_ #[t, t] o.type #[v, xv]).run P w = .ok v' w') (h : K (a.put o.dst v') w') :
    if Region.wanted o (yielded ops a.tmps) = true then Oper.wpIn F n P o a w K Q else E := by
  have hw : Region.wanted o (yielded ops a.tmps) = true := by simp [Region.wanted, hgd]
  rw [if_pos hw]
  unfold Oper.wpIn
  refine ⟨?_, ?_⟩
  · simp [Oper.about, hop, resolve, Target.leads, Sem.run_pure]
  · rw [Oper.semAt_plain F _ _ (by rw [hop]; intro c hc'; cases hc')]
    simp [execOp, hop, resolve, invoke, builtin, hs, hx, hrun, Result.andThen]
    exact h
/-- what the append, and the store behind it, want to know -/
def Ready (W : World) (Lb base : Nat) (v : Value) (l : List Pr) (z : Pr) (w7 : World) : Prop :=
  ∃ g8 cap8 w8, (Builtin.append_ #[22, 22] 22 #[v, .slice (some ⟨w7.heap.size, 0, none⟩) 1 1]).run Tryd.prog (w7.alloc (.cells #[K z.1, K z.2] 42)) = .ok (.slice (some ⟨g8, 0, none⟩) (l.length + 1) cap8) w8 ∧
    w7.cell? ⟨Lb, 0, none⟩ = some v ∧ Lb < w7.heap.size ∧ w8.cell? ⟨Lb, 0, none⟩ = some v ∧ w8.frozen? ⟨Lb, 0, none⟩ = false ∧
    Hid (KeepsOthers W (w8.setCell ⟨Lb, 0, none⟩ (.slice (some ⟨g8, 0, none⟩) (l.length + 1) cap8)) ∧ KB Lb (Lb + 1) W (w8.setCell ⟨Lb, 0, none⟩ (.slice (some ⟨g8, 0, none⟩) (l.length + 1) cap8)) ∧ Holds Lb base (l ++ [z]) (w8.setCell ⟨Lb, 0, none⟩ (.slice (some ⟨g8, 0, none⟩) (l.length + 1) cap8)))
theorem ready_of {W w7 : World} {Lb base : Nat} {v : Value} {l : List Pr} {z : Pr} (hv : Boxed W Lb 22 v) (ho : W.ownsRow base 42 2 v l.length (flat l)) (hb : Below W.drew.heap.size W.drew w7) (h1 : Lb + 1 < base) (h2 : base ≤ W.heap.size) (hl : l.length ≤ 2000) : Ready W Lb base v l z w7 := by
  obtain ⟨i0, hi, hz0, hz1, hz2⟩ := info_parts info_pair
  have hs7 : W.heap.size ≤ w7.heap.size := hb.size
  obtain ⟨v', w8, hrun, o8, hg8, _⟩ := run_append_own (P := Tryd.prog) (w := w7.alloc (.cells #[K z.1, K z.2] 42)) base 22 22 42 i0 _ 2 16 Tryd.underlying22 hi hz0 hz1 hz2 rfl (by decide) v l.length (flat l) ((own_next (w := W.drew) ho.drew hb).alloc _) ⟨w7.heap.size, 0, none⟩ 1 1 (flat [z]) rfl (fun j u hu => ((Has.new w7 42 #[K z.1, K z.2]).row.at_ hu).2) (flat_one [z]) (by unfold maxLen; omega) (by omega) (by simp; omega)
  obtain ⟨g8, cap8, rfl⟩ := ownsRow_succ o8
  obtain ⟨w8b, hko, hkb, hhold⟩ := put_behind hv ho hb hg8 o8 h1 h2
  have v7 : Boxed w7 Lb 22 v := (hb.block Lb hv.lt).trans hv
  exact ⟨g8, cap8, w8, hrun, v7.cell, v7.lt, w8b.cell, w8b.frozen, hko, hkb, hhold⟩

set_option maxRecDepth 100000 in
set_option maxHeartbeats 8000000 in
theorem together_yes (o p : Nat) (p1 : 1 ≤ p) (p3 : p ≤ 3) (f : FuncId) (st : Bool → Bool → Bool) (hf : Stays f st) (A B : Option Addr) (n c m d : Nat) (a b s : List Pr) (q : Nat) (ha : mayB o a = true) (hb : mayB o b = true) (hs : staysL p st (walk o a b) = s) (hq : s.length = q) (hnm : n + m ≤ 900) (w : World) (h : Here w A n c a) (hh : Here w B m d b) :
    Calls Tryd.prog 32 #[.int .u8 o, .slice A n c, .slice B m d, .agg #[.int .u8 p, fnV f]] w (MadeH w q s (.int .i64 0)) := by
  obtain ⟨h1, h7, _⟩ := mayB_parts ha
  have h' := Lib.hid h
  have hh' := Lib.hid hh
  have ha' := Lib.hid ha
  have hb' := Lib.hid hb
  have hs' := Lib.hid hs
  have hq' := Lib.hid hq
  have he := hf.enters
  have hC := Lib.hid hf.says
  clear h hh ha hb hs hq hf
  refine (callsIn_wide (n := 9)).1 ?_
  refine callsIn_of_wp_marks Tryd.func32 rfl trivial ?_ rfl
  simp only [Tryd.ntmps32, List.size_toArray, List.length_cons, List.length_nil, Nat.reduceAdd, Nat.reduceSub, Array.replicate_succ, Array.replicate_zero, List.push_toArray, List.append_toArray, List.nil_append, List.cons_append]
  gi_wp2_with fail
  refine ⟨trivial, ?_⟩
  have hR0 := Boxed2.new w 52 (.int .u8 (p : Int)) (fnV f)
  have hR := Lib.hid (show Has (w.alloc (.cells #[.int .u8 (p : Int), fnV f] 52)) w.heap.size 52 #[.int .u8 (p : Int), fnV f] from Has.new _ _ _)
  have b0 := (Below.refl w.heap.size w).alloc (Nat.le_refl _) (.cells #[.int .u8 (p : Int), fnV f] 52)
  obtain ⟨W1, hW1⟩ : ∃ W1, w.alloc (.cells #[.int .u8 (p : Int), fnV f] 52) = W1 := ⟨_, rfl⟩
  rw [hW1] at b0 hR
  rw [hW1]
  have b1 := Lib.hid b0
  clear hW1 b0 hR0
  refine (callsIn_wide.2 (may_at _ p1 p3 _)).mono ?_
  rintro e w2 ⟨rfl, hb⟩
  have R2 := Lib.hid (hR.out.next hb)
  have b2 := Lib.hid (Below.after b1.out hb)
  have a2 := Lib.hid (h'.out.next b2.out)
  clear hb hR
  gi_wp2_with fail
  refine ⟨trivial, ?_⟩
  refine (callsIn_wide.2 (rowMay_is ha'.out a2.out.len a2.out.k a2.out.pos a2.out.steps a2.out.row)).mono ?_
  rintro e w3 ⟨rfl, hb⟩
  have R3 := Lib.hid (R2.out.next hb)
  have b3 := Lib.hid (Below.after b2.out hb)
  have c3 := Lib.hid (hh'.out.next b3.out)
  clear hb R2 a2
  gi_wp2_with fail
  refine ⟨trivial, ?_⟩
  refine (callsIn_wide.2 (rowMay_is hb'.out c3.out.len c3.out.k c3.out.pos c3.out.steps c3.out.row)).mono ?_
  rintro e w4 ⟨rfl, hb⟩
  have R4 := Lib.hid (R3.out.next hb)
  have b4 := Lib.hid (Below.after b3.out hb)
  clear hb R3 c3
  gi_wp2_with fail
  refine ⟨trivial, ?_⟩
  refine (callsIn_wide.2 (keys_any o A B n c m d _)).mono ?_
  rintro e w5 ⟨rfl, rfl⟩
  gi_wp2_with fail
  have bL := (((Boxed.new w4 22 (.slice none 0 0)).alloc (.cells #[.int .u8 (o : Int)] 5)).alloc (.cells #[.slice A n c] 22)).alloc (.cells #[.slice B m d] 22)
  have bO := ((Boxed.new (w4.alloc (.cells #[.slice none 0 0] 22)) 5 (.int .u8 (o : Int))).alloc (.cells #[.slice A n c] 22)).alloc (.cells #[.slice B m d] 22)
  have bA := (Boxed.new ((w4.alloc (.cells #[.slice none 0 0] 22)).alloc (.cells #[.int .u8 (o : Int)] 5)) 22 (.slice A n c)).alloc (.cells #[.slice B m d] 22)
  have bB := Boxed.new (((w4.alloc (.cells #[.slice none 0 0] 22)).alloc (.cells #[.int .u8 (o : Int)] 5)).alloc (.cells #[.slice A n c] 22)) 22 (.slice B m d)
  have b5 : Below w4.heap.size w4 ((((w4.alloc (.cells #[.slice none 0 0] 22)).alloc (.cells #[.int .u8 (o : Int)] 5)).alloc (.cells #[.slice A n c] 22)).alloc (.cells #[.slice B m d] 22)) := ((((Below.refl _ w4).alloc (Nat.le_refl _) _).alloc (by simp) _).alloc (by simp; omega) _).alloc (by simp; omega) _
  have hsz : ((((w4.alloc (.cells #[.slice none 0 0] 22)).alloc (.cells #[.int .u8 (o : Int)] 5)).alloc (.cells #[.slice A n c] 22)).alloc (.cells #[.slice B m d] 22)).heap.size = w4.heap.size + 4 := by simp
  simp only [World.size_alloc] at bO bA bB
  obtain ⟨W0, hW0⟩ : ∃ W0, (((w4.alloc (.cells #[.slice none 0 0] 22)).alloc (.cells #[.int .u8 (o : Int)] 5)).alloc (.cells #[.slice A n c] 22)).alloc (.cells #[.slice B m d] 22) = W0 := ⟨_, rfl⟩
  rw [hW0] at bL bO bA bB b5 hsz
  rw [hW0]
  clear hW0
  have hA4 := h'.out.next b4.out
  have hB4 := hh'.out.next b4.out
  have RR := Lib.hid (R4.out.below b5 R4.out.lt)
  have ia := incr_mayB ha'.out
  have hi0 : Hid (Below w.heap.size w W0) := by show Below _ _ _; exact Below.after b4.out b5
  refine wpIn_rangeFunc_ownH rfl (by omega) (gf := 64) (lb := #[.pointer (some ⟨w4.heap.size + 1 + 1, 0, none⟩), .pointer (some ⟨w4.heap.size + 1 + 2, 0, none⟩), .pointer (some ⟨w4.heap.size + 1, 0, none⟩)]) rfl trivial (enters_of Tryd.func64 (by kernel_rfl) rfl)
    (keys_stops _ (by omega) w4.heap.size (w4.heap.size + 1 + 1) (w4.heap.size + 1 + 2) (w4.heap.size + 1) o h1 h7 A B n c m d a b h'.out.len hh'.out.len h'.out.cap hh'.out.cap hnm W0 (by omega) (by omega) (by omega) (by omega) bA.cell bB.cell bO.cell (hA4.row.below b5) (hB4.row.below b5) hA4.pos (hA4.steps.below hA4.pos b5))
    kb_t (kb_b (by omega) (by omega)) (Below.refl _ _) (fun _ => rfl)
    (fun pre W => Holds w4.heap.size (w4.heap.size + 4) (staysL p st pre) W ∧ Below w4.heap.size W0 W)
    (fun _ _ _ => False)
    (OwnFrom.and (Own.from (holds_own _ _ _ _) _) (ownFrom_below (by omega) (by omega)))
    (fun _ _ _ _ _ hs _ _ => hs)
    ⟨⟨_, bL, World.ownsRow_nil _ _ _ _⟩, Below.refl _ _⟩
    (fun x a' W => ∃ Fb, w4.heap.size + 4 ≤ Fb ∧ Has W Fb 84 (fcells x) ∧ a' = { tmps := #[.int .u8 (o : Int), .slice A n c, .slice B m d, .agg #[.int .u8 (p : Int), fnV f], undef, undef, undef, .pointer (some ⟨w.heap.size, 0, none⟩), .slice none 0 0, .int .i64 0, .pointer (some ⟨w4.heap.size, 0, none⟩), .pointer (some ⟨Fb, 0, none⟩), .pointer (some ⟨w.heap.size, 0, none⟩), .int .u8 (p : Int), .bool true, .bool false, .bool false, .int .u8 (o : Int), .slice A n c, .bool true, .bool false, .bool false, .bool false, .int .u8 (o : Int), .slice B m d, .bool true, .bool false, .bool false, .int .u8 (o : Int), .slice A n c, .slice B m d, .func (.func 64) #[] #[.pointer (some ⟨w4.heap.size + 1 + 1, 0, none⟩), .pointer (some ⟨w4.heap.size + 1 + 2, 0, none⟩), .pointer (some ⟨w4.heap.size + 1, 0, none⟩)], .agg (fcells x), undef, undef, undef, undef, undef, undef, undef, undef, undef, undef, undef, undef, undef, undef, undef], defers := [] })
    (fun x a' _ X Y row hs hg hr => by
      obtain ⟨Fb, h1, h2, h3⟩ := hs
      refine ⟨Fb, h1, (hg.block Fb h2.lt (fun e' => ?_)).trans h2, h3⟩
      obtain ⟨o', ho, hc⟩ := (hr Fb e'.symm).2
      rw [show X.heap[Fb]? = _ from h2] at ho
      cases ho
      cases hc)
    ?assign ?body ?done ?stop
  case assign =>
    rintro L pre x W KK ⟨hH, hB1⟩ hK
    have hH' := Lib.hid hH
    have hBs := hB1.size
    have hB' := Lib.hid hB1
    obtain ⟨f1, f2, k1, v1, k2, v2, hx⟩ : ∃ f1 f2 k1 v1 k2 v2, fcells x = #[.bool f1, .bool f2, K k1, K v1, K k2, K v2] := ⟨_, _, _, _, _, _, rfl⟩
    simp only [encF, hx] at hK ⊢
    clear hH hB1
    gi_wp2
    have hal : KeepsOthers W (W.alloc (.cells #[.bool f1, .bool f2, K k1, K v1, K k2, K v2] 84)) := KeepsOthers.alloc _ _
    have hkb : KB w4.heap.size (w4.heap.size + 1) W (W.alloc (.cells #[.bool f1, .bool f2, K k1, K v1, K k2, K v2] 84)) := ⟨(Below.refl _ W).alloc (by omega) _, Below.heap_alloc _ _ _ (by omega)⟩
    exact hK _ _ (hal.from _) hkb ⟨(holds_own _ _ _ _).from 0 |>.alloc _ hH'.out, hB'.out.alloc (by omega) _⟩ ⟨W.heap.size, by omega, Has.new _ _ _, rfl⟩
  case body =>
    rintro L pre x a' W hL' _ ⟨hH, hB1⟩ ⟨Fb, hFb, hG, rfl⟩ hlt
    obtain ⟨v, hv, hown⟩ := hH
    have hBs := hB1.size
    have hle := staysL_le p st pre
    have hsn := Lib.hid (staysL_snoc p st pre x)
    have R5 := RR.out.below hB1 (Nat.lt_of_lt_of_le (show w.heap.size < w4.heap.size from R4.out.lt) (Nat.le_refl _))
    have e0 := R5.cell 0
    have e1 := R5.cell 1
    have g0 := hG.cell 0
    have g1 := hG.cell 1
    have g2 := hG.cell 2
    have g3 := hG.cell 3
    have g4 := hG.cell 4
    have g5 := hG.cell 5
    have hp := fun w => pair_any x p p1 p3 w
    simp only [fcells, List.getElem?_toArray, List.getElem?_cons_zero, List.getElem?_cons_succ] at e0 e1 g0 g1 g2 g3 g4 g5 hp
    obtain ⟨z, hz⟩ : ∃ z, pairE p x = z := ⟨_, rfl⟩
    obtain ⟨k1, hk1⟩ : ∃ k1, (if x.2.1.isSome = true then x.1 else 0#64) = k1 := ⟨_, rfl⟩
    obtain ⟨k2, hk2⟩ : ∃ k2, (if x.2.2.isSome = true then x.1 else 0#64) = k2 := ⟨_, rfl⟩
    obtain ⟨v1, hv1⟩ : ∃ v1, x.2.1.getD 0#64 = v1 := ⟨_, rfl⟩
    obtain ⟨v2, hv2⟩ : ∃ v2, x.2.2.getD 0#64 = v2 := ⟨_, rfl⟩
    rw [hk1] at g2
    rw [hv1] at g3
    rw [hk2] at g4
    rw [hv2] at g5
    rw [hz, hk1, hk2, hv1, hv2] at hp
    obtain ⟨f1, hf1⟩ : ∃ f1, x.2.1.isSome = f1 := ⟨_, rfl⟩
    obtain ⟨f2, hf2⟩ : ∃ f2, x.2.2.isSome = f2 := ⟨_, rfl⟩
    rw [hf1] at g0
    rw [hf2] at g1
    rw [hf1, hf2] at hp
    have hcall := hC.out f1 f2 W
    obtain ⟨tt, htt⟩ : ∃ tt, st f1 f2 = tt := ⟨_, rfl⟩
    rw [hf1, hf2, htt, hz] at hsn
    rw [htt] at hcall
    have hcall' := Lib.hid hcall
    have hp' := Lib.hid hp
    have hv' := Lib.hid hv
    have ho' := Lib.hid hown
    have hB' := Lib.hid hB1
    clear hcall hv hown hB1 htt hf1 hf2 hG R5 hz hk1 hk2 hv1 hv2 hp
    gi_wp2_with fail
    refine ⟨trivial, ?_⟩
    refine (CallsIn.inRound L (callsIn_wide.2 hcall'.out)).mono ?_
    rintro e w6 ⟨rfl, rfl⟩
    cases tt with
    | false =>
      gi_wp2
      exact ⟨(KeepsOthers.refl _).from _, ⟨Below.refl _ _, rfl⟩, ⟨v, hv'.out, by rw [hsn.out]; exact ho'.out⟩, hB'.out⟩
    | true =>
      obtain ⟨l, hl⟩ : ∃ l, staysL p st pre = l := ⟨_, rfl⟩
      rw [hl] at hsn ho' hle
      have hmx : Tryd.prog.follows .mixedOrders = true := by kernel_rfl
      have cv := hv'.out.cell
      have hpc := Lib.hid ((hp'.out W.drew).mono (R' := fun e w7 => e = .returned (pV z) ∧ Ready W w4.heap.size (w4.heap.size + 4) v l z w7) fun e w7 h => ⟨h.1, ready_of hv'.out ho'.out h.2 (by omega) (by omega) (by omega)⟩)
      clear hl hp'
      gi_wp2
      refine wpIn_region_any (by assumption) ?_
      change wpAnyIn _ _ _ _ _ _ _ _ _ (World.drew _)
      refine wpAnyIn_ready (rs := [0, 1, 2]) (by kernel_rfl) (by simp) ?_
      refine AllReadyIn.cons rfl (fun KK hKK => ?_) ?_
      · go_simp
        refine hKK _ _ ?_
        clear hKK KK
        refine wpAnyIn_ready (rs := [1, 2]) (by kernel_rfl) (by simp) ?_
        refine AllReadyIn.cons rfl (fun KK hKK => ?_) ?_
        · go_simp
          refine hKK _ _ ?_
          clear hKK KK
          refine wpAnyIn_ready (rs := [2]) (by kernel_rfl) (by simp) ?_
          refine AllReadyIn.cons rfl (fun KK hKK => ?_) ?_
          · go_simp
            refine hKK _ _ ?_
            clear hKK KK
            refine wpAnyIn_ready (rs := [3]) (by kernel_rfl) (by simp) ?_
            refine AllReadyIn.cons rfl (fun KK hKK => ?_) ?_
            · go_simp
              refine hKK _ _ ?_
              clear hKK KK
              refine wpAnyIn_ready (rs := [4]) (by kernel_rfl) (by simp) ?_
              refine AllReadyIn.cons rfl (fun KK hKK => ?_) ?_
              · go_simp
                refine ⟨trivial, ?_⟩
                refine (CallsIn.inRound L (callsIn_wide.2 hpc.out)).mono ?_
                rintro e w7 ⟨rfl, g8, cap8, w8, hrun, c7, hx7, c8, f8, q8⟩
                have hrun' := Lib.hid hrun
                clear hrun
                refine hKK _ _ ?_
                clear hKK KK
                refine wpAnyIn_ready (rs := [5]) (by kernel_rfl) (by simp) ?_
                refine AllReadyIn.cons rfl (fun KK hKK => ?_) ?_
                · go_simp
                  refine hKK _ _ ?_
                  clear hKK KK
                  refine wpAnyIn_ready (rs := [6]) (by kernel_rfl) (by simp) ?_
                  refine AllReadyIn.cons rfl (fun KK hKK => ?_) ?_
                  · refine stepIn_append rfl _ _ _ rfl rfl rfl hrun'.out ?_
                    refine hKK _ _ ?_
                    clear hKK KK
                    refine wpAnyIn_ready (rs := [7]) (by kernel_rfl) (by simp) ?_
                    refine AllReadyIn.cons rfl (fun KK hKK => ?_) ?_
                    · go_simp
                      refine hKK _ _ ?_
                      clear hKK KK
                      refine wpAnyIn_done (by kernel_rfl) ?_ _
                      gi_wp2
                      exact ⟨q8.out.1.from _, q8.out.2.1, by rw [hsn.out]; exact q8.out.2.2, hB'.out.trans q8.out.2.1.1⟩
                    exact AllReadyIn.nil
                  exact AllReadyIn.nil
                exact AllReadyIn.nil
              exact AllReadyIn.nil
            exact AllReadyIn.nil
          exact AllReadyIn.nil
        refine AllReadyIn.cons rfl (fun KK hKK => ?_) ?_
        · go_simp
          refine hKK _ _ ?_
          clear hKK KK
          refine wpAnyIn_ready (rs := [1, 3]) (by kernel_rfl) (by simp) ?_
          refine AllReadyIn.cons rfl (fun KK hKK => ?_) ?_
          · go_simp
            refine hKK _ _ ?_
            clear hKK KK
            refine wpAnyIn_ready (rs := [3]) (by kernel_rfl) (by simp) ?_
            refine AllReadyIn.cons rfl (fun KK hKK => ?_) ?_
            · go_simp
              refine hKK _ _ ?_
              clear hKK KK
              refine wpAnyIn_ready (rs := [4]) (by kernel_rfl) (by simp) ?_
              refine AllReadyIn.cons rfl (fun KK hKK => ?_) ?_
              · go_simp
                refine ⟨trivial, ?_⟩
                refine (CallsIn.inRound L (callsIn_wide.2 hpc.out)).mono ?_
                rintro e w7 ⟨rfl, g8, cap8, w8, hrun, c7, hx7, c8, f8, q8⟩
                have hrun' := Lib.hid hrun
                clear hrun
                refine hKK _ _ ?_
                clear hKK KK
                refine wpAnyIn_ready (rs := [5]) (by kernel_rfl) (by simp) ?_
                refine AllReadyIn.cons rfl (fun KK hKK => ?_) ?_
                · go_simp
                  refine hKK _ _ ?_
                  clear hKK KK
                  refine wpAnyIn_ready (rs := [6]) (by kernel_rfl) (by simp) ?_
                  refine AllReadyIn.cons rfl (fun KK hKK => ?_) ?_
                  · refine stepIn_append rfl _ _ _ rfl rfl rfl hrun'.out ?_
                    refine hKK _ _ ?_
                    clear hKK KK
                    refine wpAnyIn_ready (rs := [7]) (by kernel_rfl) (by simp) ?_
                    refine AllReadyIn.cons rfl (fun KK hKK => ?_) ?_
                    · go_simp
                      refine hKK _ _ ?_
                      clear hKK KK
                      refine wpAnyIn_done (by kernel_rfl) ?_ _
                      gi_wp2
                      exact ⟨q8.out.1.from _, q8.out.2.1, by rw [hsn.out]; exact q8.out.2.2, hB'.out.trans q8.out.2.1.1⟩
                    exact AllReadyIn.nil
                  exact AllReadyIn.nil
                exact AllReadyIn.nil
              exact AllReadyIn.nil
            exact AllReadyIn.nil
          refine AllReadyIn.cons rfl (fun KK hKK => ?_) ?_
          · go_simp
            refine hKK _ _ ?_
            clear hKK KK
            refine wpAnyIn_ready (rs := [1]) (by kernel_rfl) (by simp) ?_
            refine AllReadyIn.cons rfl (fun KK hKK => ?_) ?_
            · go_simp
              refine hKK _ _ ?_
              clear hKK KK
              refine wpAnyIn_ready (rs := [4]) (by kernel_rfl) (by simp) ?_
              refine AllReadyIn.cons rfl (fun KK hKK => ?_) ?_
              · go_simp
                refine ⟨trivial, ?_⟩
                refine (CallsIn.inRound L (callsIn_wide.2 hpc.out)).mono ?_
                rintro e w7 ⟨rfl, g8, cap8, w8, hrun, c7, hx7, c8, f8, q8⟩
                have hrun' := Lib.hid hrun
                clear hrun
                refine hKK _ _ ?_
                clear hKK KK
                refine wpAnyIn_ready (rs := [5]) (by kernel_rfl) (by simp) ?_
                refine AllReadyIn.cons rfl (fun KK hKK => ?_) ?_
                · go_simp
                  refine hKK _ _ ?_
                  clear hKK KK
                  refine wpAnyIn_ready (rs := [6]) (by kernel_rfl) (by simp) ?_
                  refine AllReadyIn.cons rfl (fun KK hKK => ?_) ?_
                  · refine stepIn_append rfl _ _ _ rfl rfl rfl hrun'.out ?_
                    refine hKK _ _ ?_
                    clear hKK KK
                    refine wpAnyIn_ready (rs := [7]) (by kernel_rfl) (by simp) ?_
                    refine AllReadyIn.cons rfl (fun KK hKK => ?_) ?_
                    · go_simp
                      refine hKK _ _ ?_
                      clear hKK KK
                      refine wpAnyIn_done (by kernel_rfl) ?_ _
                      gi_wp2
                      exact ⟨q8.out.1.from _, q8.out.2.1, by rw [hsn.out]; exact q8.out.2.2, hB'.out.trans q8.out.2.1.1⟩
                    exact AllReadyIn.nil
                  exact AllReadyIn.nil
                exact AllReadyIn.nil
              exact AllReadyIn.nil
            exact AllReadyIn.nil
          exact AllReadyIn.nil
        exact AllReadyIn.nil
      refine AllReadyIn.cons rfl (fun KK hKK => ?_) ?_
      · go_simp
        refine hKK _ _ ?_
        clear hKK KK
        refine wpAnyIn_ready (rs := [0, 2]) (by kernel_rfl) (by simp) ?_
        refine AllReadyIn.cons rfl (fun KK hKK => ?_) ?_
        · go_simp
          refine hKK _ _ ?_
          clear hKK KK
          refine wpAnyIn_ready (rs := [2]) (by kernel_rfl) (by simp) ?_
          refine AllReadyIn.cons rfl (fun KK hKK => ?_) ?_
          · go_simp
            refine hKK _ _ ?_
            clear hKK KK
            refine wpAnyIn_ready (rs := [3]) (by kernel_rfl) (by simp) ?_
            refine AllReadyIn.cons rfl (fun KK hKK => ?_) ?_
            · go_simp
              refine hKK _ _ ?_
              clear hKK KK
              refine wpAnyIn_ready (rs := [4]) (by kernel_rfl) (by simp) ?_
              refine AllReadyIn.cons rfl (fun KK hKK => ?_) ?_
              · go_simp
                refine ⟨trivial, ?_⟩
                refine (CallsIn.inRound L (callsIn_wide.2 hpc.out)).mono ?_
                rintro e w7 ⟨rfl, g8, cap8, w8, hrun, c7, hx7, c8, f8, q8⟩
                have hrun' := Lib.hid hrun
                clear hrun
                refine hKK _ _ ?_
                clear hKK KK
                refine wpAnyIn_ready (rs := [5]) (by kernel_rfl) (by simp) ?_
                refine AllReadyIn.cons rfl (fun KK hKK => ?_) ?_
                · go_simp
                  refine hKK _ _ ?_
                  clear hKK KK
                  refine wpAnyIn_ready (rs := [6]) (by kernel_rfl) (by simp) ?_
                  refine AllReadyIn.cons rfl (fun KK hKK => ?_) ?_
                  · refine stepIn_append rfl _ _ _ rfl rfl rfl hrun'.out ?_
                    refine hKK _ _ ?_
                    clear hKK KK
                    refine wpAnyIn_ready (rs := [7]) (by kernel_rfl) (by simp) ?_
                    refine AllReadyIn.cons rfl (fun KK hKK => ?_) ?_
                    · go_simp
                      refine hKK _ _ ?_
                      clear hKK KK
                      refine wpAnyIn_done (by kernel_rfl) ?_ _
                      gi_wp2
                      exact ⟨q8.out.1.from _, q8.out.2.1, by rw [hsn.out]; exact q8.out.2.2, hB'.out.trans q8.out.2.1.1⟩
                    exact AllReadyIn.nil
                  exact AllReadyIn.nil
                exact AllReadyIn.nil
              exact AllReadyIn.nil
            exact AllReadyIn.nil
          exact AllReadyIn.nil
        refine AllReadyIn.cons rfl (fun KK hKK => ?_) ?_
        · go_simp
          refine hKK _ _ ?_
          clear hKK KK
          refine wpAnyIn_ready (rs := [0, 3]) (by kernel_rfl) (by simp) ?_
          refine AllReadyIn.cons rfl (fun KK hKK => ?_) ?_
          · go_simp
            refine hKK _ _ ?_
            clear hKK KK
            refine wpAnyIn_ready (rs := [3]) (by kernel_rfl) (by simp) ?_
            refine AllReadyIn.cons rfl (fun KK hKK => ?_) ?_
            · go_simp
              refine hKK _ _ ?_
              clear hKK KK
              refine wpAnyIn_ready (rs := [4]) (by kernel_rfl) (by simp) ?_
              refine AllReadyIn.cons rfl (fun KK hKK => ?_) ?_
              · go_simp
                refine ⟨trivial, ?_⟩
                refine (CallsIn.inRound L (callsIn_wide.2 hpc.out)).mono ?_
                rintro e w7 ⟨rfl, g8, cap8, w8, hrun, c7, hx7, c8, f8, q8⟩
                have hrun' := Lib.hid hrun
                clear hrun
                refine hKK _ _ ?_
                clear hKK KK
                refine wpAnyIn_ready (rs := [5]) (by kernel_rfl) (by simp) ?_
                refine AllReadyIn.cons rfl (fun KK hKK => ?_) ?_
                · go_simp
                  refine hKK _ _ ?_
                  clear hKK KK
                  refine wpAnyIn_ready (rs := [6]) (by kernel_rfl) (by simp) ?_
                  refine AllReadyIn.cons rfl (fun KK hKK => ?_) ?_
                  · refine stepIn_append rfl _ _ _ rfl rfl rfl hrun'.out ?_
                    refine hKK _ _ ?_
                    clear hKK KK
                    refine wpAnyIn_ready (rs := [7]) (by kernel_rfl) (by simp) ?_
                    refine AllReadyIn.cons rfl (fun KK hKK => ?_) ?_
                    · go_simp
                      refine hKK _ _ ?_
                      clear hKK KK
                      refine wpAnyIn_done (by kernel_rfl) ?_ _
                      gi_wp2
                      exact ⟨q8.out.1.from _, q8.out.2.1, by rw [hsn.out]; exact q8.out.2.2, hB'.out.trans q8.out.2.1.1⟩
                    exact AllReadyIn.nil
                  exact AllReadyIn.nil
                exact AllReadyIn.nil
              exact AllReadyIn.nil
            exact AllReadyIn.nil
          refine AllReadyIn.cons rfl (fun KK hKK => ?_) ?_
          · go_simp
            refine hKK _ _ ?_
            clear hKK KK
            refine wpAnyIn_ready (rs := [0, 4]) (by kernel_rfl) (by simp) ?_
            refine AllReadyIn.cons rfl (fun KK hKK => ?_) ?_
            · go_simp
              refine hKK _ _ ?_
              clear hKK KK
              refine wpAnyIn_ready (rs := [4]) (by kernel_rfl) (by simp) ?_
              refine AllReadyIn.cons rfl (fun KK hKK => ?_) ?_
              · go_simp
                refine ⟨trivial, ?_⟩
                refine (CallsIn.inRound L (callsIn_wide.2 hpc.out)).mono ?_
                rintro e w7 ⟨rfl, g8, cap8, w8, hrun, c7, hx7, c8, f8, q8⟩
                have hrun' := Lib.hid hrun
                clear hrun
                refine hKK _ _ ?_
                clear hKK KK
                refine wpAnyIn_ready (rs := [5]) (by kernel_rfl) (by simp) ?_
                refine AllReadyIn.cons rfl (fun KK hKK => ?_) ?_
                · go_simp
                  refine hKK _ _ ?_
                  clear hKK KK
                  refine wpAnyIn_ready (rs := [6]) (by kernel_rfl) (by simp) ?_
                  refine AllReadyIn.cons rfl (fun KK hKK => ?_) ?_
                  · refine stepIn_append rfl _ _ _ rfl rfl rfl hrun'.out ?_
                    refine hKK _ _ ?_
                    clear hKK KK
                    refine wpAnyIn_ready (rs := [7]) (by kernel_rfl) (by simp) ?_
                    refine AllReadyIn.cons rfl (fun KK hKK => ?_) ?_
                    · go_simp
                      refine hKK _ _ ?_
                      clear hKK KK
                      refine wpAnyIn_done (by kernel_rfl) ?_ _
                      gi_wp2
                      exact ⟨q8.out.1.from _, q8.out.2.1, by rw [hsn.out]; exact q8.out.2.2, hB'.out.trans q8.out.2.1.1⟩
                    exact AllReadyIn.nil
                  exact AllReadyIn.nil
                exact AllReadyIn.nil
              exact AllReadyIn.nil
            refine AllReadyIn.cons rfl (fun KK hKK => ?_) ?_
            · go_simp
              refine ⟨trivial, ?_⟩
              refine (CallsIn.inRound L (callsIn_wide.2 hpc.out)).mono ?_
              rintro e w7 ⟨rfl, g8, cap8, w8, hrun, c7, hx7, c8, f8, q8⟩
              have hrun' := Lib.hid hrun
              clear hrun
              refine hKK _ _ ?_
              clear hKK KK
              refine wpAnyIn_ready (rs := [0, 5]) (by kernel_rfl) (by simp) ?_
              refine AllReadyIn.cons rfl (fun KK hKK => ?_) ?_
              · go_simp
                refine hKK _ _ ?_
                clear hKK KK
                refine wpAnyIn_ready (rs := [5]) (by kernel_rfl) (by simp) ?_
                refine AllReadyIn.cons rfl (fun KK hKK => ?_) ?_
                · go_simp
                  refine hKK _ _ ?_
                  clear hKK KK
                  refine wpAnyIn_ready (rs := [6]) (by kernel_rfl) (by simp) ?_
                  refine AllReadyIn.cons rfl (fun KK hKK => ?_) ?_
                  · refine stepIn_append rfl _ _ _ rfl rfl rfl hrun'.out ?_
                    refine hKK _ _ ?_
                    clear hKK KK
                    refine wpAnyIn_ready (rs := [7]) (by kernel_rfl) (by simp) ?_
                    refine AllReadyIn.cons rfl (fun KK hKK => ?_) ?_
                    · go_simp
                      refine hKK _ _ ?_
                      clear hKK KK
                      refine wpAnyIn_done (by kernel_rfl) ?_ _
                      gi_wp2
                      exact ⟨q8.out.1.from _, q8.out.2.1, by rw [hsn.out]; exact q8.out.2.2, hB'.out.trans q8.out.2.1.1⟩
                    exact AllReadyIn.nil
                  exact AllReadyIn.nil
                exact AllReadyIn.nil
              refine AllReadyIn.cons rfl (fun KK hKK => ?_) ?_
              · go_simp
                refine hKK _ _ ?_
                clear hKK KK
                refine wpAnyIn_ready (rs := [0]) (by kernel_rfl) (by simp) ?_
                refine AllReadyIn.cons rfl (fun KK hKK => ?_) ?_
                · go_simp
                  refine hKK _ _ ?_
                  clear hKK KK
                  refine wpAnyIn_ready (rs := [6]) (by kernel_rfl) (by simp) ?_
                  refine AllReadyIn.cons rfl (fun KK hKK => ?_) ?_
                  · refine stepIn_append rfl _ _ _ rfl rfl rfl hrun'.out ?_
                    refine hKK _ _ ?_
                    clear hKK KK
                    refine wpAnyIn_ready (rs := [7]) (by kernel_rfl) (by simp) ?_
                    refine AllReadyIn.cons rfl (fun KK hKK => ?_) ?_
                    · go_simp
                      refine hKK _ _ ?_
                      clear hKK KK
                      refine wpAnyIn_done (by kernel_rfl) ?_ _
                      gi_wp2
                      exact ⟨q8.out.1.from _, q8.out.2.1, by rw [hsn.out]; exact q8.out.2.2, hB'.out.trans q8.out.2.1.1⟩
                    exact AllReadyIn.nil
                  exact AllReadyIn.nil
                exact AllReadyIn.nil
              exact AllReadyIn.nil
            exact AllReadyIn.nil
          exact AllReadyIn.nil
        exact AllReadyIn.nil
      refine AllReadyIn.cons rfl (fun KK hKK => ?_) ?_
      · go_simp
        refine hKK _ _ ?_
        clear hKK KK
        refine wpAnyIn_ready (rs := [0, 1, 3]) (by kernel_rfl) (by simp) ?_
        refine AllReadyIn.cons rfl (fun KK hKK => ?_) ?_
        · go_simp
          refine hKK _ _ ?_
          clear hKK KK
          refine wpAnyIn_ready (rs := [1, 3]) (by kernel_rfl) (by simp) ?_
          refine AllReadyIn.cons rfl (fun KK hKK => ?_) ?_
          · go_simp
            refine hKK _ _ ?_
            clear hKK KK
            refine wpAnyIn_ready (rs := [3]) (by kernel_rfl) (by simp) ?_
            refine AllReadyIn.cons rfl (fun KK hKK => ?_) ?_
            · go_simp
              refine hKK _ _ ?_
              clear hKK KK
              refine wpAnyIn_ready (rs := [4]) (by kernel_rfl) (by simp) ?_
              refine AllReadyIn.cons rfl (fun KK hKK => ?_) ?_
              · go_simp
                refine ⟨trivial, ?_⟩
                refine (CallsIn.inRound L (callsIn_wide.2 hpc.out)).mono ?_
                rintro e w7 ⟨rfl, g8, cap8, w8, hrun, c7, hx7, c8, f8, q8⟩
                have hrun' := Lib.hid hrun
                clear hrun
                refine hKK _ _ ?_
                clear hKK KK
                refine wpAnyIn_ready (rs := [5]) (by kernel_rfl) (by simp) ?_
                refine AllReadyIn.cons rfl (fun KK hKK => ?_) ?_
                · go_simp
                  refine hKK _ _ ?_
                  clear hKK KK
                  refine wpAnyIn_ready (rs := [6]) (by kernel_rfl) (by simp) ?_
                  refine AllReadyIn.cons rfl (fun KK hKK => ?_) ?_
                  · refine stepIn_append rfl _ _ _ rfl rfl rfl hrun'.out ?_
                    refine hKK _ _ ?_
                    clear hKK KK
                    refine wpAnyIn_ready (rs := [7]) (by kernel_rfl) (by simp) ?_
                    refine AllReadyIn.cons rfl (fun KK hKK => ?_) ?_
                    · go_simp
                      refine hKK _ _ ?_
                      clear hKK KK
                      refine wpAnyIn_done (by kernel_rfl) ?_ _
                      gi_wp2
                      exact ⟨q8.out.1.from _, q8.out.2.1, by rw [hsn.out]; exact q8.out.2.2, hB'.out.trans q8.out.2.1.1⟩
                    exact AllReadyIn.nil
                  exact AllReadyIn.nil
                exact AllReadyIn.nil
              exact AllReadyIn.nil
            exact AllReadyIn.nil
          refine AllReadyIn.cons rfl (fun KK hKK => ?_) ?_
          · go_simp
            refine hKK _ _ ?_
            clear hKK KK
            refine wpAnyIn_ready (rs := [1]) (by kernel_rfl) (by simp) ?_
            refine AllReadyIn.cons rfl (fun KK hKK => ?_) ?_
            · go_simp
              refine hKK _ _ ?_
              clear hKK KK
              refine wpAnyIn_ready (rs := [4]) (by kernel_rfl) (by simp) ?_
              refine AllReadyIn.cons rfl (fun KK hKK => ?_) ?_
              · go_simp
                refine ⟨trivial, ?_⟩
                refine (CallsIn.inRound L (callsIn_wide.2 hpc.out)).mono ?_
                rintro e w7 ⟨rfl, g8, cap8, w8, hrun, c7, hx7, c8, f8, q8⟩
                have hrun' := Lib.hid hrun
                clear hrun
                refine hKK _ _ ?_
                clear hKK KK
                refine wpAnyIn_ready (rs := [5]) (by kernel_rfl) (by simp) ?_
                refine AllReadyIn.cons rfl (fun KK hKK => ?_) ?_
                · go_simp
                  refine hKK _ _ ?_
                  clear hKK KK
                  refine wpAnyIn_ready (rs := [6]) (by kernel_rfl) (by simp) ?_
                  refine AllReadyIn.cons rfl (fun KK hKK => ?_) ?_
                  · refine stepIn_append rfl _ _ _ rfl rfl rfl hrun'.out ?_
                    refine hKK _ _ ?_
                    clear hKK KK
                    refine wpAnyIn_ready (rs := [7]) (by kernel_rfl) (by simp) ?_
                    refine AllReadyIn.cons rfl (fun KK hKK => ?_) ?_
                    · go_simp
                      refine hKK _ _ ?_
                      clear hKK KK
                      refine wpAnyIn_done (by kernel_rfl) ?_ _
                      gi_wp2
                      exact ⟨q8.out.1.from _, q8.out.2.1, by rw [hsn.out]; exact q8.out.2.2, hB'.out.trans q8.out.2.1.1⟩
                    exact AllReadyIn.nil
                  exact AllReadyIn.nil
                exact AllReadyIn.nil
              exact AllReadyIn.nil
            exact AllReadyIn.nil
          exact AllReadyIn.nil
        refine AllReadyIn.cons rfl (fun KK hKK => ?_) ?_
        · go_simp
          refine hKK _ _ ?_
          clear hKK KK
          refine wpAnyIn_ready (rs := [0, 3]) (by kernel_rfl) (by simp) ?_
          refine AllReadyIn.cons rfl (fun KK hKK => ?_) ?_
          · go_simp
            refine hKK _ _ ?_
            clear hKK KK
            refine wpAnyIn_ready (rs := [3]) (by kernel_rfl) (by simp) ?_
            refine AllReadyIn.cons rfl (fun KK hKK => ?_) ?_
            · go_simp
              refine hKK _ _ ?_
              clear hKK KK
              refine wpAnyIn_ready (rs := [4]) (by kernel_rfl) (by simp) ?_
              refine AllReadyIn.cons rfl (fun KK hKK => ?_) ?_
              · go_simp
                refine ⟨trivial, ?_⟩
                refine (CallsIn.inRound L (callsIn_wide.2 hpc.out)).mono ?_
                rintro e w7 ⟨rfl, g8, cap8, w8, hrun, c7, hx7, c8, f8, q8⟩
                have hrun' := Lib.hid hrun
                clear hrun
                refine hKK _ _ ?_
                clear hKK KK
                refine wpAnyIn_ready (rs := [5]) (by kernel_rfl) (by simp) ?_
                refine AllReadyIn.cons rfl (fun KK hKK => ?_) ?_
                · go_simp
                  refine hKK _ _ ?_
                  clear hKK KK
                  refine wpAnyIn_ready (rs := [6]) (by kernel_rfl) (by simp) ?_
                  refine AllReadyIn.cons rfl (fun KK hKK => ?_) ?_
                  · refine stepIn_append rfl _ _ _ rfl rfl rfl hrun'.out ?_
                    refine hKK _ _ ?_
                    clear hKK KK
                    refine wpAnyIn_ready (rs := [7]) (by kernel_rfl) (by simp) ?_
                    refine AllReadyIn.cons rfl (fun KK hKK => ?_) ?_
                    · go_simp
                      refine hKK _ _ ?_
                      clear hKK KK
                      refine wpAnyIn_done (by kernel_rfl) ?_ _
                      gi_wp2
                      exact ⟨q8.out.1.from _, q8.out.2.1, by rw [hsn.out]; exact q8.out.2.2, hB'.out.trans q8.out.2.1.1⟩
                    exact AllReadyIn.nil
                  exact AllReadyIn.nil
                exact AllReadyIn.nil
              exact AllReadyIn.nil
            exact AllReadyIn.nil
          refine AllReadyIn.cons rfl (fun KK hKK => ?_) ?_
          · go_simp
            refine hKK _ _ ?_
            clear hKK KK
            refine wpAnyIn_ready (rs := [0, 4]) (by kernel_rfl) (by simp) ?_
            refine AllReadyIn.cons rfl (fun KK hKK => ?_) ?_
            · go_simp
              refine hKK _ _ ?_
              clear hKK KK
              refine wpAnyIn_ready (rs := [4]) (by kernel_rfl) (by simp) ?_
              refine AllReadyIn.cons rfl (fun KK hKK => ?_) ?_
              · go_simp
                refine ⟨trivial, ?_⟩
                refine (CallsIn.inRound L (callsIn_wide.2 hpc.out)).mono ?_
                rintro e w7 ⟨rfl, g8, cap8, w8, hrun, c7, hx7, c8, f8, q8⟩
                have hrun' := Lib.hid hrun
                clear hrun
                refine hKK _ _ ?_
                clear hKK KK
                refine wpAnyIn_ready (rs := [5]) (by kernel_rfl) (by simp) ?_
                refine AllReadyIn.cons rfl (fun KK hKK => ?_) ?_
                · go_simp
                  refine hKK _ _ ?_
                  clear hKK KK
                  refine wpAnyIn_ready (rs := [6]) (by kernel_rfl) (by simp) ?_
                  refine AllReadyIn.cons rfl (fun KK hKK => ?_) ?_
                  · refine stepIn_append rfl _ _ _ rfl rfl rfl hrun'.out ?_
                    refine hKK _ _ ?_
                    clear hKK KK
                    refine wpAnyIn_ready (rs := [7]) (by kernel_rfl) (by simp) ?_
                    refine AllReadyIn.cons rfl (fun KK hKK => ?_) ?_
                    · go_simp
                      refine hKK _ _ ?_
                      clear hKK KK
                      refine wpAnyIn_done (by kernel_rfl) ?_ _
                      gi_wp2
                      exact ⟨q8.out.1.from _, q8.out.2.1, by rw [hsn.out]; exact q8.out.2.2, hB'.out.trans q8.out.2.1.1⟩
                    exact AllReadyIn.nil
                  exact AllReadyIn.nil
                exact AllReadyIn.nil
              exact AllReadyIn.nil
            refine AllReadyIn.cons rfl (fun KK hKK => ?_) ?_
            · go_simp
              refine ⟨trivial, ?_⟩
              refine (CallsIn.inRound L (callsIn_wide.2 hpc.out)).mono ?_
              rintro e w7 ⟨rfl, g8, cap8, w8, hrun, c7, hx7, c8, f8, q8⟩
              have hrun' := Lib.hid hrun
              clear hrun
              refine hKK _ _ ?_
              clear hKK KK
              refine wpAnyIn_ready (rs := [0, 5]) (by kernel_rfl) (by simp) ?_
              refine AllReadyIn.cons rfl (fun KK hKK => ?_) ?_
              · go_simp
                refine hKK _ _ ?_
                clear hKK KK
                refine wpAnyIn_ready (rs := [5]) (by kernel_rfl) (by simp) ?_
                refine AllReadyIn.cons rfl (fun KK hKK => ?_) ?_
                · go_simp
                  refine hKK _ _ ?_
                  clear hKK KK
                  refine wpAnyIn_ready (rs := [6]) (by kernel_rfl) (by simp) ?_
                  refine AllReadyIn.cons rfl (fun KK hKK => ?_) ?_
                  · refine stepIn_append rfl _ _ _ rfl rfl rfl hrun'.out ?_
                    refine hKK _ _ ?_
                    clear hKK KK
                    refine wpAnyIn_ready (rs := [7]) (by kernel_rfl) (by simp) ?_
                    refine AllReadyIn.cons rfl (fun KK hKK => ?_) ?_
                    · go_simp
                      refine hKK _ _ ?_
                      clear hKK KK
                      refine wpAnyIn_done (by kernel_rfl) ?_ _
                      gi_wp2
                      exact ⟨q8.out.1.from _, q8.out.2.1, by rw [hsn.out]; exact q8.out.2.2, hB'.out.trans q8.out.2.1.1⟩
                    exact AllReadyIn.nil
                  exact AllReadyIn.nil
                exact AllReadyIn.nil
              refine AllReadyIn.cons rfl (fun KK hKK => ?_) ?_
              · go_simp
                refine hKK _ _ ?_
                clear hKK KK
                refine wpAnyIn_ready (rs := [0]) (by kernel_rfl) (by simp) ?_
                refine AllReadyIn.cons rfl (fun KK hKK => ?_) ?_
                · go_simp
                  refine hKK _ _ ?_
                  clear hKK KK
                  refine wpAnyIn_ready (rs := [6]) (by kernel_rfl) (by simp) ?_
                  refine AllReadyIn.cons rfl (fun KK hKK => ?_) ?_
                  · refine stepIn_append rfl _ _ _ rfl rfl rfl hrun'.out ?_
                    refine hKK _ _ ?_
                    clear hKK KK
                    refine wpAnyIn_ready (rs := [7]) (by kernel_rfl) (by simp) ?_
                    refine AllReadyIn.cons rfl (fun KK hKK => ?_) ?_
                    · go_simp
                      refine hKK _ _ ?_
                      clear hKK KK
                      refine wpAnyIn_done (by kernel_rfl) ?_ _
                      gi_wp2
                      exact ⟨q8.out.1.from _, q8.out.2.1, by rw [hsn.out]; exact q8.out.2.2, hB'.out.trans q8.out.2.1.1⟩
                    exact AllReadyIn.nil
                  exact AllReadyIn.nil
                exact AllReadyIn.nil
              exact AllReadyIn.nil
            exact AllReadyIn.nil
          exact AllReadyIn.nil
        refine AllReadyIn.cons rfl (fun KK hKK => ?_) ?_
        · go_simp
          refine hKK _ _ ?_
          clear hKK KK
          refine wpAnyIn_ready (rs := [0, 1]) (by kernel_rfl) (by simp) ?_
          refine AllReadyIn.cons rfl (fun KK hKK => ?_) ?_
          · go_simp
            refine hKK _ _ ?_
            clear hKK KK
            refine wpAnyIn_ready (rs := [1]) (by kernel_rfl) (by simp) ?_
            refine AllReadyIn.cons rfl (fun KK hKK => ?_) ?_
            · go_simp
              refine hKK _ _ ?_
              clear hKK KK
              refine wpAnyIn_ready (rs := [4]) (by kernel_rfl) (by simp) ?_
              refine AllReadyIn.cons rfl (fun KK hKK => ?_) ?_
              · go_simp
                refine ⟨trivial, ?_⟩
                refine (CallsIn.inRound L (callsIn_wide.2 hpc.out)).mono ?_
                rintro e w7 ⟨rfl, g8, cap8, w8, hrun, c7, hx7, c8, f8, q8⟩
                have hrun' := Lib.hid hrun
                clear hrun
                refine hKK _ _ ?_
                clear hKK KK
                refine wpAnyIn_ready (rs := [5]) (by kernel_rfl) (by simp) ?_
                refine AllReadyIn.cons rfl (fun KK hKK => ?_) ?_
                · go_simp
                  refine hKK _ _ ?_
                  clear hKK KK
                  refine wpAnyIn_ready (rs := [6]) (by kernel_rfl) (by simp) ?_
                  refine AllReadyIn.cons rfl (fun KK hKK => ?_) ?_
                  · refine stepIn_append rfl _ _ _ rfl rfl rfl hrun'.out ?_
                    refine hKK _ _ ?_
                    clear hKK KK
                    refine wpAnyIn_ready (rs := [7]) (by kernel_rfl) (by simp) ?_
                    refine AllReadyIn.cons rfl (fun KK hKK => ?_) ?_
                    · go_simp
                      refine hKK _ _ ?_
                      clear hKK KK
                      refine wpAnyIn_done (by kernel_rfl) ?_ _
                      gi_wp2
                      exact ⟨q8.out.1.from _, q8.out.2.1, by rw [hsn.out]; exact q8.out.2.2, hB'.out.trans q8.out.2.1.1⟩
                    exact AllReadyIn.nil
                  exact AllReadyIn.nil
                exact AllReadyIn.nil
              exact AllReadyIn.nil
            exact AllReadyIn.nil
          refine AllReadyIn.cons rfl (fun KK hKK => ?_) ?_
          · go_simp
            refine hKK _ _ ?_
            clear hKK KK
            refine wpAnyIn_ready (rs := [0, 4]) (by kernel_rfl) (by simp) ?_
            refine AllReadyIn.cons rfl (fun KK hKK => ?_) ?_
            · go_simp
              refine hKK _ _ ?_
              clear hKK KK
              refine wpAnyIn_ready (rs := [4]) (by kernel_rfl) (by simp) ?_
              refine AllReadyIn.cons rfl (fun KK hKK => ?_) ?_
              · go_simp
                refine ⟨trivial, ?_⟩
                refine (CallsIn.inRound L (callsIn_wide.2 hpc.out)).mono ?_
                rintro e w7 ⟨rfl, g8, cap8, w8, hrun, c7, hx7, c8, f8, q8⟩
                have hrun' := Lib.hid hrun
                clear hrun
                refine hKK _ _ ?_
                clear hKK KK
                refine wpAnyIn_ready (rs := [5]) (by kernel_rfl) (by simp) ?_
                refine AllReadyIn.cons rfl (fun KK hKK => ?_) ?_
                · go_simp
                  refine hKK _ _ ?_
                  clear hKK KK
                  refine wpAnyIn_ready (rs := [6]) (by kernel_rfl) (by simp) ?_
                  refine AllReadyIn.cons rfl (fun KK hKK => ?_) ?_
                  · refine stepIn_append rfl _ _ _ rfl rfl rfl hrun'.out ?_
                    refine hKK _ _ ?_
                    clear hKK KK
                    refine wpAnyIn_ready (rs := [7]) (by kernel_rfl) (by simp) ?_
                    refine AllReadyIn.cons rfl (fun KK hKK => ?_) ?_
                    · go_simp
                      refine hKK _ _ ?_
                      clear hKK KK
                      refine wpAnyIn_done (by kernel_rfl) ?_ _
                      gi_wp2
                      exact ⟨q8.out.1.from _, q8.out.2.1, by rw [hsn.out]; exact q8.out.2.2, hB'.out.trans q8.out.2.1.1⟩
                    exact AllReadyIn.nil
                  exact AllReadyIn.nil
                exact AllReadyIn.nil
              exact AllReadyIn.nil
            refine AllReadyIn.cons rfl (fun KK hKK => ?_) ?_
            · go_simp
              refine ⟨trivial, ?_⟩
              refine (CallsIn.inRound L (callsIn_wide.2 hpc.out)).mono ?_
              rintro e w7 ⟨rfl, g8, cap8, w8, hrun, c7, hx7, c8, f8, q8⟩
              have hrun' := Lib.hid hrun
              clear hrun
              refine hKK _ _ ?_
              clear hKK KK
              refine wpAnyIn_ready (rs := [0, 5]) (by kernel_rfl) (by simp) ?_
              refine AllReadyIn.cons rfl (fun KK hKK => ?_) ?_
              · go_simp
                refine hKK _ _ ?_
                clear hKK KK
                refine wpAnyIn_ready (rs := [5]) (by kernel_rfl) (by simp) ?_
                refine AllReadyIn.cons rfl (fun KK hKK => ?_) ?_
                · go_simp
                  refine hKK _ _ ?_
                  clear hKK KK
                  refine wpAnyIn_ready (rs := [6]) (by kernel_rfl) (by simp) ?_
                  refine AllReadyIn.cons rfl (fun KK hKK => ?_) ?_
                  · refine stepIn_append rfl _ _ _ rfl rfl rfl hrun'.out ?_
                    refine hKK _ _ ?_
                    clear hKK KK
                    refine wpAnyIn_ready (rs := [7]) (by kernel_rfl) (by simp) ?_
                    refine AllReadyIn.cons rfl (fun KK hKK => ?_) ?_
                    · go_simp
                      refine hKK _ _ ?_
                      clear hKK KK
                      refine wpAnyIn_done (by kernel_rfl) ?_ _
                      gi_wp2
                      exact ⟨q8.out.1.from _, q8.out.2.1, by rw [hsn.out]; exact q8.out.2.2, hB'.out.trans q8.out.2.1.1⟩
                    exact AllReadyIn.nil
                  exact AllReadyIn.nil
                exact AllReadyIn.nil
              refine AllReadyIn.cons rfl (fun KK hKK => ?_) ?_
              · go_simp
                refine hKK _ _ ?_
                clear hKK KK
                refine wpAnyIn_ready (rs := [0]) (by kernel_rfl) (by simp) ?_
                refine AllReadyIn.cons rfl (fun KK hKK => ?_) ?_
                · go_simp
                  refine hKK _ _ ?_
                  clear hKK KK
                  refine wpAnyIn_ready (rs := [6]) (by kernel_rfl) (by simp) ?_
                  refine AllReadyIn.cons rfl (fun KK hKK => ?_) ?_
                  · refine stepIn_append rfl _ _ _ rfl rfl rfl hrun'.out ?_
                    refine hKK _ _ ?_
                    clear hKK KK
                    refine wpAnyIn_ready (rs := [7]) (by kernel_rfl) (by simp) ?_
                    refine AllReadyIn.cons rfl (fun KK hKK => ?_) ?_
                    · go_simp
                      refine hKK _ _ ?_
                      clear hKK KK
                      refine wpAnyIn_done (by kernel_rfl) ?_ _
                      gi_wp2
                      exact ⟨q8.out.1.from _, q8.out.2.1, by rw [hsn.out]; exact q8.out.2.2, hB'.out.trans q8.out.2.1.1⟩
                    exact AllReadyIn.nil
                  exact AllReadyIn.nil
                exact AllReadyIn.nil
              exact AllReadyIn.nil
            exact AllReadyIn.nil
          exact AllReadyIn.nil
        exact AllReadyIn.nil
      exact AllReadyIn.nil
  case done =>
    rintro D zs W hD rfl ⟨⟨v, hv, hown⟩, hB1⟩ hK
    have ib := incr_mayB hb'.out
    have hlen : (staysL p st (walk o a b)).length ≤ 900 := Nat.le_trans (staysL_le _ _ _) (Nat.le_trans (walk_length _ _ _) (by rw [h'.out.len, hh'.out.len]; exact hnm))
    rw [hs'.out, hq'.out] at hown hlen
    have cv := hv.cell
    gi_wp2
    refine ⟨by simp, .inl ⟨_, _, rfl, run_takeDeferred hK, ?_⟩⟩
    have hbD := belowK_b (w := W0) (n₀ := w.heap.size) hi0.out.size W D _ (Obj.deferred none) hD hK rfl rfl
    refine ⟨.tuple #[v, .int .i64 0], by simp [results, Tryd.results32, go_sem], ?_⟩
    exact made_own h'.out.pos h'.out.steps hq'.out hlen (ownsRow_putObj hown _ hK rfl) ((hi0.out.trans (hB1.mono b4.out.size)).trans hbD)
  case stop =>
    rintro D co pre W _ _ h _
    exact h.elim

set_option maxRecDepth 100000 in
set_option maxHeartbeats 2000000 in
theorem together_no (o p : Nat) (f : FuncId) (A B : Option Addr) (n c m d : Nat) (a b : List Pr) (hf : ¬ ((mayB o a && mayB o b) = true ∧ 1 ≤ p ∧ p ≤ 3)) (w : World) (h : Here w A n c a) (hh : Here w B m d b) :
    Calls Tryd.prog 32 #[.int .u8 o, .slice A n c, .slice B m d, .agg #[.int .u8 p, fnV f]] w (MadeH w 0 [] (.int .i64 2)) := by
  have h' := Lib.hid h
  have hh' := Lib.hid hh
  clear h hh
  have fin : ∀ W', Below w.heap.size w W' → MadeH w 0 [] (.int .i64 2) (.returned (.tuple #[.slice none 0 0, .int .i64 2])) W' := fun W' hb => ⟨none, 0, rfl, here_nil (Nat.lt_of_lt_of_le h'.out.pos hb.size) (h'.out.steps.below h'.out.pos hb), hb⟩
  have fin' := Lib.hid fin
  clear fin
  have b0 := Lib.hid ((Below.refl w.heap.size w).alloc (Nat.le_refl _) (.cells #[.int .u8 (p : Int), fnV f] 52))
  by_cases hp : 1 ≤ p ∧ p ≤ 3
  · cases ha : mayB o a with
    | false =>
      have ha' := Lib.hid ha
      clear hf ha
      go_enter Tryd.func32, Tryd.ntmps32
      go_wp2_with fail
      (with_reducible refine (may_at _ hp.1 hp.2 _).mono ?_)
      rintro e w2 ⟨rfl, hb⟩
      have b2 := Lib.hid (b0.out.trans (hb.mono b0.out.size))
      have a2 := Lib.hid (h'.out.next b2.out)
      clear hb
      go_wp2_with fail
      (with_reducible refine (rowMay_is ha'.out a2.out.len a2.out.k a2.out.pos a2.out.steps a2.out.row).mono ?_)
      rintro e w3 ⟨rfl, hb⟩
      have b3 := Lib.hid (Below.after b2.out hb)
      clear hb
      go_wp2
      go_ret2
      exact fin'.out _ b3.out
    | true =>
      have hb0 : mayB o b = false := by
        cases hb : mayB o b with
        | false => rfl
        | true => exact absurd ⟨by rw [ha, hb]; rfl, hp⟩ hf
      have ha' := Lib.hid ha
      have hb' := Lib.hid hb0
      clear hf ha hb0
      go_enter Tryd.func32, Tryd.ntmps32
      go_wp2_with fail
      (with_reducible refine (may_at _ hp.1 hp.2 _).mono ?_)
      rintro e w2 ⟨rfl, hb⟩
      have b2 := Lib.hid (b0.out.trans (hb.mono b0.out.size))
      have a2 := Lib.hid (h'.out.next b2.out)
      clear hb
      go_wp2_with fail
      (with_reducible refine (rowMay_is ha'.out a2.out.len a2.out.k a2.out.pos a2.out.steps a2.out.row).mono ?_)
      rintro e w3 ⟨rfl, hb⟩
      have b3 := Lib.hid (Below.after b2.out hb)
      have c3 := Lib.hid (hh'.out.next b3.out)
      clear hb
      go_wp2_with fail
      (with_reducible refine (rowMay_is hb'.out c3.out.len c3.out.k c3.out.pos c3.out.steps c3.out.row).mono ?_)
      rintro e w4 ⟨rfl, hb⟩
      have b4 := Lib.hid (Below.after b3.out hb)
      clear hb
      go_wp2
      go_ret2
      exact fin'.out _ b4.out
  · have hq : ¬ (1 ≤ (p : Int) ∧ (p : Int) ≤ 3) := fun ⟨x, y⟩ => hp ⟨by omega, by omega⟩
    have hq' := Lib.hid hq
    clear hf hp hq
    go_enter Tryd.func32, Tryd.ntmps32
    go_wp2_with fail
    (with_reducible refine (may_none _ hq'.out _).mono ?_)
    rintro e w2 ⟨rfl, hb⟩
    have b2 := Lib.hid (b0.out.trans (hb.mono b0.out.size))
    clear hb
    go_wp2
    go_ret2
    exact fin'.out _ b2.out
end Go.Proofs.YtjnnfineebabaaaDoor
/- The contracts of Union, Meet, Less, Apart of package rowset. -/
namespace Go.Proofs.YtjnnfineebabaaaDoor
open Go.RowKit Go.Shelf Go.Proofs.Rowm

set_option maxHeartbeats 400000 in
theorem stays_u : Stays 33 (fun _ _ => true) := by
  refine ⟨enters_of Tryd.func33 (by kernel_rfl) rfl, fun x y w => ?_⟩
  cases x <;> cases y
  all_goals
    go_enter Tryd.func33, Tryd.ntmps33
    go_wp2
    go_ret
    exact ⟨rfl, rfl⟩
set_option maxHeartbeats 400000 in
theorem stays_m : Stays 35 (fun x y => x && y) := by
  refine ⟨enters_of Tryd.func35 (by kernel_rfl) rfl, fun x y w => ?_⟩
  cases x <;> cases y
  all_goals
    go_enter Tryd.func35, Tryd.ntmps35
    go_wp2
    go_ret
    exact ⟨rfl, rfl⟩
set_option maxHeartbeats 400000 in
theorem stays_l : Stays 38 (fun _ y => !y) := by
  refine ⟨enters_of Tryd.func38 (by kernel_rfl) rfl, fun x y w => ?_⟩
  cases x <;> cases y
  all_goals
    go_enter Tryd.func38, Tryd.ntmps38
    go_wp2
    go_ret
    exact ⟨rfl, rfl⟩
set_option maxHeartbeats 400000 in
theorem stays_x : Stays 39 (fun x y => x != y) := by
  refine ⟨enters_of Tryd.func39 (by kernel_rfl) rfl, fun x y w => ?_⟩
  cases x <;> cases y
  all_goals
    go_enter Tryd.func39, Tryd.ntmps39
    go_wp2
    go_ret
    exact ⟨rfl, rfl⟩

set_option maxHeartbeats 2000000 in
theorem union_yes (o p : Nat) (p1 : 1 ≤ p) (p3 : p ≤ 3) (A B : Option Addr) (n c m d : Nat) (a b s : List Pr) (q : Nat) (ha : mayB o a = true) (hb : mayB o b = true) (hs : unionL o p a b = s) (hq : s.length = q) (hnm : n + m ≤ 900) (w : World) (h : Here w A n c a) (hh : Here w B m d b) :
    Calls Tryd.prog 12 #[.int .u8 o, .int .u8 p, .slice A n c, .slice B m d] w (MadeH w q s (.int .i64 0)) := by
  have hc := Lib.hid (together_yes o p p1 p3 33 (fun _ _ => true) stays_u A B n c m d a b s q ha hb ((stays_union (p := p) (incr_mayB ha) (incr_mayB hb)).trans hs) hq hnm w h hh)
  clear h hh ha hb hs hq hnm
  go_enter Tryd.func12, Tryd.ntmps12
  go_wp2_with fail
  refine hc.out.mono ?_
  rintro e w1 ⟨A1, c1, rfl, hh, hb⟩
  have h1 := Lib.hid hh
  have b1 := Lib.hid hb
  clear hh hb hc
  go_wp2
  go_ret2
  exact ⟨_, _, rfl, h1.out, b1.out⟩

set_option maxHeartbeats 2000000 in
theorem union_no (o p : Nat) (A B : Option Addr) (n c m d : Nat) (a b : List Pr) (hf : ¬ ((mayB o a && mayB o b) = true ∧ 1 ≤ p ∧ p ≤ 3)) (w : World) (h : Here w A n c a) (hh : Here w B m d b) :
    Calls Tryd.prog 12 #[.int .u8 o, .int .u8 p, .slice A n c, .slice B m d] w (MadeH w 0 [] (.int .i64 2)) := by
  have hc := Lib.hid (together_no o p 33 A B n c m d a b hf w h hh)
  clear h hh hf
  go_enter Tryd.func12, Tryd.ntmps12
  go_wp2_with fail
  refine hc.out.mono ?_
  rintro e w1 ⟨A1, c1, rfl, hh, hb⟩
  have h1 := Lib.hid hh
  have b1 := Lib.hid hb
  clear hh hb hc
  go_wp2
  go_ret2
  exact ⟨_, _, rfl, h1.out, b1.out⟩

set_option maxHeartbeats 2000000 in
theorem meet_yes (o p : Nat) (p1 : 1 ≤ p) (p3 : p ≤ 3) (A B : Option Addr) (n c m d : Nat) (a b s : List Pr) (q : Nat) (ha : mayB o a = true) (hb : mayB o b = true) (hs : meetL o p a b = s) (hq : s.length = q) (hnm : n + m ≤ 900) (w : World) (h : Here w A n c a) (hh : Here w B m d b) :
    Calls Tryd.prog 14 #[.int .u8 o, .int .u8 p, .slice A n c, .slice B m d] w (MadeH w q s (.int .i64 0)) := by
  have hc := Lib.hid (together_yes o p p1 p3 35 (fun x y => x && y) stays_m A B n c m d a b s q ha hb ((stays_meet (p := p) (incr_mayB ha) (incr_mayB hb)).trans hs) hq hnm w h hh)
  clear h hh ha hb hs hq hnm
  go_enter Tryd.func14, Tryd.ntmps14
  go_wp2_with fail
  refine hc.out.mono ?_
  rintro e w1 ⟨A1, c1, rfl, hh, hb⟩
  have h1 := Lib.hid hh
  have b1 := Lib.hid hb
  clear hh hb hc
  go_wp2
  go_ret2
  exact ⟨_, _, rfl, h1.out, b1.out⟩

set_option maxHeartbeats 2000000 in
theorem meet_no (o p : Nat) (A B : Option Addr) (n c m d : Nat) (a b : List Pr) (hf : ¬ ((mayB o a && mayB o b) = true ∧ 1 ≤ p ∧ p ≤ 3)) (w : World) (h : Here w A n c a) (hh : Here w B m d b) :
    Calls Tryd.prog 14 #[.int .u8 o, .int .u8 p, .slice A n c, .slice B m d] w (MadeH w 0 [] (.int .i64 2)) := by
  have hc := Lib.hid (together_no o p 35 A B n c m d a b hf w h hh)
  clear h hh hf
  go_enter Tryd.func14, Tryd.ntmps14
  go_wp2_with fail
  refine hc.out.mono ?_
  rintro e w1 ⟨A1, c1, rfl, hh, hb⟩
  have h1 := Lib.hid hh
  have b1 := Lib.hid hb
  clear hh hb hc
  go_wp2
  go_ret2
  exact ⟨_, _, rfl, h1.out, b1.out⟩

set_option maxHeartbeats 2000000 in
theorem less_yes (o : Nat) (A B : Option Addr) (n c m d : Nat) (a b s : List Pr) (q : Nat) (ha : mayB o a = true) (hb : mayB o b = true) (hs : lessL o a b = s) (hq : s.length = q) (hnm : n + m ≤ 900) (w : World) (h : Here w A n c a) (hh : Here w B m d b) :
    Calls Tryd.prog 16 #[.int .u8 o, .slice A n c, .slice B m d] w (MadeH w q s (.int .i64 0)) := by
  have hc := Lib.hid (together_yes o 1 (by decide) (by decide) 38 (fun _ y => !y) stays_l A B n c m d a b s q ha hb ((stays_less (p := 1) (incr_mayB ha) (incr_mayB hb)).trans hs) hq hnm w h hh)
  clear h hh ha hb hs hq hnm
  go_enter Tryd.func16, Tryd.ntmps16
  go_wp2_with fail
  refine hc.out.mono ?_
  rintro e w1 ⟨A1, c1, rfl, hh, hb⟩
  have h1 := Lib.hid hh
  have b1 := Lib.hid hb
  clear hh hb hc
  go_wp2
  go_ret2
  exact ⟨_, _, rfl, h1.out, b1.out⟩

set_option maxHeartbeats 2000000 in
theorem less_no (o : Nat) (A B : Option Addr) (n c m d : Nat) (a b : List Pr) (hf : (mayB o a && mayB o b) = false) (w : World) (h : Here w A n c a) (hh : Here w B m d b) :
    Calls Tryd.prog 16 #[.int .u8 o, .slice A n c, .slice B m d] w (MadeH w 0 [] (.int .i64 2)) := by
  have hc := Lib.hid (together_no o 1 38 A B n c m d a b (fun hx => by rw [hf] at hx; exact absurd hx.1 (by decide)) w h hh)
  clear h hh hf
  go_enter Tryd.func16, Tryd.ntmps16
  go_wp2_with fail
  refine hc.out.mono ?_
  rintro e w1 ⟨A1, c1, rfl, hh, hb⟩
  have h1 := Lib.hid hh
  have b1 := Lib.hid hb
  clear hh hb hc
  go_wp2
  go_ret2
  exact ⟨_, _, rfl, h1.out, b1.out⟩

set_option maxHeartbeats 2000000 in
theorem apart_yes (o : Nat) (A B : Option Addr) (n c m d : Nat) (a b s : List Pr) (q : Nat) (ha : mayB o a = true) (hb : mayB o b = true) (hs : apartL o a b = s) (hq : s.length = q) (hnm : n + m ≤ 900) (w : World) (h : Here w A n c a) (hh : Here w B m d b) :
    Calls Tryd.prog 18 #[.int .u8 o, .slice A n c, .slice B m d] w (MadeH w q s (.int .i64 0)) := by
  have hc := Lib.hid (together_yes o 1 (by decide) (by decide) 39 (fun x y => x != y) stays_x A B n c m d a b s q ha hb ((stays_apart (p := 1) (incr_mayB ha) (incr_mayB hb)).trans hs) hq hnm w h hh)
  clear h hh ha hb hs hq hnm
  go_enter Tryd.func18, Tryd.ntmps18
  go_wp2_with fail
  refine hc.out.mono ?_
  rintro e w1 ⟨A1, c1, rfl, hh, hb⟩
  have h1 := Lib.hid hh
  have b1 := Lib.hid hb
  clear hh hb hc
  go_wp2
  go_ret2
  exact ⟨_, _, rfl, h1.out, b1.out⟩

set_option maxHeartbeats 2000000 in
theorem apart_no (o : Nat) (A B : Option Addr) (n c m d : Nat) (a b : List Pr) (hf : (mayB o a && mayB o b) = false) (w : World) (h : Here w A n c a) (hh : Here w B m d b) :
    Calls Tryd.prog 18 #[.int .u8 o, .slice A n c, .slice B m d] w (MadeH w 0 [] (.int .i64 2)) := by
  have hc := Lib.hid (together_no o 1 39 A B n c m d a b (fun hx => by rw [hf] at hx; exact absurd hx.1 (by decide)) w h hh)
  clear h hh hf
  go_enter Tryd.func18, Tryd.ntmps18
  go_wp2_with fail
  refine hc.out.mono ?_
  rintro e w1 ⟨A1, c1, rfl, hh, hb⟩
  have h1 := Lib.hid hh
  have b1 := Lib.hid hb
  clear hh hb hc
  go_wp2
  go_ret2
  exact ⟨_, _, rfl, h1.out, b1.out⟩
end Go.Proofs.YtjnnfineebabaaaDoor
namespace Go.Proofs.YtjnnfineebabaaaDoor
open Go.RowKit Go.Shelf Go.Proofs.Rowm

def exA : List Pr := [(1#64, 10#64), (2#64, 20#64)]
def exB : List Pr := [(2#64, 5#64), (3#64, 30#64)]
def exU : List Pr := [(1#64, 10#64), (2#64, 25#64), (3#64, 30#64)]
theorem may_exA : mayB 1 exA = true := by decide +kernel
theorem may_exB : mayB 1 exB = true := by decide +kernel
theorem may_exU : mayB 1 exU = true := by decide +kernel
theorem n12 : num 1 1#64 < num 1 2#64 := by decide +kernel
theorem n21 : ¬ num 1 2#64 < num 1 1#64 := by decide +kernel
theorem n22 : ¬ num 1 2#64 < num 1 2#64 := by decide +kernel
theorem walk_ex : walk 1 exA exB = [(1#64, some 10#64, none), (2#64, some 20#64, some 5#64), (3#64, none, some 30#64)] := by
  unfold exA exB
  rw [walk, if_pos n12, walk, if_neg n22, if_neg n22, walk_right, walk_end]
theorem union_ex : unionL 1 3 exA exB = exU := by unfold unionL pair2; rw [walk_ex]; decide +kernel
theorem meet_ex : meetL 1 1 exA exB = [(2#64, 20#64)] := by unfold meetL pair2; rw [walk_ex]; decide +kernel
theorem less_ex : lessL 1 exA exB = [(1#64, 10#64)] := by unfold lessL pair2; rw [walk_ex]; decide +kernel
theorem apart_ex : apartL 1 exA exB = [(1#64, 10#64), (3#64, 30#64)] := by unfold apartL pair2; rw [walk_ex]; decide +kernel
theorem at_ex : At 1 exA 2#64 1 2 := by
  have h := at_of (o := 1) (l := exA) (by decide +kernel) 2#64
  rw [show pos 1 2#64 exA = 1 by decide +kernel, show upto 1 2#64 exA = 2 by decide +kernel] at h
  exact h
section
variable {ad bd : Addr} {w : World} (ha : Here w (some ad) 2 2 exA) (hb : Here w (some bd) 2 2 exB)
include ha hb
theorem union_e : Calls Tryd.prog 12 #[.int .u8 1, .int .u8 3, .slice (some ad) 2 2, .slice (some bd) 2 2] w (MadeH w 3 exU (.int .i64 0)) := union_yes 1 3 (by decide) (by decide) _ _ 2 2 2 2 exA exB exU 3 may_exA may_exB union_ex rfl (by omega) w ha hb
theorem meet_e : Calls Tryd.prog 14 #[.int .u8 1, .int .u8 1, .slice (some ad) 2 2, .slice (some bd) 2 2] w (MadeH w 1 [(2#64, 20#64)] (.int .i64 0)) := meet_yes 1 1 (by decide) (by decide) _ _ 2 2 2 2 exA exB _ 1 may_exA may_exB meet_ex rfl (by omega) w ha hb
theorem less_e : Calls Tryd.prog 16 #[.int .u8 1, .slice (some ad) 2 2, .slice (some bd) 2 2] w (MadeH w 1 [(1#64, 10#64)] (.int .i64 0)) := less_yes 1 _ _ 2 2 2 2 exA exB _ 1 may_exA may_exB less_ex rfl (by omega) w ha hb
theorem apart_e : Calls Tryd.prog 18 #[.int .u8 1, .slice (some ad) 2 2, .slice (some bd) 2 2] w (MadeH w 2 [(1#64, 10#64), (3#64, 30#64)] (.int .i64 0)) := apart_yes 1 _ _ 2 2 2 2 exA exB _ 2 may_exA may_exB apart_ex rfl (by omega) w ha hb
end
theorem cut_e {ad : Addr} {w : World} (ha : Here w (some ad) 2 2 exA) : Calls Tryd.prog 22 #[.int .u8 1, .slice (some ad) 2 2, .int .i64 2] w (CutH w 1 0 [(1#64, 10#64)] [] 20#64 true) := cut_yes 1 _ 2 2 exA 2#64 1 2 0 true 20#64 rfl rfl may_exA at_ex rfl w ha

theorem s4_next {w x y : World} {a b c d : Addr} {u1 u2 u3 u4 : Value} (h : x.cell? a = some u1 ∧ x.cell? b = some u2 ∧ x.cell? c = some u3 ∧ x.cell? d = some u4 ∧ Below w.heap.size w x) (hb : Below x.heap.size x y) :
    y.cell? a = some u1 ∧ y.cell? b = some u2 ∧ y.cell? c = some u3 ∧ y.cell? d = some u4 ∧ Below w.heap.size w y :=
  ⟨keep_cell hb h.1, keep_cell hb h.2.1, keep_cell hb h.2.2.1, keep_cell hb h.2.2.2.1, Below.after h.2.2.2.2 hb⟩
theorem below_new (x : World) (o : Obj) : Below x.heap.size x (x.alloc o) := (Below.refl _ x).alloc (Nat.le_refl _) o
theorem below_newd (x : World) (o : Obj) : Below x.heap.size x (x.alloc o).drew := ((Below.refl _ x).alloc (Nat.le_refl _) o).drew

set_option maxRecDepth 100000 in
set_option maxHeartbeats 8000000 in
theorem alive5_any (w : World) (h0 : 0 < w.heap.size) (hs : Steps w) : Calls Tryd.prog 7 #[] w fun e w' => e = .returned (.bool true) ∧ Below w.heap.size w w' := by
  have hs' := Lib.hid hs
  clear hs
  have hA := (Has.new w 42 #[.int .i64 1, .int .i64 10, .int .i64 2, .int .i64 20]).alloc (.cells #[.int .i64 2, .int .i64 5, .int .i64 3, .int .i64 30] 42)
  have hB := Has.new (w.alloc (.cells #[.int .i64 1, .int .i64 10, .int .i64 2, .int .i64 20] 42)) 42 #[.int .i64 2, .int .i64 5, .int .i64 3, .int .i64 30]
  rw [World.size_alloc] at hB
  have kw := ((Below.refl w.heap.size w).alloc (Nat.le_refl _) (.cells #[.int .i64 1, .int .i64 10, .int .i64 2, .int .i64 20] 42)).alloc (by simp) (.cells #[.int .i64 2, .int .i64 5, .int .i64 3, .int .i64 30] 42)
  obtain ⟨W0, hW0⟩ : ∃ W0, (w.alloc (.cells #[.int .i64 1, .int .i64 10, .int .i64 2, .int .i64 20] 42)).alloc (.cells #[.int .i64 2, .int .i64 5, .int .i64 3, .int .i64 30] 42) = W0 := ⟨_, rfl⟩
  rw [hW0] at hA hB kw
  have a0 : Hid (Here W0 (some ⟨w.heap.size, 0, none⟩) 2 2 exA) := ⟨rfl, by omega, by omega, (fun e => by cases e), Nat.lt_of_lt_of_le h0 kw.size, hs'.out.below h0 kw, hA.row⟩
  have q0 : Hid (Here W0 (some ⟨w.heap.size + 1, 0, none⟩) 2 2 exB) := ⟨rfl, by omega, by omega, (fun e => by cases e), Nat.lt_of_lt_of_le h0 kw.size, hs'.out.below h0 kw, hB.row⟩
  have k0 := Lib.hid kw
  have x0 := Lib.hid hA
  have y0 := Lib.hid hB
  clear hA hB kw
  go_enter Tryd.func7, Tryd.ntmps7
  go_wp2_with fail
  clear hW0
  refine (union_e a0.out q0.out).mono ?_
  rintro e w1 ⟨Au, cu, rfl, hh, hb⟩
  have a1 := Lib.hid (a0.out.next hb)
  have q1 := Lib.hid (q0.out.next hb)
  have x1 := Lib.hid (x0.out.next hb)
  have y1 := Lib.hid (y0.out.next hb)
  have k1 := Lib.hid (Below.after k0.out hb)
  have u1 := Lib.hid hh
  clear hh hb a0 q0 x0 y0 k0
  go_wp2_with fail
  refine (meet_e a1.out q1.out).mono ?_
  rintro e w2 ⟨Am, cm, rfl, hh, hb⟩
  have a2 := Lib.hid (a1.out.next hb)
  have q2 := Lib.hid (q1.out.next hb)
  have x2 := Lib.hid (x1.out.next hb)
  have y2 := Lib.hid (y1.out.next hb)
  have u2 := Lib.hid (u1.out.next hb)
  have k2 := Lib.hid (Below.after k1.out hb)
  have m2 := Lib.hid hh
  clear hh hb a1 q1 x1 y1 u1 k1
  go_wp2_with fail
  refine (less_e a2.out q2.out).mono ?_
  rintro e w3 ⟨Al, cl, rfl, hh, hb⟩
  have a3 := Lib.hid (a2.out.next hb)
  have q3 := Lib.hid (q2.out.next hb)
  have x3 := Lib.hid (x2.out.next hb)
  have y3 := Lib.hid (y2.out.next hb)
  have u3 := Lib.hid (u2.out.next hb)
  have m3 := Lib.hid (m2.out.next hb)
  have k3 := Lib.hid (Below.after k2.out hb)
  have l3 := Lib.hid hh
  clear hh hb a2 q2 x2 y2 u2 m2 k2
  go_wp2_with fail
  refine (apart_e a3.out q3.out).mono ?_
  rintro e w4 ⟨Ad, cd, rfl, hh, hb⟩
  have a4 := Lib.hid (a3.out.next hb)
  have q4 := Lib.hid (q3.out.next hb)
  have x4 := Lib.hid (x3.out.next hb)
  have y4 := Lib.hid (y3.out.next hb)
  have u4 := Lib.hid (u3.out.next hb)
  have m4 := Lib.hid (m3.out.next hb)
  have l4 := Lib.hid (l3.out.next hb)
  have k4 := Lib.hid (Below.after k3.out hb)
  have d4 := Lib.hid hh
  clear hh hb a3 q3 x3 y3 u3 m3 l3 k3
  go_wp2_with fail
  refine (cut_e a4.out).mono ?_
  rintro e w5 ⟨Ac, cc, Az, cz, rfl, hh, _, hb⟩
  have a5 := Lib.hid (a4.out.next hb)
  have q5 := Lib.hid (q4.out.next hb)
  have x5 := Lib.hid (x4.out.next hb)
  have y5 := Lib.hid (y4.out.next hb)
  have u5 := Lib.hid (u4.out.next hb)
  have m5 := Lib.hid (m4.out.next hb)
  have l5 := Lib.hid (l4.out.next hb)
  have d5 := Lib.hid (d4.out.next hb)
  have k5 := Lib.hid (Below.after k4.out hb)
  have g5 := Lib.hid hh
  clear hh hb a4 q4 x4 y4 u4 m4 l4 d4 k4
  go_wp2_with fail
  obtain ⟨W, hW⟩ : ∃ W, w5 = W := ⟨_, rfl⟩
  rw [hW] at a5 q5 x5 y5 u5 m5 l5 d5 k5 g5 ⊢
  clear hW
  have c0 : W.cell? ⟨w.heap.size, 0, none⟩ = some (.int .i64 1) := x5.out.cell 0
  have c1 : W.cell? ⟨w.heap.size, 1, none⟩ = some (.int .i64 10) := x5.out.cell 1
  have c2 : W.cell? ⟨w.heap.size + 1, 2, none⟩ = some (.int .i64 3) := y5.out.cell 2
  have c3 : W.cell? ⟨w.heap.size + 1, 3, none⟩ = some (.int .i64 30) := y5.out.cell 3
  have rl : Hid (Row W W.heap.size (some ⟨w.heap.size, 2, none⟩) (flat [(2#64, 20#64)])) := by
    have := a5.out.row.drop 2 (c := 2) (i := 1) (size := 2) rfl (by decide)
    exact this
  have rf : Hid (Row W W.heap.size (some ⟨w.heap.size, 0, none⟩) (flat [(1#64, 10#64)])) := a5.out.row.take 2
  have bW := Lib.hid (Below.refl W.heap.size W)
  have hcut : ∀ W', (Instr.slice 22 (.slice (some ⟨w.heap.size, 0, none⟩) 2 2) (some (.int .i64 1)) none none).run Tryd.prog W' = .ok (.slice (some ⟨w.heap.size, 2, none⟩) 1 1) W' := fun W' => by
    simp [Instr.slice, run_underlying Tryd.underlying22, Instr.sliceBounds, run_sliceBound, Result.andThen, Addr.add]
  have hcut2 : ∀ W', (Instr.slice 22 (.slice (some ⟨w.heap.size, 0, none⟩) 2 2) none (some (.int .i64 1)) none).run Tryd.prog W' = .ok (.slice (some ⟨w.heap.size, 0, none⟩) 1 2) W' := fun W' => by
    simp [Instr.slice, run_underlying Tryd.underlying22, Instr.sliceBounds, run_sliceBound, Result.andThen, Addr.add]
  have s1d : Hid (Calls Tryd.prog 11 #[.slice Au 3 cu, .slice (some ⟨W.heap.size, 0, none⟩) 3 3] (W.alloc (.cells #[.int .i64 1, .int .i64 10, .int .i64 2, .int .i64 25, .int .i64 3, .int .i64 30] 42)).drew fun e w' => e = .returned (.bool true) ∧ Below (W.alloc (.cells #[.int .i64 1, .int .i64 10, .int .i64 2, .int .i64 25, .int .i64 3, .int .i64 30] 42)).drew.heap.size (W.alloc (.cells #[.int .i64 1, .int .i64 10, .int .i64 2, .int .i64 25, .int .i64 3, .int .i64 30] 42)).drew w') :=
    same4_yes Au _ 3 cu 3 exU rfl (by omega) _ (u5.out.row.next (below_newd W _)) (((Has.new W 42 #[.int .i64 1, .int .i64 10, .int .i64 2, .int .i64 25, .int .i64 3, .int .i64 30]).drewN 1).row)
  have s2 : Hid (∀ x : World, Below W.heap.size W x → Calls Tryd.prog 11 #[.slice Am 1 cm, .slice (some ⟨w.heap.size, 2, none⟩) 1 1] x fun e w' => e = .returned (.bool true) ∧ Below x.heap.size x w') :=
    fun x hx => same4_yes Am _ 1 cm 1 [(2#64, 20#64)] rfl (by omega) x (m5.out.row.next hx) (rl.out.next hx)
  have s3 : Hid (∀ x : World, Below W.heap.size W x → Calls Tryd.prog 11 #[.slice Al 1 cl, .slice (some ⟨w.heap.size, 0, none⟩) 1 2] x fun e w' => e = .returned (.bool true) ∧ Below x.heap.size x w') :=
    fun x hx => same4_yes Al _ 1 cl 2 [(1#64, 10#64)] rfl (by omega) x (l5.out.row.next hx) (rf.out.next hx)
  have s5 : Hid (∀ x : World, Below W.heap.size W x → Calls Tryd.prog 11 #[.slice Ac 1 cc, .slice (some ⟨w.heap.size, 0, none⟩) 1 2] x fun e w' => e = .returned (.bool true) ∧ Below x.heap.size x w') :=
    fun x hx => same4_yes Ac _ 1 cc 2 [(1#64, 10#64)] rfl (by omega) x (g5.out.row.next hx) (rf.out.next hx)
  have s4 : Hid (∀ x : World, Below W.heap.size W (x.alloc (.cells #[.int .i64 1, .int .i64 10, .int .i64 3, .int .i64 30] 42)) → Calls Tryd.prog 11 #[.slice Ad 2 cd, .slice (some ⟨x.heap.size, 0, none⟩) 2 2] (x.alloc (.cells #[.int .i64 1, .int .i64 10, .int .i64 3, .int .i64 30] 42)) fun e w' => e = .returned (.bool true) ∧ Below (x.alloc (.cells #[.int .i64 1, .int .i64 10, .int .i64 3, .int .i64 30] 42)).heap.size (x.alloc (.cells #[.int .i64 1, .int .i64 10, .int .i64 3, .int .i64 30] 42)) w') :=
    fun x hx => same4_yes Ad _ 2 cd 2 [(1#64, 10#64), (3#64, 30#64)] rfl (by omega) _ (d5.out.row.next hx) (Has.new x 42 #[.int .i64 1, .int .i64 10, .int .i64 3, .int .i64 30]).row
  clear a5 q5 x5 y5 u5 m5 l5 d5 g5 rl rf
  go_region_held3 (fun w' => w'.cell? ⟨w.heap.size, 0, none⟩ = some (.int .i64 1) ∧ w'.cell? ⟨w.heap.size, 1, none⟩ = some (.int .i64 10) ∧ w'.cell? ⟨w.heap.size + 1, 2, none⟩ = some (.int .i64 3) ∧ w'.cell? ⟨w.heap.size + 1, 3, none⟩ = some (.int .i64 30) ∧ Below W.heap.size W w')
    (first | exact ⟨c0, c1, c2, c3, bW.out.drew⟩ | assumption | exact s4_next (w := W) ⟨c0, c1, c2, c3, bW.out⟩ (below_newd W _) | exact s4_next (w := W) (by assumption) (below_new _ _) | exact s4_next (w := W) (by assumption) (below_newd _ _))
    (first
      | (go_at_call 11; (first | (with_reducible refine s1d.out.mono ?_) | (with_reducible refine (s2.out _ (And.right (And.right (And.right (And.right (by assumption)))))).mono ?_) | (with_reducible refine (s3.out _ (And.right (And.right (And.right (And.right (by assumption)))))).mono ?_) | (with_reducible refine (s4.out _ (And.right (And.right (And.right (And.right (by assumption)))))).mono ?_) | (with_reducible refine (s5.out _ (And.right (And.right (And.right (And.right (by assumption)))))).mono ?_)); rintro e w' ⟨rfl, hb⟩; have hS' := s4_next (w := W) (by assumption) hb; clear hb))
  all_goals
    go_wp2
    go_ret
    exact ⟨rfl, Below.after k5.out (And.right (And.right (And.right (And.right (by assumption)))))⟩
end Go.Proofs.YtjnnfineebabaaaDoor
