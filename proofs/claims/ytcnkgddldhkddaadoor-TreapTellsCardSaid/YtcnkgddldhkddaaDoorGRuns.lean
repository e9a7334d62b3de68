/- A range over a function that writes variables of its own between its rounds: who goes over it keeps, of what the function lays from its call on, only what is cells of other kinds than the function's own. (A law of our own; no program in it.) -/
import Derived.RangeFuncNested
import Derived.RangeFuncBox
import Derived.RangeFuncCalls
import Derived.RangeFuncLeaves
import Derived.Lib.Hide
import Derived.Test.YtcnkgddldhkddaaDoorGRow
namespace Go.Proofs.YtcnkgddldhkddaaDoor
open Go Go.RowKit

/-- from block B on the function may turn what is no cells, and cells of its own kinds -/
structure Turn (mine : TypeId → Bool) (B : Nat) (W W' : World) : Prop where
  os : W'.os = W.os
  tape : W'.tape = W.tape
  output : W'.output = W.output
  size : W.heap.size ≤ W'.heap.size
  keep : ∀ (k : Nat) (o : Obj), W.heap[k]? = some o → (k < B ∨ ∃ cs t fr, o = .cells cs t fr ∧ mine t = false) → W'.heap[k]? = some o
/-- what is not minded -/
def Abide {β : Type} (mine : TypeId → Bool) (B : Nat) (J : β → World → Prop) : Prop := ∀ s W W', J s W → Turn mine B W W' → J s W'
section
variable {mine : TypeId → Bool} {B B' : Nat} {W W' W'' : World}
theorem Turn.refl (mine : TypeId → Bool) (B : Nat) (W : World) : Turn mine B W W := ⟨rfl, rfl, rfl, Nat.le_refl _, fun _ _ h _ => h⟩
theorem Turn.trans (h : Turn mine B W W') (k : Turn mine B W' W'') : Turn mine B W W'' :=
  ⟨k.os.trans h.os, k.tape.trans h.tape, k.output.trans h.output, Nat.le_trans h.size k.size, fun i o hi ho => k.keep i o (h.keep i o hi ho) ho⟩
theorem Turn.mono (h : Turn mine B' W W') (hB : B ≤ B') : Turn mine B W W' := ⟨h.os, h.tape, h.output, h.size, fun i o hi ho => h.keep i o hi (ho.imp (fun x => Nat.lt_of_lt_of_le x hB) id)⟩
theorem Turn.of_below (h : Below W.heap.size W W') : Turn mine B W W' := ⟨h.os, h.tape, h.output, h.size, fun i _ hi _ => (h.block i (Array.getElem?_eq_some_iff.1 hi).1).trans hi⟩
theorem Turn.below (h : Turn mine B W W') (hB : B ≤ W.heap.size) : Below B W W' := ⟨h.os, h.tape, h.output, h.size, fun k hk => by
  have hlt : k < W.heap.size := Nat.lt_of_lt_of_le hk hB
  rw [Array.getElem?_eq_getElem hlt]
  exact h.keep k _ (Array.getElem?_eq_getElem hlt) (.inl hk)⟩
theorem Turn.grown {row : Option Nat} (h : W.grownBy W' row) (hr : ∀ r, row = some r → B ≤ r ∧ ∃ o : Obj, W.heap[r]? = some o ∧ (o.isCells = false ∨ ∃ cs t fr, o = .cells cs t fr ∧ mine t = true)) : Turn mine B W W' := by
  refine ⟨h.os, h.tape, h.output, h.size, fun i o hi ho => (h.block i (Array.getElem?_eq_some_iff.1 hi).1 (fun e => ?_)).trans hi⟩
  obtain ⟨h1, o', h2, h3⟩ := hr i e.symm
  rw [hi] at h2
  cases h2
  rcases ho with ho | ⟨cs, t, fr, rfl, ht⟩
  · omega
  · rcases h3 with h3 | ⟨_, _, _, e1, h3⟩
    · cases h3
    · cases e1; rw [ht] at h3; cases h3
theorem Turn.put {l : Nat} {o : Obj} (o' : Obj) (hB : B ≤ l) (hl : W.heap[l]? = some o) (ho : o.isCells = false) : Turn mine B W (W.putObj l o') :=
  .grown (grownBy_putObj' W l o') (fun r e => by cases e; exact ⟨hB, o, hl, .inl ho⟩)
/-- a store into a variable of the function's own -/
theorem Turn.store {g : Nat} {t : TypeId} {v : Value} (h : Boxed W g t v) (u : Value) (ht : mine t = true) (hg : B ≤ g) : Turn mine B W (W.setCell ⟨g, 0, none⟩ u) :=
  .grown (grownBy_setCell' W g u) (fun r e => by cases e; exact ⟨hg, _, h, .inr ⟨_, _, _, rfl, ht⟩⟩)
/-- a row of the function's own has grown -/
theorem Turn.row {base n size : Nat} {e : TypeId} {v : Value} {xs : List Value} (h : W.grownBy W' v.ownBlock) (hr : W.ownsRow base e size v n xs) (he : mine e = true) (hb : B ≤ base) : Turn mine B W W' :=
  .grown h (fun r er => by
    rcases hr.2 with ⟨rfl, _⟩ | ⟨g, cap, cur, rfl, hbg, hgb, _⟩
    · simp [Value.ownBlock] at er
    · obtain rfl : r = g := by simpa [Value.ownBlock] using er.symm
      exact ⟨Nat.le_trans hb hbg, _, hgb, .inr ⟨_, _, _, rfl, he⟩⟩)
theorem Turn.boxed (h : Turn mine B W W') {g : Nat} {t : TypeId} {v : Value} (hb : Boxed W g t v) (ht : mine t = false ∨ g < B) : Boxed W' g t v := h.keep g _ hb (ht.elim (fun x => .inr ⟨_, _, _, rfl, x⟩) .inl)
theorem Turn.owned (h : Turn mine B W W') {base n size : Nat} {e : TypeId} {v : Value} {xs : List Value} (hr : W.ownsRow base e size v n xs) (he : mine e = false) : W'.ownsRow base e size v n xs := by
  refine ⟨hr.1, ?_⟩
  rcases hr.2 with hn | ⟨g, cap, cur, h1, h2, h3, rest⟩
  · exact .inl hn
  · exact .inr ⟨g, cap, cur, h1, h2, h.keep g _ h3 (.inr ⟨_, _, _, rfl, he⟩), rest⟩
theorem Abide.and {β : Type} {J K : β → World → Prop} (h : Abide mine B J) (k : Abide mine B K) : Abide mine B (fun s W => J s W ∧ K s W) := fun s A C hs ht => ⟨h s A C hs.1 ht, k s A C hs.2 ht⟩
theorem Abide.pure {β : Type} (p : β → Prop) : Abide mine B (fun s (_ : World) => p s) := fun _ _ _ h _ => h
theorem Abide.mono {β : Type} {J : β → World → Prop} (h : Abide mine B J) (hB : B ≤ B') : Abide mine B' J := fun s A C hs ht => h s A C hs (ht.mono hB)
theorem Abide.boxed {β : Type} (g : Nat) (t : TypeId) (f : β → Value) (ht : mine t = false ∨ g < B) : Abide mine B (fun s W => Boxed W g t (f s)) := fun _ _ _ hs h => h.boxed hs ht
theorem Abide.holds {β : Type} (base g : Nat) (t e : TypeId) (size : Nat) (k : β → Nat) (f : β → List Value) (ht : mine t = false ∨ g < B) (he : mine e = false) : Abide mine B (fun s W => ∃ v, Boxed W g t v ∧ W.ownsRow base e size v (k s) (f s)) :=
  fun _ _ _ ⟨v, h1, h2⟩ h => ⟨v, h.boxed h1 ht, h.owned h2 he⟩
theorem Abide.below {β : Type} {w : World} {n₀ : Nat} (hn : n₀ ≤ B) (hB : n₀ ≤ w.heap.size) : Abide mine B (fun (_ : β) W => Below n₀ w W) := fun _ A _ hs h =>
  hs.trans ⟨h.os, h.tape, h.output, h.size, fun k hk => by
    have hlt : k < A.heap.size := Nat.lt_of_lt_of_le hk (Nat.le_trans hB hs.size)
    rw [Array.getElem?_eq_getElem hlt]
    exact h.keep k _ (Array.getElem?_eq_getElem hlt) (.inl (Nat.lt_of_lt_of_le hk hn))⟩
end

theorem keepsFrom_later {B B' : Nat} {W W' : World} (h : KeepsFrom B W W') (hB : B ≤ B') : KeepsFrom B' W W' := ⟨h.size, fun k o hk => h.same k o (Nat.le_trans hB hk)⟩
theorem keepsFrom_put {B l : Nat} (W : World) (o : Obj) (h : l < B) : KeepsFrom B W (W.putObj l o) := ⟨by simp, fun k _ hk hc _ => (World.putObj_heap_other (by omega)).trans hc⟩
/-- a function that goes over ps, one by one, as far as it is asked -/
def SeqRuns {α : Type} (mine : TypeId → Bool) (F : Fence) (n : Nat) (P : Program) (g : Nat) (lb : Array Value) (encs : α → Array Value) (Kp : World → World → Prop) (ps : List α) (w : World) : Prop :=
  ∀ (l : Nat) (J Jx : List α → World → Prop) (W : World), Below w.heap.size w W → Abide mine W.heap.size J → Abide mine W.heap.size Jx →
    (∀ pre x W1, J pre W1 → pre ++ [x] <+: ps → YieldAt F (n - 1) P l (encs x) W1 fun e W' =>
      ((e = .returned (.bool true) ∧ J (pre ++ [x]) W' ∧ Kp W1 W') ∨ (e = .returned (.bool false) ∧ Jx (pre ++ [x]) W')) ∧ KeepsFrom W.heap.size W1 W') →
    J [] W →
    CallsIn F n P g (#[.func (.yield l) #[] #[]] ++ lb) W fun e W' => (∃ v, e = .returned v) ∧ (J ps W' ∨ (∃ pre, pre <+: ps ∧ Jx pre W'))
theorem SeqRuns.later {α : Type} {mine : TypeId → Bool} {F : Fence} {n : Nat} {P : Program} {g : Nat} {lb : Array Value} {encs : α → Array Value} {Kp : World → World → Prop} {ps : List α} {w w' : World}
    (h : SeqRuns mine F n P g lb encs Kp ps w) (hb : Below w.heap.size w w') : SeqRuns mine F n P g lb encs Kp ps w' := fun l J Jx W hW => h l J Jx W (Below.after hb hW)

theorem wpIn_rangeFunc_runs {α : Type} {mine : TypeId → Bool} {F : Fence} {n : Nat} {P : Program} {w : World} {g : Operand} {ps : Array Tmp} {assign body : Code} {Q : Exit → Act → World → Prop} {a : Act}
    (hro : F.round = none) (h1 : 1 ≤ n) {gf : Nat} {lb : Array Value} (hg : a.eval g = .func (.func gf) #[] lb) (hFg : F.fn gf) (eg : ∀ args w, (callFunc gf args).run P w = .ok (.enter gf args) w)
    {encs : α → Array Value} {Kp : World → World → Prop} {xs : List α} {w0 : World} (hseq : SeqRuns mine F (n - 1) P gf lb encs Kp xs w0)
    (hKt : ∀ {A B C : World}, Kp A B → Kp B C → Kp A C) (hKb : ∀ (W : World) (l : Nat) (o o' : Obj), w.heap.size ≤ l → W.heap[l]? = some o → o.isCells = false → o.isWalk = false → Kp W (W.putObj l o')) (hb0 : Below w0.heap.size w0 w) (hps : ∀ x, (encs x).size = ps.size)
    (I : List α → World → Prop) (Ix : Code → List α → World → Prop) (hI : Abide mine w.heap.size I) (hIx : ∀ c, Abide mine w.heap.size (Ix c)) (h0 : I [] w) (Ax : α → Act → World → Prop) (hAx : ∀ x a', OwnFrom w.heap.size (fun (_ : Unit) W => Ax x a' W))
    (hassign : ∀ (l : Nat) (pre : List α) (x : α) (W : World) (K : Act → World → Prop), I pre W → pre ++ [x] <+: xs → (∀ a' W', KeepsFrom w.heap.size W W' → Kp W W' → I pre W' → Ax x a' W' → K a' W') →
      assign.wpIn (F.inRound l) (n - 1 - 1) P (Exit.then K (fun _ _ _ => False)) { tmps := (ps.zip (encs x)).foldl (fun t (p, v) => t.setIfInBounds p v) a.tmps, defers := [] } W)
    (hbody : ∀ (l : Nat) (pre : List α) (x : α) (a' : Act) (W : World), w.heap.size ≤ l → (∃ r, W.heap[l]? = some (.loop r)) → I pre W → Ax x a' W → pre ++ [x] <+: xs → body.wpIn (F.inRound l) (n - 1 - 1) P (ownPostG w.heap.size Kp I Ix (pre ++ [x]) W) a' W)
    (hdone : ∀ (D : Nat) (W : World), w.heap.size ≤ D → I xs W → W.heap[D]? = some (.deferred (some [])) → Q .normal { a with defers := { target := .collected D, args := #[] } :: a.defers } W)
    (hstop : ∀ (D : Nat) (c : Code) (pre : List α) (W : World), w.heap.size ≤ D → pre <+: xs → Ix c pre W → W.heap[D]? = some (.deferred (some [])) → c.wpIn F n P Q { a with defers := { target := .collected D, args := #[] } :: a.defers } W) :
    (Code.rangeFunc g ps assign body).wpIn F n P Q a w := by
  refine wpIn_rangeFunc fun fn hfn => ?_
  rw [hro]
  obtain ⟨N, hN⟩ : ∃ N, w.heap.size = N := ⟨_, rfl⟩
  obtain ⟨rec, hrec⟩ : ∃ rec : LoopState → Option Code → Loop, rec = fun st pe => { state := st, pending := pe, fn, tmps := a.tmps, params := ps, assign, body, defers := w.heap.size } := ⟨_, rfl⟩
  obtain ⟨W1, hW1⟩ : ∃ W1, (w.alloc (.deferred (some []))).alloc (.loop (rec .ready none)) = W1 := ⟨_, rfl⟩
  have z1 : W1.heap.size = N + 2 := by rw [← hW1]; simp [hN]
  have iL : W1.heap[N + 1]? = some (.loop (rec .ready none)) := by
    have := World.alloc_heap_new (w.alloc (.deferred (some []))) (.loop (rec .ready none))
    rw [World.size_alloc, hN] at this
    rw [← hW1]; exact this
  have iD : W1.heap[N]? = some (.deferred (some [])) := by
    have h2 := World.alloc_heap_new w (.deferred (some []))
    rw [hN] at h2
    rw [← hW1]; exact (Below.heap_alloc _ _ _ (by simp [hN])).trans h2
  have iW : Below w.heap.size w W1 := by
    rw [← hW1]
    exact ((Below.refl _ w).alloc (Nat.le_refl _) _).trans (((Below.refl _ _).alloc (Nat.le_refl _) _).mono (by simp))
  have iI : I [] W1 := hI _ _ _ h0 (.of_below iW)
  have iB : Below w0.heap.size w0 W1 := Below.after hb0 iW
  rw [hN] at hI hIx hKb hAx hassign hbody hdone hstop
  refine ⟨N + 1, [{ target := .collected N, args := #[] }], W1, { target := .fn (.func gf) lb, args := #[.func (.yield (N + 1)) #[] #[]] }, W1, gf, #[.func (.yield (N + 1)) #[] #[]] ++ lb, W1, ?enter, ?res, ?leads, ?inv, fun _ => h1, ?calls⟩
  case enter =>
    have := run_enterLoop_outer (P := P) (w := w) fn a.tmps ps assign body
    rw [hN] at this
    rw [this, ← hW1, hrec, hN]
  case res =>
    simp only [resolve, hg]
    simp [go_sem]
  case leads =>
    intro f' hf'
    simp [Target.leads] at hf'
    subst hf'
    exact hFg
  case inv => simp [invoke, go_sem, eg]
  case calls =>
    rw [hN] at hrec
    have keepT : ∀ {A C : World} {o : Obj} {k : Nat}, Turn mine W1.heap.size A C → k < N + 2 → A.heap[k]? = some o → C.heap[k]? = some o := fun ht hk ho => ht.keep _ _ ho (.inl (by omega))
    refine (hseq (N + 1) (fun pre W => I pre W ∧ W.heap[N + 1]? = some (.loop (rec .ready none)) ∧ W.heap[N]? = some (.deferred (some [])))
      (fun pre W => ∃ c, Ix c pre W ∧ W.heap[N + 1]? = some (.loop (rec .done (some c))) ∧ W.heap[N]? = some (.deferred (some []))) W1 iB
      (fun s A C hs ht => ⟨hI s A C hs.1 (ht.mono (by omega)), keepT ht (by omega) hs.2.1, keepT ht (by omega) hs.2.2⟩)
      (fun s A C hs ht => let ⟨c, h2, h3, h4⟩ := hs; ⟨c, hIx c s A C h2 (ht.mono (by omega)), keepT ht (by omega) h3, keepT ht (by omega) h4⟩) ?_ ⟨iI, iL, iD⟩).mono ?_
    · rintro pre x V ⟨vI, vL, vD⟩ hx
      have hy := run_yield (P := P) (args := encs x) vL (by rw [hrec]; exact hps x)
      rw [hrec] at hy
      refine ⟨fn, _, assign, body, hy, roundIn_of_wpIn hfn (hassign _ pre x V _ vI hx ?_)⟩
      intro a' X kX pX xI xA
      have xL := kX.same _ _ (by omega) vL rfl
      have xD := kX.same _ _ (Nat.le_refl _) vD rfl
      have xz := (Array.getElem?_eq_some_iff.1 xL).1
      obtain ⟨Y, hY⟩ : ∃ Y, X.putObj (N + 1) (.loop { rec .ready none with state := .busy }) = Y := ⟨_, rfl⟩
      have yL : Y.heap[N + 1]? = some (.loop { rec .ready none with state := .busy }) := by rw [← hY]; exact World.putObj_heap_same xz
      have yD : Y.heap[N]? = some (.deferred (some [])) := by rw [← hY]; exact (World.putObj_heap_other (by omega)).trans xD
      have yI : I pre Y := by rw [← hY]; exact hI _ _ _ xI (.put _ (by omega) xL rfl)
      have yA : Ax x a' Y := by rw [← hY]; exact (hAx x a').putObj (s := ()) _ xA (by omega) xL rfl
      have yK : Kp X Y := by rw [← hY]; exact hKb _ _ _ _ (by omega) xL rfl rfl
      refine ⟨Y, (run_beginRound xL (by rw [hrec])).trans (by rw [hY]), wpIn_mono (hbody _ pre x a' Y (by omega) ⟨_, yL⟩ yI yA hx) ?_⟩
      have fin : ∀ (jump : Option Code) (Z : World), KeepsFrom N Y Z →
          (Instr.endRound (N + 1) jump).run P Z = .ok (.bool jump.isNone) (Z.putObj (N + 1) (.loop (rec (if jump.isNone then .ready else .done) jump))) ∧
          Z.heap[N + 1]? = some (.loop { rec .ready none with state := .busy }) ∧
          (Z.putObj (N + 1) (.loop (rec (if jump.isNone then .ready else .done) jump))).heap[N + 1]? = some (.loop (rec (if jump.isNone then .ready else .done) jump)) ∧
          (Z.putObj (N + 1) (.loop (rec (if jump.isNone then .ready else .done) jump))).heap[N]? = some (.deferred (some [])) := fun jump Z kZ => by
        have zL := kZ.same _ _ (by omega) yL rfl
        have := run_endRound (P := P) jump zL
        rw [hrec] at this ⊢
        exact ⟨this, by rw [hrec] at zL; exact zL, World.putObj_heap_same (Array.getElem?_eq_some_iff.1 zL).1, (World.putObj_heap_other (by omega)).trans (kZ.same _ _ (Nat.le_refl _) yD rfl)⟩
      have kY : KeepsFrom (N + 2) X Y := hY ▸ keepsFrom_put X _ (by omega)
      have kV : ∀ (Z : World) (o : Obj), KeepsFrom N Y Z → KeepsFrom W1.heap.size V (Z.putObj (N + 1) o) := fun Z o kZ => by
        rw [z1]
        exact (((keepsFrom_later kX (by omega)).trans kY).trans (keepsFrom_later kZ (by omega))).trans (keepsFrom_put Z o (by omega))
      rintro e a3 Z hp
      cases e with
      | normal =>
        obtain ⟨kZ, pZ, zI⟩ := hp
        obtain ⟨hr, zL, zM, zD⟩ := fin none Z kZ
        exact ⟨_, _, hr, .inl ⟨rfl, ⟨hI _ _ _ zI (.put _ (by omega) zL rfl), zM, zD⟩, hKt pX (hKt yK (hKt pZ (hKb _ _ _ _ (by omega) zL rfl rfl)))⟩, kV Z _ kZ⟩
      | ret =>
        obtain ⟨kZ, zI⟩ := hp
        obtain ⟨hr, zL, zM, zD⟩ := fin (some .ret) Z kZ
        exact ⟨_, _, hr, .inr ⟨rfl, .ret, hIx _ _ _ _ zI (.put _ (by omega) zL rfl), zM, zD⟩, kV Z _ kZ⟩
      | exit id =>
        obtain ⟨kZ, zI⟩ := hp
        obtain ⟨hr, zL, zM, zD⟩ := fin (some (.exit id)) Z kZ
        exact ⟨_, _, hr, .inr ⟨rfl, .exit id, hIx _ _ _ _ zI (.put _ (by omega) zL rfl), zM, zD⟩, kV Z _ kZ⟩
      | goto t =>
        obtain ⟨kZ, zI⟩ := hp
        obtain ⟨hr, zL, zM, zD⟩ := fin (some (.goto t)) Z kZ
        exact ⟨_, _, hr, .inr ⟨rfl, .goto t, hIx _ _ _ _ zI (.put _ (by omega) zL rfl), zM, zD⟩, kV Z _ kZ⟩
      | panic ch => exact hp.elim
      | outgrown => exact hp.elim
    · rintro e W2 ⟨⟨v, rfl⟩, (⟨eI, eL, eD⟩ | ⟨pre, hS, c, eI, eL, eD⟩)⟩
      · have hr := run_endLoop (P := P) eL (by rw [hrec]; simp)
        rw [hrec] at hr eL
        exact ⟨none, _, hr, hdone N _ (Nat.le_refl _) (hI _ _ _ eI (.put _ (by omega) eL rfl)) ((World.putObj_heap_other (by omega)).trans eD)⟩
      · have hr := run_endLoop (P := P) eL (by rw [hrec]; simp)
        rw [hrec] at hr eL
        exact ⟨some c, _, hr, hstop N c pre _ (Nat.le_refl _) hS (hIx _ _ _ _ eI (.put _ (by omega) eL rfl)) ((World.putObj_heap_other (by omega)).trans eD)⟩
end Go.Proofs.YtcnkgddldhkddaaDoor
