/- A range over a function that writes, between its rounds, what was made ahead of it, too (a map that it notes in, by a function that came in), and of which one is told in the end how that lies: from B to C (its own, made ahead), and from D on (what it makes). (A law of our own; no program in it.) -/
import Derived.Test.YtfbmpgffekhmhaaGTurns
namespace Go.Proofs.Ytfbmpgffekhmhaa
open Go Go.RowKit

/-- what is no cells, and cells of some kinds, may be turned from B to C, and from D on -/
structure TurnF (mine : TypeId → Bool) (B C D : Nat) (W W' : World) : Prop where
  os : W'.os = W.os
  tape : W'.tape = W.tape
  output : W'.output = W.output
  size : W.heap.size ≤ W'.heap.size
  keep : ∀ (k : Nat) (o : Obj), W.heap[k]? = some o → (k < B ∨ (C ≤ k ∧ k < D) ∨ ∃ cs t fr, o = .cells cs t fr ∧ mine t = false) → W'.heap[k]? = some o
def AbideF {β : Type} (mine : TypeId → Bool) (B C D : Nat) (J : β → World → Prop) : Prop := ∀ s W W', J s W → TurnF mine B C D W W' → J s W'
section
variable {mine : TypeId → Bool} {B C D D' : Nat} {W W' W'' : World}
theorem TurnF.refl (mine : TypeId → Bool) (B C D : Nat) (W : World) : TurnF mine B C D W W := ⟨rfl, rfl, rfl, Nat.le_refl _, fun _ _ h _ => h⟩
theorem TurnF.trans (h : TurnF mine B C D W W') (k : TurnF mine B C D W' W'') : TurnF mine B C D W W'' :=
  ⟨k.os.trans h.os, k.tape.trans h.tape, k.output.trans h.output, Nat.le_trans h.size k.size, fun i o hi ho => k.keep i o (h.keep i o hi ho) ho⟩
theorem TurnF.mono (h : TurnF mine B C D' W W') (hD : D ≤ D') : TurnF mine B C D W W' := ⟨h.os, h.tape, h.output, h.size, fun i o hi ho => h.keep i o hi (ho.imp id (Or.imp (fun x => ⟨x.1, Nat.lt_of_lt_of_le x.2 hD⟩) id))⟩
theorem TurnF.of_below (h : Below W.heap.size W W') : TurnF mine B C D W W' := ⟨h.os, h.tape, h.output, h.size, fun i _ hi _ => (h.block i (Array.getElem?_eq_some_iff.1 hi).1).trans hi⟩
theorem TurnF.grown {row : Option Nat} (h : W.grownBy W' row) (hr : ∀ r, row = some r → B ≤ r ∧ (r < C ∨ D ≤ r) ∧ ∃ o : Obj, W.heap[r]? = some o ∧ (o.isCells = false ∨ ∃ cs t fr, o = .cells cs t fr ∧ mine t = true)) : TurnF mine B C D W W' := by
  refine ⟨h.os, h.tape, h.output, h.size, fun i o hi ho => (h.block i (Array.getElem?_eq_some_iff.1 hi).1 (fun e => ?_)).trans hi⟩
  obtain ⟨h1, h4, o', h2, h3⟩ := hr i e.symm
  rw [hi] at h2
  cases h2
  rcases ho with ho | ho | ⟨cs, t, fr, rfl, ht⟩
  · omega
  · omega
  · rcases h3 with h3 | ⟨_, _, _, e1, h3⟩
    · cases h3
    · cases e1; rw [ht] at h3; cases h3
theorem TurnF.put {l : Nat} {o : Obj} (o' : Obj) (hB : B ≤ l) (hD : l < C ∨ D ≤ l) (hl : W.heap[l]? = some o) (ho : o.isCells = false) : TurnF mine B C D W (W.putObj l o') :=
  .grown (grownBy_putObj' W l o') (fun r e => by cases e; exact ⟨hB, hD, o, hl, .inl ho⟩)
theorem TurnF.row {base n size : Nat} {e : TypeId} {v : Value} {xs : List Value} (h : W.grownBy W' v.ownBlock) (hr : W.ownsRow base e size v n xs) (he : mine e = true) (hB : B ≤ base) (hD : D ≤ base) : TurnF mine B C D W W' :=
  .grown h (fun r er => by
    rcases hr.2 with ⟨rfl, _⟩ | ⟨g, cap, cur, rfl, hbg, hgb, _⟩
    · simp [Value.ownBlock] at er
    · obtain rfl : r = g := by simpa [Value.ownBlock] using er.symm
      exact ⟨Nat.le_trans hB hbg, .inr (Nat.le_trans hD hbg), _, hgb, .inr ⟨_, _, _, rfl, he⟩⟩)
theorem TurnF.below (h : TurnF mine B C D W W') {n : Nat} (hn : n ≤ B) (hB : n ≤ W.heap.size) : Below n W W' := ⟨h.os, h.tape, h.output, h.size, fun k hk => by
  have hlt : k < W.heap.size := Nat.lt_of_lt_of_le hk hB
  rw [Array.getElem?_eq_getElem hlt]
  exact h.keep k _ (Array.getElem?_eq_getElem hlt) (.inl (Nat.lt_of_lt_of_le hk hn))⟩
theorem TurnF.boxed (h : TurnF mine B C D W W') {g : Nat} {t : TypeId} {v : Value} (hb : Boxed W g t v) (ht : mine t = false ∨ g < B) : Boxed W' g t v := h.keep g _ hb (ht.elim (fun x => .inr (.inr ⟨_, _, _, rfl, x⟩)) .inl)
theorem AbideF.and {β : Type} {J K : β → World → Prop} (h : AbideF mine B C D J) (k : AbideF mine B C D K) : AbideF mine B C D (fun s W => J s W ∧ K s W) := fun s A E hs ht => ⟨h s A E hs.1 ht, k s A E hs.2 ht⟩
theorem AbideF.pure {β : Type} (p : β → Prop) : AbideF mine B C D (fun s (_ : World) => p s) := fun _ _ _ h _ => h
theorem AbideF.mono {β : Type} {J : β → World → Prop} (h : AbideF mine B C D J) (hD : D ≤ D') : AbideF mine B C D' J := fun s A E hs ht => h s A E hs (ht.mono hD)
theorem AbideF.boxed {β : Type} (g : Nat) (t : TypeId) (f : β → Value) (ht : mine t = false ∨ g < B) : AbideF mine B C D (fun s W => Boxed W g t (f s)) := fun _ _ _ hs h => h.boxed hs ht
theorem AbideF.below {β : Type} {w : World} {n₀ : Nat} (hn : n₀ ≤ B) (hB : n₀ ≤ w.heap.size) : AbideF mine B C D (fun (_ : β) W => Below n₀ w W) := fun _ _ _ hs h => hs.trans (h.below hn (Nat.le_trans hB hs.size))
theorem AbideF.turn {β : Type} (w : World) : AbideF mine B C D (fun (_ : β) W => TurnF mine B C D w W) := fun _ _ _ hs h => hs.trans h
end
/-- what is no cells is as it was from B to C, and from D on -/
structure KeepsF (B C D : Nat) (W W' : World) : Prop where
  size : W.heap.size ≤ W'.heap.size
  same : ∀ (k : Nat) (o : Obj), ((B ≤ k ∧ k < C) ∨ D ≤ k) → W.heap[k]? = some o → o.isCells = false → W'.heap[k]? = some o
theorem KeepsF.of {B C D : Nat} {W W' : World} (h : KeepsFrom B W W') (hD : B ≤ D) : KeepsF B C D W W' := ⟨h.size, fun k o hk => h.same k o (hk.elim (fun x => x.1) (fun x => Nat.le_trans hD x))⟩
theorem KeepsF.trans {B C D : Nat} {X Y Z : World} (h : KeepsF B C D X Y) (k : KeepsF B C D Y Z) : KeepsF B C D X Z := ⟨Nat.le_trans h.size k.size, fun i o hi hx hc => k.same i o hi (h.same i o hi hx hc) hc⟩
theorem keepsF_put {B C D l : Nat} (W : World) (o : Obj) (h : C ≤ l) (h2 : l < D) : KeepsF B C D W (W.putObj l o) := ⟨by simp, fun k _ hk hc _ => (World.putObj_heap_other (by omega)).trans hc⟩

/-- a function that is ranged over: it may turn what lies from B to C (C: how much there was when it was made) -/
def SeqFrom {α : Type} (B : Nat) (mine : TypeId → Bool) (F : Fence) (n : Nat) (P : Program) (g : Nat) (lb : Array Value) (encs : α → Array Value) (Kp : World → World → Prop) (Lies : List α → α → World → Prop) (S : List α → World → Prop) (w : World) : Prop :=
  ∀ (l : Nat) (J Jx : List α → World → Prop) (W : World), Below w.heap.size w W → AbideF mine B w.heap.size W.heap.size J → AbideF mine B w.heap.size W.heap.size Jx →
    (∀ pre x W1, J pre W1 → Lies pre x W1 → YieldAt F (n - 1) P l (encs x) W1 fun e W' =>
      ((e = .returned (.bool true) ∧ J (pre ++ [x]) W' ∧ Kp W1 W') ∨ (e = .returned (.bool false) ∧ Jx (pre ++ [x]) W')) ∧ KeepsF B w.heap.size W.heap.size W1 W') →
    J [] W →
    CallsIn F n P g (#[.func (.yield l) #[] #[]] ++ lb) W fun e W' => (∃ v, e = .returned v) ∧ ((∃ xs, S xs W' ∧ J xs W') ∨ (∃ pre, Jx pre W'))

theorem wpIn_rangeFunc_from {α : Type} {mine : TypeId → Bool} {F : Fence} {n : Nat} {P : Program} {w : World} {g : Operand} {ps : Array Tmp} {assign body : Code} {Q : Exit → Act → World → Prop} {a : Act}
    (hro : F.round = none) (h1 : 1 ≤ n) {gf : Nat} {lb : Array Value} (hg : a.eval g = .func (.func gf) #[] lb) (hFg : F.fn gf) (eg : ∀ args w, (callFunc gf args).run P w = .ok (.enter gf args) w)
    {encs : α → Array Value} {Kp : World → World → Prop} {Lies : List α → α → World → Prop} {S : List α → World → Prop} {B : Nat} {w0 : World} (hseq : SeqFrom B mine F (n - 1) P gf lb encs Kp Lies S w0) (hB0 : B ≤ w0.heap.size)
    (hS : ∀ (xs : List α) (W : World) (l : Nat) (o o' : Obj), w.heap.size ≤ l → W.heap[l]? = some o → o.isCells = false → S xs W → S xs (W.putObj l o'))
    (hKt : ∀ {A B C : World}, Kp A B → Kp B C → Kp A C) (hKb : ∀ (W : World) (l : Nat) (o o' : Obj), w.heap.size ≤ l → W.heap[l]? = some o → o.isCells = false → o.isWalk = false → Kp W (W.putObj l o')) (hb0 : Below w0.heap.size w0 w) (hps : ∀ x, (encs x).size = ps.size)
    (I : List α → World → Prop) (Ix : Code → List α → World → Prop) (hI : AbideF mine B w0.heap.size w.heap.size I) (hIx : ∀ c, AbideF mine B w0.heap.size w.heap.size (Ix c)) (h0 : I [] w) (Ax : List α → α → Act → World → Prop) (hAx : ∀ pre x a', OwnFrom w.heap.size (fun (_ : Unit) W => Ax pre x a' W))
    (hassign : ∀ (l : Nat) (pre : List α) (x : α) (W : World) (K : Act → World → Prop), I pre W → Lies pre x W → (∀ a' W', KeepsFrom B W W' → Kp W W' → I pre W' → Ax pre x a' W' → K a' W') →
      assign.wpIn (F.inRound l) (n - 1 - 1) P (Exit.then K (fun _ _ _ => False)) { tmps := (ps.zip (encs x)).foldl (fun t (p, v) => t.setIfInBounds p v) a.tmps, defers := [] } W)
    (hbody : ∀ (l : Nat) (pre : List α) (x : α) (a' : Act) (W : World), w.heap.size ≤ l → (∃ r, W.heap[l]? = some (.loop r)) → I pre W → Ax pre x a' W → body.wpIn (F.inRound l) (n - 1 - 1) P (ownPostG B Kp I Ix (pre ++ [x]) W) a' W)
    (hdone : ∀ (D : Nat) (xs : List α) (W : World), w.heap.size ≤ D → S xs W → I xs W → W.heap[D]? = some (.deferred (some [])) → Q .normal { a with defers := { target := .collected D, args := #[] } :: a.defers } W)
    (hstop : ∀ (D : Nat) (c : Code) (pre : List α) (W : World), w.heap.size ≤ D → Ix c pre W → W.heap[D]? = some (.deferred (some [])) → c.wpIn F n P Q { a with defers := { target := .collected D, args := #[] } :: a.defers } W) :
    (Code.rangeFunc g ps assign body).wpIn F n P Q a w := by
  refine wpIn_rangeFunc fun fn hfn => ?_
  rw [hro]
  obtain ⟨N, hN⟩ : ∃ N, w.heap.size = N := ⟨_, rfl⟩
  obtain ⟨rec, hrec⟩ : ∃ rec : LoopState → Option Code → Loop, rec = fun st pe => { state := st, pending := pe, fn, tmps := a.tmps, params := ps, assign, body, defers := w.heap.size } := ⟨_, rfl⟩
  obtain ⟨W1, hW1⟩ : ∃ W1, (w.alloc (.deferred (some []))).alloc (.loop (rec .ready none)) = W1 := ⟨_, rfl⟩
  have z1 : W1.heap.size = N + 2 := by rw [← hW1]; simp [hN]
  have iL : W1.heap[N + 1]? = some (.loop (rec .ready none)) := by
    have := World.alloc_heap_new (w.alloc (.deferred (some []))) (.loop (rec .ready none))
    rw [World.size_alloc, hN] at this
    rw [← hW1]; exact this
  have iD : W1.heap[N]? = some (.deferred (some [])) := by
    have h2 := World.alloc_heap_new w (.deferred (some []))
    rw [hN] at h2
    rw [← hW1]; exact (Below.heap_alloc _ _ _ (by simp [hN])).trans h2
  have iW : Below w.heap.size w W1 := by
    rw [← hW1]
    exact ((Below.refl _ w).alloc (Nat.le_refl _) _).trans (((Below.refl _ _).alloc (Nat.le_refl _) _).mono (by simp))
  have iI : I [] W1 := hI _ _ _ h0 (.of_below iW)
  have iB : Below w0.heap.size w0 W1 := Below.after hb0 iW
  have hCN : w0.heap.size ≤ N := hN ▸ hb0.size
  obtain ⟨C, hC⟩ : ∃ c, w0.heap.size = c := ⟨_, rfl⟩
  rw [hC] at hI hIx hCN hB0
  rw [hN] at hI hIx hKb hAx hbody hdone hstop hS
  refine ⟨N + 1, [{ target := .collected N, args := #[] }], W1, { target := .fn (.func gf) lb, args := #[.func (.yield (N + 1)) #[] #[]] }, W1, gf, #[.func (.yield (N + 1)) #[] #[]] ++ lb, W1, ?enter, ?res, ?leads, ?inv, fun _ => h1, ?calls⟩
  case enter =>
    have := run_enterLoop_outer (P := P) (w := w) fn a.tmps ps assign body
    rw [hN] at this
    rw [this, ← hW1, hrec, hN]
  case res =>
    simp only [resolve, hg]
    simp [go_sem]
  case leads =>
    intro f' hf'
    simp [Target.leads] at hf'
    subst hf'
    exact hFg
  case inv => simp [invoke, go_sem, eg]
  case calls =>
    rw [hN] at hrec
    have keepT : ∀ {A E : World} {o : Obj} {k : Nat}, TurnF mine B C W1.heap.size A E → N ≤ k → k < N + 2 → A.heap[k]? = some o → E.heap[k]? = some o := fun ht hk0 hk ho => ht.keep _ _ ho (.inr (.inl (by omega)))
    refine (hseq (N + 1) (fun pre W => I pre W ∧ W.heap[N + 1]? = some (.loop (rec .ready none)) ∧ W.heap[N]? = some (.deferred (some [])))
      (fun pre W => ∃ c, Ix c pre W ∧ W.heap[N + 1]? = some (.loop (rec .done (some c))) ∧ W.heap[N]? = some (.deferred (some []))) W1 iB
      (by rw [hC]; exact fun s A E hs ht => ⟨hI s A E hs.1 (ht.mono (by omega)), keepT ht (by omega) (by omega) hs.2.1, keepT ht (by omega) (by omega) hs.2.2⟩)
      (by rw [hC]; exact fun s A E hs ht => let ⟨c, h2, h3, h4⟩ := hs; ⟨c, hIx c s A E h2 (ht.mono (by omega)), keepT ht (by omega) (by omega) h3, keepT ht (by omega) (by omega) h4⟩) ?_ ⟨iI, iL, iD⟩).mono ?_
    · rintro pre x V ⟨vI, vL, vD⟩ hx
      have hy := run_yield (P := P) (args := encs x) vL (by rw [hrec]; exact hps x)
      rw [hrec] at hy
      refine ⟨fn, _, assign, body, hy, roundIn_of_wpIn hfn (hassign _ pre x V _ vI hx ?_)⟩
      intro a' X kX pX xI xA
      have xL := kX.same _ _ (by omega) vL rfl
      have xD := kX.same _ _ (by omega) vD rfl
      have xz := (Array.getElem?_eq_some_iff.1 xL).1
      obtain ⟨Y, hY⟩ : ∃ Y, X.putObj (N + 1) (.loop { rec .ready none with state := .busy }) = Y := ⟨_, rfl⟩
      have yL : Y.heap[N + 1]? = some (.loop { rec .ready none with state := .busy }) := by rw [← hY]; exact World.putObj_heap_same xz
      have yD : Y.heap[N]? = some (.deferred (some [])) := by rw [← hY]; exact (World.putObj_heap_other (by omega)).trans xD
      have yI : I pre Y := by rw [← hY]; exact hI _ _ _ xI (.put _ (by omega) (by omega) xL rfl)
      have yA : Ax pre x a' Y := by rw [← hY]; exact (hAx pre x a').putObj (s := ()) _ xA (by omega) xL rfl
      have yK : Kp X Y := by rw [← hY]; exact hKb _ _ _ _ (by omega) xL rfl rfl
      refine ⟨Y, (run_beginRound xL (by rw [hrec])).trans (by rw [hY]), wpIn_mono (hbody _ pre x a' Y (by omega) ⟨_, yL⟩ yI yA) ?_⟩
      have fin : ∀ (jump : Option Code) (Z : World), KeepsFrom B Y Z →
          (Instr.endRound (N + 1) jump).run P Z = .ok (.bool jump.isNone) (Z.putObj (N + 1) (.loop (rec (if jump.isNone then .ready else .done) jump))) ∧
          Z.heap[N + 1]? = some (.loop { rec .ready none with state := .busy }) ∧
          (Z.putObj (N + 1) (.loop (rec (if jump.isNone then .ready else .done) jump))).heap[N + 1]? = some (.loop (rec (if jump.isNone then .ready else .done) jump)) ∧
          (Z.putObj (N + 1) (.loop (rec (if jump.isNone then .ready else .done) jump))).heap[N]? = some (.deferred (some [])) := fun jump Z kZ => by
        have zL := kZ.same _ _ (by omega) yL rfl
        have := run_endRound (P := P) jump zL
        rw [hrec] at this ⊢
        exact ⟨this, by rw [hrec] at zL; exact zL, World.putObj_heap_same (Array.getElem?_eq_some_iff.1 zL).1, (World.putObj_heap_other (by omega)).trans (kZ.same _ _ (by omega) yD rfl)⟩
      have kY : KeepsF B C (N + 2) X Y := hY ▸ keepsF_put X _ (by omega) (by omega)
      have kV : ∀ (Z : World) (o : Obj), KeepsFrom B Y Z → KeepsF B w0.heap.size W1.heap.size V (Z.putObj (N + 1) o) := fun Z o kZ => by
        rw [z1, hC]
        exact (((KeepsF.of kX (by omega)).trans kY).trans (KeepsF.of kZ (by omega))).trans (keepsF_put Z o (by omega) (by omega))
      rintro e a3 Z hp
      cases e with
      | normal =>
        obtain ⟨kZ, pZ, zI⟩ := hp
        obtain ⟨hr, zL, zM, zD⟩ := fin none Z kZ
        exact ⟨_, _, hr, .inl ⟨rfl, ⟨hI _ _ _ zI (.put _ (by omega) (by omega) zL rfl), zM, zD⟩, hKt pX (hKt yK (hKt pZ (hKb _ _ _ _ (by omega) zL rfl rfl)))⟩, kV Z _ kZ⟩
      | ret =>
        obtain ⟨kZ, zI⟩ := hp
        obtain ⟨hr, zL, zM, zD⟩ := fin (some .ret) Z kZ
        exact ⟨_, _, hr, .inr ⟨rfl, .ret, hIx _ _ _ _ zI (.put _ (by omega) (by omega) zL rfl), zM, zD⟩, kV Z _ kZ⟩
      | exit id =>
        obtain ⟨kZ, zI⟩ := hp
        obtain ⟨hr, zL, zM, zD⟩ := fin (some (.exit id)) Z kZ
        exact ⟨_, _, hr, .inr ⟨rfl, .exit id, hIx _ _ _ _ zI (.put _ (by omega) (by omega) zL rfl), zM, zD⟩, kV Z _ kZ⟩
      | goto t =>
        obtain ⟨kZ, zI⟩ := hp
        obtain ⟨hr, zL, zM, zD⟩ := fin (some (.goto t)) Z kZ
        exact ⟨_, _, hr, .inr ⟨rfl, .goto t, hIx _ _ _ _ zI (.put _ (by omega) (by omega) zL rfl), zM, zD⟩, kV Z _ kZ⟩
      | panic ch => exact hp.elim
      | outgrown => exact hp.elim
    · rintro e W2 ⟨⟨v, rfl⟩, (⟨xs, hxs, eI, eL, eD⟩ | ⟨pre, c, eI, eL, eD⟩)⟩
      · have hr := run_endLoop (P := P) eL (by rw [hrec]; simp)
        rw [hrec] at hr eL
        exact ⟨none, _, hr, hdone N xs _ (Nat.le_refl _) (hS xs _ _ _ _ (by omega) eL rfl hxs) (hI _ _ _ eI (.put _ (by omega) (by omega) eL rfl)) ((World.putObj_heap_other (by omega)).trans eD)⟩
      · have hr := run_endLoop (P := P) eL (by rw [hrec]; simp)
        rw [hrec] at hr eL
        exact ⟨some c, _, hr, hstop N c pre _ (Nat.le_refl _) (hIx _ _ _ _ eI (.put _ (by omega) (by omega) eL rfl)) ((World.putObj_heap_other (by omega)).trans eD)⟩
end Go.Proofs.Ytfbmpgffekhmhaa
