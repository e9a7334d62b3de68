/- A range over a function that writes variables of its own between its rounds, and whose items may be memory that it makes as it goes: the round is told what lies there when an item comes; what a round may change is said by kinds of cells. (A law of our own; no program in it.) -/
import Derived.Test.YtcnkgddldhkddaaDoorGRuns
namespace Go.Proofs.YtcnkgddldhkddaaDoor
open Go Go.RowKit

/-- a function that is ranged over: what it hands over, one by one, as far as it is asked, lies there as 'Lies' says when it comes; in the end all that it handed over is as 'S' says -/
def SeqTurns {α : Type} (mine : TypeId → Bool) (F : Fence) (n : Nat) (P : Program) (g : Nat) (lb : Array Value) (encs : α → Array Value) (Kp : World → World → Prop) (Lies : List α → α → World → Prop) (S : List α → Prop) (w : World) : Prop :=
  ∀ (l : Nat) (J Jx : List α → World → Prop) (W : World), Below w.heap.size w W → Abide mine W.heap.size J → Abide mine W.heap.size Jx →
    (∀ pre x W1, J pre W1 → Lies pre x W1 → YieldAt F (n - 1) P l (encs x) W1 fun e W' =>
      ((e = .returned (.bool true) ∧ J (pre ++ [x]) W' ∧ Kp W1 W') ∨ (e = .returned (.bool false) ∧ Jx (pre ++ [x]) W')) ∧ KeepsFrom W.heap.size W1 W') →
    J [] W →
    CallsIn F n P g (#[.func (.yield l) #[] #[]] ++ lb) W fun e W' => (∃ v, e = .returned v) ∧ ((∃ xs, S xs ∧ J xs W') ∨ (∃ pre, Jx pre W'))
theorem SeqTurns.later {α : Type} {mine : TypeId → Bool} {F : Fence} {n : Nat} {P : Program} {g : Nat} {lb : Array Value} {encs : α → Array Value} {Kp : World → World → Prop} {Lies : List α → α → World → Prop} {S : List α → Prop} {w w' : World}
    (h : SeqTurns mine F n P g lb encs Kp Lies S w) (hb : Below w.heap.size w w') : SeqTurns mine F n P g lb encs Kp Lies S w' := fun l J Jx W hW => h l J Jx W (Below.after hb hW)

/-- what a round keeps that goes on: what lies below B; and, of the rest, whatever is cells of another kind than those -/
structure Kf (free : TypeId → Bool) (B : Nat) (W W' : World) : Prop where
  os : W'.os = W.os
  tape : W'.tape = W.tape
  output : W'.output = W.output
  size : W.heap.size ≤ W'.heap.size
  low : ∀ k, k < B → W'.heap[k]? = W.heap[k]?
  mid : ∀ (k : Nat) (cs : Array Value) (t : TypeId) (fr : Nat × Nat), free t = false → W.heap[k]? = some (.cells cs t fr) → W'.heap[k]? = some (.cells cs t fr)
section
variable {free : TypeId → Bool}
theorem Kf.refl (free : TypeId → Bool) (B : Nat) (W : World) : Kf free B W W := ⟨rfl, rfl, rfl, Nat.le_refl _, fun _ _ => rfl, fun _ _ _ _ _ h => h⟩
theorem Kf.trans {B : Nat} {X Y Z : World} (h : Kf free B X Y) (k : Kf free B Y Z) : Kf free B X Z :=
  ⟨k.os.trans h.os, k.tape.trans h.tape, k.output.trans h.output, Nat.le_trans h.size k.size, fun i hi => (k.low i hi).trans (h.low i hi), fun i cs t fr ht hc => k.mid i cs t fr ht (h.mid i cs t fr ht hc)⟩
theorem Kf.below {B : Nat} {W W' : World} (h : Kf free B W W') : Below B W W' := ⟨h.os, h.tape, h.output, h.size, h.low⟩
/-- whoever keeps more kinds keeps fewer -/
theorem Kf.wide {free' : TypeId → Bool} {B : Nat} {W W' : World} (h : Kf free B W W') (hf : ∀ t, free' t = false → free t = false) : Kf free' B W W' := ⟨h.os, h.tape, h.output, h.size, h.low, fun k cs t fr ht hc => h.mid k cs t fr (hf t ht) hc⟩
/-- whatever changes nothing that lay -/
theorem Kf.of_below {B : Nat} {W W' : World} (h : Below W.heap.size W W') (hB : B ≤ W.heap.size) : Kf free B W W' :=
  ⟨h.os, h.tape, h.output, h.size, fun k hk => h.block k (Nat.lt_of_lt_of_le hk hB), fun k _ _ _ _ hc => (h.block k (Array.getElem?_eq_some_iff.1 hc).1).trans hc⟩
/-- a row of such a kind has grown -/
theorem Kf.grown {B base n size : Nat} {e : TypeId} {W W' : World} {v : Value} {xs : List Value} (h : W.grownBy W' v.ownBlock) (hr : W.ownsRow base e size v n xs) (he : free e = true) (hb : B ≤ base) (hB : B ≤ W.heap.size) : Kf free B W W' := by
  refine ⟨h.os, h.tape, h.output, h.size, fun k hk => h.block k (Nat.lt_of_lt_of_le hk hB) (fun e => ?_), fun k _ _ _ ht hc => (h.block k (Array.getElem?_eq_some_iff.1 hc).1 (fun e => ?_)).trans hc⟩
  · have := (hr.lt k e.symm).1; omega
  · rcases hr.2 with ⟨rfl, _⟩ | ⟨g, cap, cur, rfl, _, hgb, _⟩
    · simp [Value.ownBlock] at e
    · obtain rfl : k = g := by simpa [Value.ownBlock] using e
      rw [hc] at hgb
      cases hgb
      rw [ht] at he; cases he
/-- a store into a variable of such a kind -/
theorem Kf.store {B : Nat} {W : World} {g : Nat} {t : TypeId} {v : Value} (h : Boxed W g t v) (u : Value) (ht : free t = true) (hg : B ≤ g) : Kf free B W (W.setCell ⟨g, 0, none⟩ u) := by
  refine ⟨rfl, rfl, rfl, by rw [World.size_setCell]; exact Nat.le_refl _, fun k hk => Below.heap_setCell _ _ _ k (fun e => by have : k = g := e; omega), fun k _ _ _ hf hc => (Below.heap_setCell _ _ _ k (fun e => ?_)).trans hc⟩
  have e : k = g := e
  subst e
  rw [show W.heap[k]? = _ from h] at hc
  cases hc
  rw [hf] at ht; cases ht
/-- what is no cells is turned -/
theorem Kf.putObj {B : Nat} (W : World) (l : Nat) (o o' : Obj) (hB : B ≤ l) (h : W.heap[l]? = some o) (hc : o.isCells = false) : Kf free B W (W.putObj l o') := by
  have hg := grownBy_putObj' W l o'
  refine ⟨hg.os, hg.tape, hg.output, hg.size, fun k hk => hg.block k (by have := (Array.getElem?_eq_some_iff.1 h).1; omega) (fun e => by cases e; omega), fun k _ _ _ _ hk => (hg.block k (Array.getElem?_eq_some_iff.1 hk).1 (fun e => ?_)).trans hk⟩
  cases e
  rw [hk] at h
  cases h
  cases hc
theorem Kf.put {B : Nat} {w : World} (hB : B ≤ w.heap.size) (W : World) (l : Nat) (o o' : Obj) (hl : w.heap.size ≤ l) (h : W.heap[l]? = some o) (hc : o.isCells = false) (_ : o.isWalk = false) : Kf free B W (W.putObj l o') := .putObj W l o o' (Nat.le_trans hB hl) h hc
theorem Kf.has {B : Nat} {W W' : World} {g : Nat} {t : TypeId} {cs : Array Value} (hk : Kf free B W W') (h : Has W g t cs) (ht : free t = false) : Has W' g t cs := hk.mid g _ t _ ht h
theorem Kf.boxed {B : Nat} {W W' : World} {g : Nat} {t : TypeId} {v : Value} (hk : Kf free B W W') (h : Boxed W g t v) (ht : free t = false) : Boxed W' g t v := hk.mid g _ t _ ht h
theorem Kf.owned {B : Nat} {W W' : World} (hk : Kf free B W W') {base n size : Nat} {e : TypeId} {v : Value} {xs : List Value} (hr : W.ownsRow base e size v n xs) (he : free e = false) : W'.ownsRow base e size v n xs := by
  refine ⟨hr.1, ?_⟩
  rcases hr.2 with hn | ⟨g, cap, cur, h1, h2, h3, rest⟩
  · exact .inl hn
  · exact .inr ⟨g, cap, cur, h1, h2, hk.mid g _ e _ he h3, rest⟩
end
theorem wpIn_rangeFunc_turns {α : Type} {mine : TypeId → Bool} {F : Fence} {n : Nat} {P : Program} {w : World} {g : Operand} {ps : Array Tmp} {assign body : Code} {Q : Exit → Act → World → Prop} {a : Act}
    (hro : F.round = none) (h1 : 1 ≤ n) {gf : Nat} {lb : Array Value} (hg : a.eval g = .func (.func gf) #[] lb) (hFg : F.fn gf) (eg : ∀ args w, (callFunc gf args).run P w = .ok (.enter gf args) w)
    {encs : α → Array Value} {Kp : World → World → Prop} {Lies : List α → α → World → Prop} {S : List α → Prop} {w0 : World} (hseq : SeqTurns mine F (n - 1) P gf lb encs Kp Lies S w0)
    (hKt : ∀ {A B C : World}, Kp A B → Kp B C → Kp A C) (hKb : ∀ (W : World) (l : Nat) (o o' : Obj), w.heap.size ≤ l → W.heap[l]? = some o → o.isCells = false → o.isWalk = false → Kp W (W.putObj l o')) (hb0 : Below w0.heap.size w0 w) (hps : ∀ x, (encs x).size = ps.size)
    (I : List α → World → Prop) (Ix : Code → List α → World → Prop) (hI : Abide mine w.heap.size I) (hIx : ∀ c, Abide mine w.heap.size (Ix c)) (h0 : I [] w) (Ax : List α → α → Act → World → Prop) (hAx : ∀ pre x a', OwnFrom w.heap.size (fun (_ : Unit) W => Ax pre x a' W))
    (hassign : ∀ (l : Nat) (pre : List α) (x : α) (W : World) (K : Act → World → Prop), I pre W → Lies pre x W → (∀ a' W', KeepsFrom w.heap.size W W' → Kp W W' → I pre W' → Ax pre x a' W' → K a' W') →
      assign.wpIn (F.inRound l) (n - 1 - 1) P (Exit.then K (fun _ _ _ => False)) { tmps := (ps.zip (encs x)).foldl (fun t (p, v) => t.setIfInBounds p v) a.tmps, defers := [] } W)
    (hbody : ∀ (l : Nat) (pre : List α) (x : α) (a' : Act) (W : World), w.heap.size ≤ l → (∃ r, W.heap[l]? = some (.loop r)) → I pre W → Ax pre x a' W → body.wpIn (F.inRound l) (n - 1 - 1) P (ownPostG w.heap.size Kp I Ix (pre ++ [x]) W) a' W)
    (hdone : ∀ (D : Nat) (xs : List α) (W : World), w.heap.size ≤ D → S xs → I xs W → W.heap[D]? = some (.deferred (some [])) → Q .normal { a with defers := { target := .collected D, args := #[] } :: a.defers } W)
    (hstop : ∀ (D : Nat) (c : Code) (pre : List α) (W : World), w.heap.size ≤ D → Ix c pre W → W.heap[D]? = some (.deferred (some [])) → c.wpIn F n P Q { a with defers := { target := .collected D, args := #[] } :: a.defers } W) :
    (Code.rangeFunc g ps assign body).wpIn F n P Q a w := by
  refine wpIn_rangeFunc fun fn hfn => ?_
  rw [hro]
  obtain ⟨N, hN⟩ : ∃ N, w.heap.size = N := ⟨_, rfl⟩
  obtain ⟨rec, hrec⟩ : ∃ rec : LoopState → Option Code → Loop, rec = fun st pe => { state := st, pending := pe, fn, tmps := a.tmps, params := ps, assign, body, defers := w.heap.size } := ⟨_, rfl⟩
  obtain ⟨W1, hW1⟩ : ∃ W1, (w.alloc (.deferred (some []))).alloc (.loop (rec .ready none)) = W1 := ⟨_, rfl⟩
  have z1 : W1.heap.size = N + 2 := by rw [← hW1]; simp [hN]
  have iL : W1.heap[N + 1]? = some (.loop (rec .ready none)) := by
    have := World.alloc_heap_new (w.alloc (.deferred (some []))) (.loop (rec .ready none))
    rw [World.size_alloc, hN] at this
    rw [← hW1]; exact this
  have iD : W1.heap[N]? = some (.deferred (some [])) := by
    have h2 := World.alloc_heap_new w (.deferred (some []))
    rw [hN] at h2
    rw [← hW1]; exact (Below.heap_alloc _ _ _ (by simp [hN])).trans h2
  have iW : Below w.heap.size w W1 := by
    rw [← hW1]
    exact ((Below.refl _ w).alloc (Nat.le_refl _) _).trans (((Below.refl _ _).alloc (Nat.le_refl _) _).mono (by simp))
  have iI : I [] W1 := hI _ _ _ h0 (.of_below iW)
  have iB : Below w0.heap.size w0 W1 := Below.after hb0 iW
  rw [hN] at hI hIx hKb hAx hassign hbody hdone hstop
  refine ⟨N + 1, [{ target := .collected N, args := #[] }], W1, { target := .fn (.func gf) lb, args := #[.func (.yield (N + 1)) #[] #[]] }, W1, gf, #[.func (.yield (N + 1)) #[] #[]] ++ lb, W1, ?enter, ?res, ?leads, ?inv, fun _ => h1, ?calls⟩
  case enter =>
    have := run_enterLoop_outer (P := P) (w := w) fn a.tmps ps assign body
    rw [hN] at this
    rw [this, ← hW1, hrec, hN]
  case res =>
    simp only [resolve, hg]
    simp [go_sem]
  case leads =>
    intro f' hf'
    simp [Target.leads] at hf'
    subst hf'
    exact hFg
  case inv => simp [invoke, go_sem, eg]
  case calls =>
    rw [hN] at hrec
    have keepT : ∀ {A C : World} {o : Obj} {k : Nat}, Turn mine W1.heap.size A C → k < N + 2 → A.heap[k]? = some o → C.heap[k]? = some o := fun ht hk ho => ht.keep _ _ ho (.inl (by omega))
    refine (hseq (N + 1) (fun pre W => I pre W ∧ W.heap[N + 1]? = some (.loop (rec .ready none)) ∧ W.heap[N]? = some (.deferred (some [])))
      (fun pre W => ∃ c, Ix c pre W ∧ W.heap[N + 1]? = some (.loop (rec .done (some c))) ∧ W.heap[N]? = some (.deferred (some []))) W1 iB
      (fun s A C hs ht => ⟨hI s A C hs.1 (ht.mono (by omega)), keepT ht (by omega) hs.2.1, keepT ht (by omega) hs.2.2⟩)
      (fun s A C hs ht => let ⟨c, h2, h3, h4⟩ := hs; ⟨c, hIx c s A C h2 (ht.mono (by omega)), keepT ht (by omega) h3, keepT ht (by omega) h4⟩) ?_ ⟨iI, iL, iD⟩).mono ?_
    · rintro pre x V ⟨vI, vL, vD⟩ hx
      have hy := run_yield (P := P) (args := encs x) vL (by rw [hrec]; exact hps x)
      rw [hrec] at hy
      refine ⟨fn, _, assign, body, hy, roundIn_of_wpIn hfn (hassign _ pre x V _ vI hx ?_)⟩
      intro a' X kX pX xI xA
      have xL := kX.same _ _ (by omega) vL rfl
      have xD := kX.same _ _ (Nat.le_refl _) vD rfl
      have xz := (Array.getElem?_eq_some_iff.1 xL).1
      obtain ⟨Y, hY⟩ : ∃ Y, X.putObj (N + 1) (.loop { rec .ready none with state := .busy }) = Y := ⟨_, rfl⟩
      have yL : Y.heap[N + 1]? = some (.loop { rec .ready none with state := .busy }) := by rw [← hY]; exact World.putObj_heap_same xz
      have yD : Y.heap[N]? = some (.deferred (some [])) := by rw [← hY]; exact (World.putObj_heap_other (by omega)).trans xD
      have yI : I pre Y := by rw [← hY]; exact hI _ _ _ xI (.put _ (by omega) xL rfl)
      have yA : Ax pre x a' Y := by rw [← hY]; exact (hAx pre x a').putObj (s := ()) _ xA (by omega) xL rfl
      have yK : Kp X Y := by rw [← hY]; exact hKb _ _ _ _ (by omega) xL rfl rfl
      refine ⟨Y, (run_beginRound xL (by rw [hrec])).trans (by rw [hY]), wpIn_mono (hbody _ pre x a' Y (by omega) ⟨_, yL⟩ yI yA) ?_⟩
      have fin : ∀ (jump : Option Code) (Z : World), KeepsFrom N Y Z →
          (Instr.endRound (N + 1) jump).run P Z = .ok (.bool jump.isNone) (Z.putObj (N + 1) (.loop (rec (if jump.isNone then .ready else .done) jump))) ∧
          Z.heap[N + 1]? = some (.loop { rec .ready none with state := .busy }) ∧
          (Z.putObj (N + 1) (.loop (rec (if jump.isNone then .ready else .done) jump))).heap[N + 1]? = some (.loop (rec (if jump.isNone then .ready else .done) jump)) ∧
          (Z.putObj (N + 1) (.loop (rec (if jump.isNone then .ready else .done) jump))).heap[N]? = some (.deferred (some [])) := fun jump Z kZ => by
        have zL := kZ.same _ _ (by omega) yL rfl
        have := run_endRound (P := P) jump zL
        rw [hrec] at this ⊢
        exact ⟨this, by rw [hrec] at zL; exact zL, World.putObj_heap_same (Array.getElem?_eq_some_iff.1 zL).1, (World.putObj_heap_other (by omega)).trans (kZ.same _ _ (Nat.le_refl _) yD rfl)⟩
      have kY : KeepsFrom (N + 2) X Y := hY ▸ keepsFrom_put X _ (by omega)
      have kV : ∀ (Z : World) (o : Obj), KeepsFrom N Y Z → KeepsFrom W1.heap.size V (Z.putObj (N + 1) o) := fun Z o kZ => by
        rw [z1]
        exact (((keepsFrom_later kX (by omega)).trans kY).trans (keepsFrom_later kZ (by omega))).trans (keepsFrom_put Z o (by omega))
      rintro e a3 Z hp
      cases e with
      | normal =>
        obtain ⟨kZ, pZ, zI⟩ := hp
        obtain ⟨hr, zL, zM, zD⟩ := fin none Z kZ
        exact ⟨_, _, hr, .inl ⟨rfl, ⟨hI _ _ _ zI (.put _ (by omega) zL rfl), zM, zD⟩, hKt pX (hKt yK (hKt pZ (hKb _ _ _ _ (by omega) zL rfl rfl)))⟩, kV Z _ kZ⟩
      | ret =>
        obtain ⟨kZ, zI⟩ := hp
        obtain ⟨hr, zL, zM, zD⟩ := fin (some .ret) Z kZ
        exact ⟨_, _, hr, .inr ⟨rfl, .ret, hIx _ _ _ _ zI (.put _ (by omega) zL rfl), zM, zD⟩, kV Z _ kZ⟩
      | exit id =>
        obtain ⟨kZ, zI⟩ := hp
        obtain ⟨hr, zL, zM, zD⟩ := fin (some (.exit id)) Z kZ
        exact ⟨_, _, hr, .inr ⟨rfl, .exit id, hIx _ _ _ _ zI (.put _ (by omega) zL rfl), zM, zD⟩, kV Z _ kZ⟩
      | goto t =>
        obtain ⟨kZ, zI⟩ := hp
        obtain ⟨hr, zL, zM, zD⟩ := fin (some (.goto t)) Z kZ
        exact ⟨_, _, hr, .inr ⟨rfl, .goto t, hIx _ _ _ _ zI (.put _ (by omega) zL rfl), zM, zD⟩, kV Z _ kZ⟩
      | panic ch => exact hp.elim
      | outgrown => exact hp.elim
    · rintro e W2 ⟨⟨v, rfl⟩, (⟨xs, hS, eI, eL, eD⟩ | ⟨pre, c, eI, eL, eD⟩)⟩
      · have hr := run_endLoop (P := P) eL (by rw [hrec]; simp)
        rw [hrec] at hr eL
        exact ⟨none, _, hr, hdone N xs _ (Nat.le_refl _) hS (hI _ _ _ eI (.put _ (by omega) eL rfl)) ((World.putObj_heap_other (by omega)).trans eD)⟩
      · have hr := run_endLoop (P := P) eL (by rw [hrec]; simp)
        rw [hrec] at hr eL
        exact ⟨some c, _, hr, hstop N c pre _ (Nat.le_refl _) (hIx _ _ _ _ eI (.put _ (by omega) eL rfl)) ((World.putObj_heap_other (by omega)).trans eD)⟩
end Go.Proofs.YtcnkgddldhkddaaDoor
