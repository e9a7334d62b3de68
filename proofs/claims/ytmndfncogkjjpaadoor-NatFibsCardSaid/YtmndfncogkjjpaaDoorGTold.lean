/- A range over a function whose items are memory that the function makes as it goes: the round is told what lies there when an item comes. (A law of our own, for rounds that end as their text ends: no break, no return; no program in it.) -/
import Derived.RangeFuncNested
import Derived.RangeFuncBox
import Derived.RangeFuncCalls
import Derived.RangeFuncLeaves
import Derived.Lib.Hide
namespace Go.Proofs.YtmndfncogkjjpaaDoor
open Go Go.RowKit

/-- a function that is ranged over: what it hands over, one by one, lies there as 'Lies' says when it comes -/
def SeqTells {α : Type} (F : Fence) (n : Nat) (P : Program) (g : Nat) (lb : Array Value) (enc : α → Array Value) (Kp : World → World → Prop) (Lies : List α → α → World → Prop) (S : List α → Prop) (w : World) : Prop :=
  ∀ (l : Nat) (J : List α → World → Prop) (W : World), Below w.heap.size w W → AbidesFrom W.heap.size J → J [] W →
    (∀ pre x V, J pre V → Lies pre x V → YieldAt F (n - 1) P l (enc x) V fun e V' => e = .returned (.bool true) ∧ J (pre ++ [x]) V' ∧ Kp V V') →
    CallsIn F n P g (#[.func (.yield l) #[] #[]] ++ lb) W fun e W' => (∃ v, e = .returned v) ∧ ∃ xs, S xs ∧ J xs W'

/-- how a round of such a loop ends -/
def toldPost {α : Type} (B : Nat) (Kp : World → World → Prop) (I : List α → World → Prop) (xs : List α) (W : World) : Exit → Act → World → Prop :=
  fun e _ W' => e = .normal ∧ KeepsFrom B W W' ∧ Kp W W' ∧ I xs W'

theorem wpIn_rangeFunc_told {α : Type} {F : Fence} {n : Nat} {P : Program} {w : World} {g : Operand} {ps : Array Tmp} {assign body : Code} {Q : Exit → Act → World → Prop} {a : Act}
    (hro : F.round = none) (h1 : 1 ≤ n) {gf : Nat} {lb : Array Value} (hg : a.eval g = .func (.func gf) #[] lb) (hFg : F.fn gf) (eg : ∀ args w, (callFunc gf args).run P w = .ok (.enter gf args) w)
    {enc : α → Array Value} {Kp : World → World → Prop} {Lies : List α → α → World → Prop} {S : List α → Prop} (hseq : SeqTells F (n - 1) P gf lb enc Kp Lies S w)
    (hKt : ∀ {A B C : World}, Kp A B → Kp B C → Kp A C) (hKb : ∀ (W : World) (l : Nat) (o o' : Obj), w.heap.size ≤ l → W.heap[l]? = some o → o.isCells = false → o.isWalk = false → Kp W (W.putObj l o')) (hps : ∀ x, (enc x).size = ps.size)
    (I : List α → World → Prop) (hI : OwnFrom w.heap.size I) (h0 : I [] w) (Ax : List α → α → Act → World → Prop) (hAx : ∀ pre x a', OwnFrom w.heap.size (fun (_ : Unit) W => Ax pre x a' W))
    (hassign : ∀ (l : Nat) (pre : List α) (x : α) (W : World) (K : Act → World → Prop), I pre W → Lies pre x W → (∀ a' W', KeepsFrom w.heap.size W W' → Kp W W' → I pre W' → Ax pre x a' W' → K a' W') →
      assign.wpIn (F.inRound l) (n - 1 - 1) P (Exit.then K (fun _ _ _ => False)) { tmps := (ps.zip (enc x)).foldl (fun t (p, v) => t.setIfInBounds p v) a.tmps, defers := [] } W)
    (hbody : ∀ (l : Nat) (pre : List α) (x : α) (a' : Act) (W : World), I pre W → Ax pre x a' W → body.wpIn (F.inRound l) (n - 1 - 1) P (toldPost w.heap.size Kp I (pre ++ [x]) W) a' W)
    (hdone : ∀ (D : Nat) (xs : List α) (W : World), w.heap.size ≤ D → S xs → I xs W → W.heap[D]? = some (.deferred (some [])) → Q .normal { a with defers := { target := .collected D, args := #[] } :: a.defers } W) :
    (Code.rangeFunc g ps assign body).wpIn F n P Q a w := by
  refine wpIn_rangeFunc fun fn hfn => ?_
  rw [hro]
  obtain ⟨N, hN⟩ : ∃ N, w.heap.size = N := ⟨_, rfl⟩
  obtain ⟨rec, hrec⟩ : ∃ rec : LoopState → Loop, rec = fun st => { state := st, pending := none, fn, tmps := a.tmps, params := ps, assign, body, defers := w.heap.size } := ⟨_, rfl⟩
  obtain ⟨W1, hW1⟩ : ∃ W1, (w.alloc (.deferred (some []))).alloc (.loop (rec .ready)) = W1 := ⟨_, rfl⟩
  have z1 : W1.heap.size = N + 2 := by rw [← hW1]; simp [hN]
  have iL : W1.heap[N + 1]? = some (.loop (rec .ready)) := by
    have := World.alloc_heap_new (w.alloc (.deferred (some []))) (.loop (rec .ready))
    rw [World.size_alloc, hN] at this
    rw [← hW1]; exact this
  have iD : W1.heap[N]? = some (.deferred (some [])) := by
    have h2 := World.alloc_heap_new w (.deferred (some []))
    rw [hN] at h2
    rw [← hW1]; exact (Below.heap_alloc _ _ _ (by simp [hN])).trans h2
  have iI : I [] W1 := by rw [← hW1]; exact hI.alloc _ (hI.alloc _ h0)
  have iB : Below w.heap.size w W1 := by
    rw [← hW1]
    exact ((Below.refl _ w).alloc (Nat.le_refl _) _).trans (((Below.refl _ _).alloc (Nat.le_refl _) _).mono (by simp))
  rw [hN] at iB hI hKb hAx hassign hbody hdone
  refine ⟨N + 1, [{ target := .collected N, args := #[] }], W1, { target := .fn (.func gf) lb, args := #[.func (.yield (N + 1)) #[] #[]] }, W1, gf, #[.func (.yield (N + 1)) #[] #[]] ++ lb, W1, ?enter, ?res, ?leads, ?inv, fun _ => h1, ?calls⟩
  case enter =>
    have := run_enterLoop_outer (P := P) (w := w) fn a.tmps ps assign body
    rw [hN] at this
    rw [this, ← hW1, hrec, hN]
  case res =>
    simp only [resolve, hg]
    simp [go_sem]
  case leads =>
    intro f' hf'
    simp [Target.leads] at hf'
    subst hf'
    exact hFg
  case inv => simp [invoke, go_sem, eg]
  case calls =>
    rw [hN] at hrec
    -- the two blocks of the loop's own lie as they lay
    have keepG : ∀ {A B : World} {row : Option Nat} {o : Obj} {k : Nat}, A.grownBy B row → (∀ r, row = some r → W1.heap.size ≤ r ∧ ∃ o : Obj, A.heap[r]? = some o ∧ o.isWalk = true) → k < N + 2 → A.heap[k]? = some o → B.heap[k]? = some o := fun hgr hr hk ho =>
      (hgr.block _ (Array.getElem?_eq_some_iff.1 ho).1 (fun e => by have := (hr _ e.symm).1; omega)).trans ho
    have keepI : ∀ {A : World} {row : Option Nat}, (∀ r, row = some r → W1.heap.size ≤ r ∧ ∃ o : Obj, A.heap[r]? = some o ∧ o.isWalk = true) → (∀ r, row = some r → N ≤ r ∧ ∃ o : Obj, A.heap[r]? = some o ∧ o.isCells = false) := fun hr r e => by
      obtain ⟨h2, o, ho, hw⟩ := hr r e
      exact ⟨by omega, o, ho, Obj.not_cells_of_walk hw⟩
    refine (hseq (N + 1) (fun pre W => I pre W ∧ W.heap[N + 1]? = some (.loop (rec .ready)) ∧ W.heap[N]? = some (.deferred (some []))) W1 (hN ▸ iB)
      (fun s A B row hs hgr hr => ⟨hI s A B row hs.1 hgr (keepI hr), keepG hgr hr (by omega) hs.2.1, keepG hgr hr (by omega) hs.2.2⟩) ⟨iI, iL, iD⟩ ?_).mono ?_
    · rintro pre x V ⟨vI, vL, vD⟩ hx
      have hy := run_yield (P := P) (args := enc x) vL (by rw [hrec]; exact hps x)
      rw [hrec] at hy
      refine ⟨fn, _, assign, body, hy, roundIn_of_wpIn hfn (hassign _ pre x V _ vI hx ?_)⟩
      intro a' X kX pX xI xA
      have xL := kX.same _ _ (by omega) vL rfl
      have xD := kX.same _ _ (Nat.le_refl _) vD rfl
      have xz := (Array.getElem?_eq_some_iff.1 xL).1
      obtain ⟨Y, hY⟩ : ∃ Y, X.putObj (N + 1) (.loop { rec .ready with state := .busy }) = Y := ⟨_, rfl⟩
      have yL : Y.heap[N + 1]? = some (.loop { rec .ready with state := .busy }) := by rw [← hY]; exact World.putObj_heap_same xz
      have yD : Y.heap[N]? = some (.deferred (some [])) := by rw [← hY]; exact (World.putObj_heap_other (by omega)).trans xD
      have yI : I pre Y := by rw [← hY]; exact hI.putObj _ xI (by omega) xL rfl
      have yA : Ax pre x a' Y := by rw [← hY]; exact (hAx pre x a').putObj (s := ()) _ xA (by omega) xL rfl
      have yK : Kp X Y := by rw [← hY]; exact hKb _ _ _ _ (by omega) xL rfl rfl
      refine ⟨Y, (run_beginRound xL (by rw [hrec])).trans (by rw [hY]), wpIn_mono (hbody _ pre x a' Y yI yA) ?_⟩
      rintro e a3 Z ⟨rfl, kZ, pZ, zI⟩
      have zL := kZ.same _ _ (by omega) yL rfl
      have zD := kZ.same _ _ (Nat.le_refl _) yD rfl
      have hr := run_endRound (P := P) none zL
      rw [hrec] at hr zL
      exact ⟨_, _, hr, rfl, ⟨hI.putObj _ zI (by omega) zL rfl, by rw [hrec]; exact World.putObj_heap_same (Array.getElem?_eq_some_iff.1 zL).1, (World.putObj_heap_other (by omega)).trans zD⟩, hKt pX (hKt yK (hKt pZ (hKb _ _ _ _ (by omega) zL rfl rfl)))⟩
    · rintro e W2 ⟨⟨v, rfl⟩, xs, hS, eI, eL, eD⟩
      have hr := run_endLoop (P := P) eL (by rw [hrec]; simp)
      rw [hrec] at hr eL
      exact ⟨none, _, hr, hdone N xs _ (Nat.le_refl _) hS (hI.putObj _ eI (by omega) eL rfl) ((World.putObj_heap_other (by omega)).trans eD)⟩
end Go.Proofs.YtmndfncogkjjpaaDoor
