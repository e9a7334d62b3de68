/- Layer 13, as landed: what a function has to keep that is asked of each node whether one goes on from it. -/
import Derived.Test.YthhhkcjggfdagaaS13Visit
import Derived.Test.YthhhkcjggfdagaaGFrom
import Derived.Test.YthhhkcjggfdagaaGApart
import Derived.Test.YthhhkcjggfdagaaL9Stand
import Derived.Shelf.Abstract
namespace Go.Proofs.Ythhhkcjggfdagaa
open Go.RowKit Go.Shelf Go.Proofs.Treem Go.Proofs.Cardm
set_option maxRecDepth 100000
variable {Nd : NdP}

/-- all nodes that lay there lie there -/
def NK (w W : World) : Prop := w.heap.size ≤ W.heap.size ∧ ∀ (k : Nat) (cs : Array Value), w.heap[k]? = some (.cells cs 55 (0, 0)) → W.heap[k]? = some (.cells cs 55 (0, 0))
theorem NK.refl (w : World) : NK w w := ⟨Nat.le_refl _, fun _ _ h => h⟩
theorem NK.trans {a b c : World} (h : NK a b) (k : NK b c) : NK a c := ⟨Nat.le_trans h.1 k.1, fun i cs hi => k.2 i cs (h.2 i cs hi)⟩
theorem NK.of_below {w W : World} (h : Below w.heap.size w W) : NK w W := ⟨h.size, fun k _ hk => (h.block k (Array.getElem?_eq_some_iff.1 hk).1).trans hk⟩
theorem NK.of_kf {free : TypeId → Bool} {W W' : World} (h : Kf free 0 W W') (hf : free 55 = false) : NK W W' := ⟨h.size, fun k cs hk => h.mid k cs _ _ hf hk⟩
theorem NK.of_grown {W W' : World} {row : Option Nat} (h : W.grownBy W' row) (hr : ∀ r, row = some r → ∀ cs, W.heap[r]? ≠ some (.cells cs 55 (0, 0))) : NK W W' :=
  ⟨h.size, fun k cs hk => (h.block k (Array.getElem?_eq_some_iff.1 hk).1 (fun e => hr k e.symm cs hk)).trans hk⟩
theorem NK.node (hN : NodeSays Nd) {w W : World} (h : NK w W) {B : Nat} {a : Addr} {x : No} (hn : Nd w B a x) : Nd W B a x := by
  obtain ⟨cs, hc⟩ := hN.kind hn
  exact hN.only hn ((h.2 _ cs hc).trans hc.symm)
theorem NK.lies (hN : NodeSays Nd) {w W : World} (h : NK w W) {B : Nat} : ∀ {T : AT}, T.lies Nd w B → T.lies Nd W B
  | .e, _ => trivial
  | .n .., ⟨h1, h2, h3, h4, h5⟩ => ⟨h.node hN h1, h2, h3, h.lies hN h4, h.lies hN h5⟩
/-- a pointer to a node, or none -/
def GoodN (w : World) (p : Option Addr) : Prop := ∀ a, p = some a → ∃ cs, w.heap[a.block]? = some (.cells cs 55 (0, 0))
theorem GoodN.good {w W : World} {p : Option Addr} (h : GoodN w p) (k : NK w W) : GoodP W p := fun a e => by
  obtain ⟨cs, hc⟩ := h a e
  exact ⟨cs, _, k.2 _ cs hc⟩
theorem GoodN.root (hN : NodeSays Nd) {w : World} {B : Nat} {T : AT} (h : T.lies Nd w B) : GoodN w T.ptr := fun a e => by
  cases T with
  | e => cases e
  | n b x l r => cases e; exact hN.kind h.1
/-- all but a footprint is as it was -/
structure Keep (Ft : Nat → Prop) (W W' : World) : Prop where
  os : W'.os = W.os
  tape : W'.tape = W.tape
  output : W'.output = W.output
  size : W.heap.size ≤ W'.heap.size
  block : ∀ k, k < W.heap.size → ¬ Ft k → W'.heap[k]? = W.heap[k]?
theorem Keep.put {Ft : Nat → Prop} (W : World) (r : Nat) (o : Obj) (h : Ft r) : Keep Ft W (W.putObj r o) := by
  have hg := grownBy_putObj' W r o
  exact ⟨hg.os, hg.tape, hg.output, hg.size, fun k hk hf => hg.block k hk (fun e => by cases e; exact hf h)⟩
/-- a footprint is as it was, and all nodes -/
structure Fr (Ft : Nat → Prop) (W W' : World) : Prop where
  nk : NK W W'
  same : ∀ k, Ft k → W'.heap[k]? = W.heap[k]?
/-- a function F (cap: what it has of its own) that is asked of each node whether one goes on from it: it notes something of its own (Env), some of it made from B to C -/
structure GoesOn {σ : Type} (Nd : NdP) (w0 : World) (F : FuncId) (cap : Array Value) (B C : Nat) (mine free : TypeId → Bool) (U : AT → Prop) (step : σ → Option Addr → Bool × σ) (pot : σ → Nat) (Env : σ → (Nat → Prop) → World → Prop) : Prop where
  enters : Enters Try.prog F
  calls : ∀ (s : σ) (Ft : Nat → Prop) (W : World) (a : Addr) (x : No) (l r : AT), Env s Ft W → U (.n a x l r) → NK w0 W →
    Calls Try.prog F (#[.pointer (some a)] ++ cap) W fun e W' => e = .returned (.bool (step s (some a)).1) ∧ ∃ Ft', Env (step s (some a)).2 Ft' W' ∧ Keep Ft W W' ∧ ∀ k, Ft' k → Ft k ∨ W.heap.size ≤ k
  foot : ∀ (s : σ) (Ft : Nat → Prop) (W : World), Env s Ft W → ∀ k, Ft k → B ≤ k ∧ ∃ o, W.heap[k]? = some o ∧ ((o.isCells = false ∧ k < C) ∨ ∃ cs t fr, o = .cells cs t fr ∧ mine t = true ∧ free t = false ∧ t ≠ 55)
  frame : ∀ (s : σ) (Ft : Nat → Prop) (W W' : World), Env s Ft W → Fr Ft W W' → Env s Ft W'
  less : ∀ (s : σ) (Ft : Nat → Prop) (W : World) (a : Addr) (x : No) (l r : AT), Env s Ft W → U (.n a x l r) → ((step s (some a)).1 = true → pot (step s (some a)).2 < pot s) ∧ pot (step s (some a)).2 ≤ pot s
section
variable {σ : Type} {w0 : World} {F : FuncId} {cap : Array Value} {B C : Nat} {mine free : TypeId → Bool} {U : AT → Prop} {step : σ → Option Addr → Bool × σ} {pot : σ → Nat} {Env : σ → (Nat → Prop) → World → Prop}
theorem GoesOn.kept (h : GoesOn Nd w0 F cap B C mine free U step pot Env) {s : σ} {Ft : Nat → Prop} {W W' : World} (he : Env s Ft W) (hk : Keep Ft W W') : NK W W' :=
  ⟨hk.size, fun k cs hc => (hk.block k (Array.getElem?_eq_some_iff.1 hc).1 (fun hf => by
    obtain ⟨-, o, ho, hx⟩ := h.foot s Ft W he k hf
    rw [hc] at ho
    cases ho
    rcases hx with ⟨hx, _⟩ | ⟨cs', t, fr, e, _, _, ht⟩
    · cases hx
    · cases e; exact ht rfl)).trans hc⟩
theorem GoesOn.lt (h : GoesOn Nd w0 F cap B C mine free U step pot Env) {s : σ} {Ft : Nat → Prop} {W : World} (he : Env s Ft W) {k : Nat} (hk : Ft k) : k < W.heap.size := by
  obtain ⟨-, o, ho, -⟩ := h.foot s Ft W he k hk
  exact (Array.getElem?_eq_some_iff.1 ho).1
theorem GoesOn.turn (h : GoesOn Nd w0 F cap B C mine free U step pot Env) {s : σ} {Ft : Nat → Prop} {W W' : World} (he : Env s Ft W) (hk : Keep Ft W W') {D : Nat} (hD : ∀ k, Ft k → k < C ∨ D ≤ k) : TurnF mine B C D W W' :=
  ⟨hk.os, hk.tape, hk.output, hk.size, fun k o ho hx => (hk.block k (Array.getElem?_eq_some_iff.1 ho).1 (fun hf => by
    obtain ⟨hB, o', ho', hy⟩ := h.foot s Ft W he k hf
    have hd := hD k hf
    rw [ho] at ho'
    cases ho'
    rcases hx with hx | hx | ⟨cs, t, fr, rfl, ht⟩
    · omega
    · omega
    · rcases hy with ⟨hy, _⟩ | ⟨_, _, _, e, hm, _⟩
      · cases hy
      · cases e; rw [hm] at ht; cases ht)).trans ho⟩
/-- a yield keeps it -/
theorem GoesOn.yield (h : GoesOn Nd w0 F cap B C mine free U step pot Env) {s : σ} {Ft : Nat → Prop} {W W' : World} (he : Env s Ft W) {D : Nat} (hk : KeepsF B C D W W') (hf : Kf free 0 W W') (hn : free 55 = false) : Env s Ft W' :=
  h.frame s Ft W W' he ⟨.of_kf hf hn, fun k hx => by
    obtain ⟨hB, o, ho, hy⟩ := h.foot s Ft W he k hx
    rw [ho]
    rcases hy with ⟨hy, hC⟩ | ⟨cs, t, fr, rfl, _, ht, _⟩
    · exact hk.same k o (.inl ⟨hB, hC⟩) ho hy
    · exact hf.mid k cs t fr ht ho⟩
/-- what grows is none of it -/
theorem GoesOn.grown (h : GoesOn Nd w0 F cap B C mine free U step pot Env) {s : σ} {Ft : Nat → Prop} {W W' : World} (he : Env s Ft W) {row : Option Nat} (hg : W.grownBy W' row) (hr : ∀ r, row = some r → ¬ Ft r ∧ ∀ cs, W.heap[r]? ≠ some (.cells cs 55 (0, 0))) : Env s Ft W' :=
  h.frame s Ft W W' he ⟨.of_grown hg (fun r e => (hr r e).2), fun k hx => hg.block k (h.lt he hx) (fun e => (hr k e.symm).1 hx)⟩
theorem GoesOn.below (h : GoesOn Nd w0 F cap B C mine free U step pot Env) {s : σ} {Ft : Nat → Prop} {W W' : World} (he : Env s Ft W) (hb : Below W.heap.size W W') : Env s Ft W' :=
  h.frame s Ft W W' he ⟨.of_below hb, fun k hx => hb.block k (h.lt he hx)⟩
end
end Go.Proofs.Ythhhkcjggfdagaa
