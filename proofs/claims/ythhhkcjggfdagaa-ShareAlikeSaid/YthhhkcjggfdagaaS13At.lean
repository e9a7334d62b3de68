/- Layer 13, as landed: where the function stands that goes over the nodes of trees from which one goes on. -/
import Derived.Test.YthhhkcjggfdagaaS13Step
import Derived.Test.YthhhkcjggfdagaaGCut
import Derived.Test.YthhhkcjggfdagaaGOwn
import Derived.Laws.OwnMore
namespace Go.Proofs.Ythhhkcjggfdagaa
open Go.RowKit Go.Shelf Go.Proofs.Treem Go.Proofs.Cardm
set_option maxRecDepth 100000
variable {Nd : NdP}

abbrev valsT (ts : List AT) : List Value := ts.map fun T => Value.pointer T.ptr
section
variable {σ : Type} {w0 W1 : World} {F : FuncId} {cap : Array Value} {B C D : Nat} {mine free : TypeId → Bool} {U : AT → Prop} {step : σ → Option Addr → Bool × σ} {pot : σ → Nat} {Env : σ → (Nat → Prop) → World → Prop}
  {X : Nat → Prop} {J : List Value → World → Prop} {tot : List AT} {fin : σ} {s : σ} {Ft : Nat → Prop} {us rest : List AT} {pre pend : List Value} {v : Value} {w w' : World}
/-- those at us are still to be gone by, the first one next, then those at rest; pend: told now; X: what it was made of, as it lay -/
structure AtP (w0 W1 : World) (C D : Nat) (U : AT → Prop) (step : σ → Option Addr → Bool × σ) (pot : σ → Nat) (Env : σ → (Nat → Prop) → World → Prop) (X : Nat → Prop) (J : List Value → World → Prop) (tot : List AT) (fin : σ)
    (s : σ) (Ft : Nat → Prop) (us rest : List AT) (pre pend : List Value) (w : World) : Prop where
  nk : NK w0 w
  env : Env s Ft w
  ftd : ∀ k, Ft k → k < C ∨ D ≤ k
  ftx : ∀ k, X k → ¬ Ft k
  fx : ∀ k, X k → w.heap[k]? = W1.heap[k]?
  ls : ∀ u ∈ us, U u
  rs : ∀ u ∈ rest, U u
  j : J pre w
  sz : D ≤ w.heap.size
  all : pre ++ pend ++ valsT (goL step (us ++ rest) s).1 = valsT tot
  fin : (goL step (us ++ rest) s).2 = fin
  pot : 2 * pot s + us.length ≤ 10001
/-- the stack -/
structure OpP (Ft : Nat → Prop) (D : Nat) (us : List AT) (v : Value) (w : World) : Prop where
  ow : w.ownsRow D 25 1 v us.length (valsT us.reverse)
  nft : ∀ r, v.ownBlock = some r → ¬ Ft r
theorem AtP.begin {T : AT} (h : AtP w0 W1 C D U step pot Env X J tot fin s Ft [] (T :: rest) pre pend w) : AtP w0 W1 C D U step pot Env X J tot fin s Ft [T] rest pre pend w :=
  ⟨h.nk, h.env, h.ftd, h.ftx, h.fx, fun u hu => h.rs u (by rw [List.mem_singleton.1 hu]; exact List.mem_cons_self ..), fun u hu => h.rs u (List.mem_cons_of_mem _ hu), h.j, h.sz, h.all, h.fin, by have := h.pot; simp only [List.length_nil, List.length_cons] at this ⊢; omega⟩
theorem AtP.below (hG : GoesOn Nd w0 F cap B C mine free U step pot Env) (hJ : AbideF mine B C D J) (hX : ∀ k, X k → k < D) (h : AtP w0 W1 C D U step pot Env X J tot fin s Ft us rest pre pend w) (hb : Below w.heap.size w w') : AtP w0 W1 C D U step pot Env X J tot fin s Ft us rest pre pend w' :=
  ⟨h.nk.trans (.of_below hb), hG.below h.env hb, h.ftd, h.ftx, fun k hk => (hb.block k (Nat.lt_of_lt_of_le (hX k hk) h.sz)).trans (h.fx k hk), h.ls, h.rs, hJ _ _ _ h.j (.of_below hb), Nat.le_trans h.sz hb.size, h.all, h.fin, h.pot⟩
theorem AtP.none_ (h : AtP w0 W1 C D U step pot Env X J tot fin s Ft (.e :: us) rest pre pend w) : AtP w0 W1 C D U step pot Env X J tot fin s Ft us rest pre pend w := by
  refine ⟨h.nk, h.env, h.ftd, h.ftx, h.fx, fun u hu => h.ls u (List.mem_cons_of_mem _ hu), h.rs, h.j, h.sz, ?_, ?_, ?_⟩
  · have := h.all; rw [List.cons_append, goL_e] at this; exact this
  · have := h.fin; rw [List.cons_append, goL_e] at this; exact this
  · have := h.pot; rw [List.length_cons] at this; omega
/-- one doesn't go on -/
theorem AtP.no (hG : GoesOn Nd w0 F cap B C mine free U step pot Env) (hJ : AbideF mine B C D J) (hX : ∀ k, X k → k < D) {a : Addr} {x : No} {l r : AT} {Ft' : Nat → Prop} (h : AtP w0 W1 C D U step pot Env X J tot fin s Ft (.n a x l r :: us) rest pre pend w) (hs : (step s (some a)).1 = false)
    (he : Env (step s (some a)).2 Ft' w') (hk : Keep Ft w w') (hf : ∀ k, Ft' k → Ft k ∨ w.heap.size ≤ k) : AtP w0 W1 C D U step pot Env X J tot fin (step s (some a)).2 Ft' us rest pre pend w' := by
  have hD := h.sz
  refine ⟨h.nk.trans (hG.kept h.env hk), he, fun k hx => ?_, fun k hx hx' => ?_, fun k hx => (hk.block k (Nat.lt_of_lt_of_le (hX k hx) hD) (h.ftx k hx)).trans (h.fx k hx), fun u hu => h.ls u (List.mem_cons_of_mem _ hu), h.rs, hJ _ _ _ h.j (hG.turn h.env hk h.ftd), Nat.le_trans hD hk.size, ?_, ?_, ?_⟩
  · rcases hf k hx with hx | hx
    · exact h.ftd k hx
    · exact .inr (Nat.le_trans hD hx)
  · rcases hf k hx' with hx' | hx'
    · exact h.ftx k hx hx'
    · have := hX k hx; omega
  · have := h.all; rw [List.cons_append, goL_no _ _ _ hs] at this; exact this
  · have := h.fin; rw [List.cons_append, goL_no _ _ _ hs] at this; exact this
  · have h1 := h.pot
    have h2 := (hG.less s Ft w a x l r h.env (h.ls _ (List.mem_cons_self ..))).2
    rw [List.length_cons] at h1
    omega
/-- one goes on: the node is told, both its sides are to be gone by -/
theorem AtP.yes (hG : GoesOn Nd w0 F cap B C mine free U step pot Env) (hJ : AbideF mine B C D J) (hX : ∀ k, X k → k < D) (hU : ∀ a x l r, U (.n a x l r) → U l ∧ U r) {a : Addr} {x : No} {l r : AT} {Ft' : Nat → Prop} (h : AtP w0 W1 C D U step pot Env X J tot fin s Ft (.n a x l r :: us) rest pre [] w) (hs : (step s (some a)).1 = true)
    (he : Env (step s (some a)).2 Ft' w') (hk : Keep Ft w w') (hf : ∀ k, Ft' k → Ft k ∨ w.heap.size ≤ k) : AtP w0 W1 C D U step pot Env X J tot fin (step s (some a)).2 Ft' (l :: r :: us) rest pre [.pointer (some a)] w' := by
  have hD := h.sz
  have hu := hU a x l r (h.ls _ (List.mem_cons_self ..))
  refine ⟨h.nk.trans (hG.kept h.env hk), he, fun k hx => ?_, fun k hx hx' => ?_, fun k hx => (hk.block k (Nat.lt_of_lt_of_le (hX k hx) hD) (h.ftx k hx)).trans (h.fx k hx), fun u hu' => ?_, h.rs, hJ _ _ _ h.j (hG.turn h.env hk h.ftd), Nat.le_trans hD hk.size, ?_, ?_, ?_⟩
  · rcases hf k hx with hx | hx
    · exact h.ftd k hx
    · exact .inr (Nat.le_trans hD hx)
  · rcases hf k hx' with hx' | hx'
    · exact h.ftx k hx hx'
    · have := hX k hx; omega
  · rcases List.mem_cons.1 hu' with rfl | hu'
    · exact hu.1
    · rcases List.mem_cons.1 hu' with rfl | hu'
      · exact hu.2
      · exact h.ls u (List.mem_cons_of_mem _ hu')
  · have := h.all; rw [List.cons_append, goL_yes _ _ _ hs] at this
    rw [← this]
    simp [AT.ptr]
  · have := h.fin; rw [List.cons_append, goL_yes _ _ _ hs] at this; exact this
  · have h1 := h.pot
    have h2 := (hG.less s Ft w a x l r h.env (h.ls _ (List.mem_cons_self ..))).1 hs
    rw [List.length_cons] at h1
    simp only [List.length_cons]
    omega
theorem AtP.told {y : Value} (h : AtP w0 W1 C D U step pot Env X J tot fin s Ft us rest pre [y] w) : pre ++ [y] <+: valsT tot := ⟨_, h.all⟩
/-- a node has been told -/
theorem AtP.yielded (hG : GoesOn Nd w0 F cap B C mine free U step pot Env) (hn : free 55 = false) (hX : ∀ k, X k → k < D ∧ ∃ cs t fr, W1.heap[k]? = some (.cells cs t fr) ∧ free t = false) {y : Value} (h : AtP w0 W1 C D U step pot Env X J tot fin s Ft us rest pre [y] w)
    (hj : J (pre ++ [y]) w') (hk : Kf free 0 w w') (hf : KeepsF B C D w w') : AtP w0 W1 C D U step pot Env X J tot fin s Ft us rest (pre ++ [y]) [] w' :=
  ⟨h.nk.trans (.of_kf hk hn), hG.yield h.env hf hk hn, h.ftd, h.ftx, fun k hx => by
    obtain ⟨-, cs, t, fr, hc, ht⟩ := hX k hx
    rw [hc]
    exact hk.mid k cs t fr ht ((h.fx k hx).trans hc), h.ls, h.rs, hj, Nat.le_trans h.sz hk.size, by have := h.all; simpa using this, h.fin, h.pot⟩
/-- the stack has grown -/
theorem AtP.grown (hG : GoesOn Nd w0 F cap B C mine free U step pot Env) (hJ : AbideF mine B C D J) (hX : ∀ k, X k → k < D) (hm : mine 25 = true) (hB : B ≤ D) (h : AtP w0 W1 C D U step pot Env X J tot fin s Ft us rest pre pend w) {n : Nat} {xs : List Value} (ho : w.ownsRow D 25 1 v n xs) (hv : ∀ r, v.ownBlock = some r → ¬ Ft r)
    (hg : w.grownBy w' v.ownBlock) : AtP w0 W1 C D U step pot Env X J tot fin s Ft us rest pre pend w' :=
  ⟨h.nk.trans (.of_grown hg (row_kind ho)), hG.grown h.env hg (fun r e => ⟨hv r e, row_kind ho r e⟩), h.ftd, h.ftx, fun k hx => (hg.block k (Nat.lt_of_lt_of_le (hX k hx) h.sz) (fun e => by
    have h1 := (ho.lt k e.symm).1
    have h2 := hX k hx
    omega)).trans (h.fx k hx), h.ls, h.rs, hJ _ _ _ h.j (.row hg ho hm hB (Nat.le_refl _)), Nat.le_trans h.sz hg.size, h.all, h.fin, h.pot⟩
theorem OpP.pop {T : AT} {A : Option Addr} {m n c : Nat} (h : OpP Ft D (T :: us) (.slice A n c) w) (hm : us.length = m) (hn : m + 1 = n) : OpP Ft D us (.slice A m c) w := by
  subst hm hn
  have ho := h.ow
  rw [List.reverse_cons, valsT, List.map_append] at ho
  have ht := owned_take ho us.length (by simp)
  rw [show us.length * 1 = (us.reverse.map fun u => Value.pointer u.ptr).length by simp, List.take_left] at ht
  refine ⟨ht, fun r e => h.nft r ?_⟩
  rcases ho.2 with ⟨e1, _⟩ | ⟨g, cap, cur, e1, _⟩
  · cases e1
  · cases e1; exact e
theorem OpP.top {T : AT} {A : Option Addr} {n m c : Nat} (h : OpP Ft D (T :: us) (.slice A n c) w) (hm : us.length = m) : ∃ ad, A = some ad ∧ w.cell? (ad.add m) = some (.pointer T.ptr) := by
  obtain ⟨A', c', e1, -, -, -⟩ := own_slice h.ow
  cases e1
  have ho := h.ow
  rw [List.reverse_cons, valsT, List.map_append] at ho
  obtain ⟨ad, e, _, hc⟩ := (Row.of_own ho) m (.pointer T.ptr) (by rw [List.getElem?_append_right (by simp [hm])]; simp [hm])
  exact ⟨ad, e, hc⟩
theorem own_block_at {Y Z : World} {base n size : Nat} {e : TypeId} {v : Value} {xs : List Value} (h : Y.ownsRow base e size v n xs) (hs : ∀ r, v.ownBlock = some r → Z.heap[r]? = Y.heap[r]?) : Z.ownsRow base e size v n xs := by
  refine ⟨h.1, ?_⟩
  rcases h.2 with hn | ⟨g, cap, cur, h1, h2, h3, rest⟩
  · exact .inl hn
  · exact .inr ⟨g, cap, cur, h1, h2, (hs g (by rw [h1]; rfl)).trans h3, rest⟩
theorem OpP.asked {Ft' : Nat → Prop} (h : OpP Ft D us v w) (hk : Keep Ft w w') (hf : ∀ k, Ft' k → Ft k ∨ w.heap.size ≤ k) : OpP Ft' D us v w' := by
  have hl : ∀ r, v.ownBlock = some r → r < w.heap.size := fun r e => (h.ow.lt r e).2
  exact ⟨own_block_at h.ow (fun r e => hk.block r (hl r e) (h.nft r e)), fun r e hx => (hf r hx).elim (h.nft r e) (fun k => by have := hl r e; omega)⟩
theorem OpP.yielded (h : OpP Ft D us v w) (hk : Kf free 0 w w') (hn : free 25 = false) : OpP Ft D us v w' := ⟨hk.owned h.ow hn, h.nft⟩
theorem OpP.fresh (hG : GoesOn Nd w0 F cap B C mine free U step pot Env) (he : Env s Ft w) (T : AT) (hD : D ≤ w.heap.size) : OpP Ft D [T] (.slice (some ⟨w.heap.size, 0, none⟩) 1 1) (w.alloc (.cells #[.pointer T.ptr] 25)) :=
  ⟨World.ownsRow_lit w #[.pointer T.ptr] 1 hD (by decide) rfl, fun r e hx => by
    obtain rfl : w.heap.size = r := by simpa [Value.ownBlock] using e
    have := hG.lt he hx
    omega⟩
theorem OpP.push {l r : AT} {tmp : Obj} {v1 : Value} {w1 : World} (hG : GoesOn Nd w0 F cap B C mine free U step pot Env) (he : Env s Ft w) (h : OpP Ft D us v w)
    (ho : w1.ownsRow D 25 1 v1 (us.length + 2) (valsT us.reverse ++ [.pointer r.ptr, .pointer l.ptr])) (hw : v1.ownBlock = v.ownBlock ∨ ∀ k, v1.ownBlock = some k → (w.alloc tmp).heap.size ≤ k) : OpP Ft D (l :: r :: us) v1 w1 := by
  refine ⟨?_, fun k e hx => ?_⟩
  · simp only [List.reverse_cons, valsT, List.map_append, List.length_cons, List.append_assoc, List.map_cons, List.map_nil] at ho ⊢
    exact ho
  · rcases hw with hw | hw
    · exact h.nft k (hw ▸ e) hx
    · have h1 := hw k e
      have h2 := hG.lt he hx
      simp at h1
      omega
end
end Go.Proofs.Ythhhkcjggfdagaa
