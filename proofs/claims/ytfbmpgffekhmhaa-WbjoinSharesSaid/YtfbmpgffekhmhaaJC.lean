/- Package wbjoin, as landed: the way inward, to what the lighter tree may stand beside. -/
import Derived.Test.YtfbmpgffekhmhaaJA
import Derived.Test.YtfbmpgffekhmhaaGCut
import Derived.Test.YtfbmpgffekhmhaaGOwn
import Derived.Laws.OwnMore
import Derived.Test.YtfbmpgffekhmhaaGHeldIn
import Derived.Test.YtfbmpgffekhmhaaGRound
import Derived.Test.YtfbmpgffekhmhaaL9Rules
import Derived.Deep.Cut
import Derived.Deep.LoopGhost
import Derived.Test.YtfbmpgffekhmhaaGApart
import Derived.Test.YtfbmpgffekhmhaaGRuns
import Derived.Test.YtfbmpgffekhmhaaGApp
import Derived.Test.YtfbmpgffekhmhaaJB
/- Layer 13, as landed: where the function stands that goes over the nodes of trees from which one goes on. -/
namespace Go.Proofs.Ytfbmpgffekhmhaa
open Go.RowKit Go.Shelf Go.Proofs.Treem Go.Proofs.Cardm
set_option maxRecDepth 100000
variable {Nd : NdP}

abbrev valsT (ts : List AT) : List Value := ts.map fun T => Value.pointer T.ptr
section
variable {σ : Type} {w0 W1 : World} {F : FuncId} {cap : Array Value} {B C D : Nat} {mine free : TypeId → Bool} {U : AT → Prop} {step : σ → Option Addr → Bool × σ} {pot : σ → Nat} {Env : σ → (Nat → Prop) → World → Prop}
  {X : Nat → Prop} {J : List Value → World → Prop} {tot : List AT} {fin : σ} {s : σ} {Ft : Nat → Prop} {us rest : List AT} {pre pend : List Value} {v : Value} {w w' : World}
/-- those at us are still to be gone by, the first one next, then those at rest; pend: told now; X: what it was made of, as it lay -/
structure AtP (w0 W1 : World) (C D : Nat) (U : AT → Prop) (step : σ → Option Addr → Bool × σ) (pot : σ → Nat) (Env : σ → (Nat → Prop) → World → Prop) (X : Nat → Prop) (J : List Value → World → Prop) (tot : List AT) (fin : σ)
    (s : σ) (Ft : Nat → Prop) (us rest : List AT) (pre pend : List Value) (w : World) : Prop where
  nk : NK w0 w
  env : Env s Ft w
  ftd : ∀ k, Ft k → k < C ∨ D ≤ k
  ftx : ∀ k, X k → ¬ Ft k
  fx : ∀ k, X k → w.heap[k]? = W1.heap[k]?
  ls : ∀ u ∈ us, U u
  rs : ∀ u ∈ rest, U u
  j : J pre w
  sz : D ≤ w.heap.size
  all : pre ++ pend ++ valsT (goL step (us ++ rest) s).1 = valsT tot
  fin : (goL step (us ++ rest) s).2 = fin
  pot : 2 * pot s + us.length ≤ 10001
/-- the stack -/
structure OpP (Ft : Nat → Prop) (D : Nat) (us : List AT) (v : Value) (w : World) : Prop where
  ow : w.ownsRow D 25 1 v us.length (valsT us.reverse)
  nft : ∀ r, v.ownBlock = some r → ¬ Ft r
theorem AtP.begin {T : AT} (h : AtP w0 W1 C D U step pot Env X J tot fin s Ft [] (T :: rest) pre pend w) : AtP w0 W1 C D U step pot Env X J tot fin s Ft [T] rest pre pend w :=
  ⟨h.nk, h.env, h.ftd, h.ftx, h.fx, fun u hu => h.rs u (by rw [List.mem_singleton.1 hu]; exact List.mem_cons_self ..), fun u hu => h.rs u (List.mem_cons_of_mem _ hu), h.j, h.sz, h.all, h.fin, by have := h.pot; simp only [List.length_nil, List.length_cons] at this ⊢; omega⟩
theorem AtP.below (hG : GoesOn Nd w0 F cap B C mine free U step pot Env) (hJ : AbideF mine B C D J) (hX : ∀ k, X k → k < D) (h : AtP w0 W1 C D U step pot Env X J tot fin s Ft us rest pre pend w) (hb : Below w.heap.size w w') : AtP w0 W1 C D U step pot Env X J tot fin s Ft us rest pre pend w' :=
  ⟨h.nk.trans (.of_below hb), hG.below h.env hb, h.ftd, h.ftx, fun k hk => (hb.block k (Nat.lt_of_lt_of_le (hX k hk) h.sz)).trans (h.fx k hk), h.ls, h.rs, hJ _ _ _ h.j (.of_below hb), Nat.le_trans h.sz hb.size, h.all, h.fin, h.pot⟩
theorem AtP.none_ (h : AtP w0 W1 C D U step pot Env X J tot fin s Ft (.e :: us) rest pre pend w) : AtP w0 W1 C D U step pot Env X J tot fin s Ft us rest pre pend w := by
  refine ⟨h.nk, h.env, h.ftd, h.ftx, h.fx, fun u hu => h.ls u (List.mem_cons_of_mem _ hu), h.rs, h.j, h.sz, ?_, ?_, ?_⟩
  · have := h.all; rw [List.cons_append, goL_e] at this; exact this
  · have := h.fin; rw [List.cons_append, goL_e] at this; exact this
  · have := h.pot; rw [List.length_cons] at this; omega
/-- one doesn't go on -/
theorem AtP.no (hG : GoesOn Nd w0 F cap B C mine free U step pot Env) (hJ : AbideF mine B C D J) (hX : ∀ k, X k → k < D) {a : Addr} {x : No} {l r : AT} {Ft' : Nat → Prop} (h : AtP w0 W1 C D U step pot Env X J tot fin s Ft (.n a x l r :: us) rest pre pend w) (hs : (step s (some a)).1 = false)
    (he : Env (step s (some a)).2 Ft' w') (hk : Keep Ft w w') (hf : ∀ k, Ft' k → Ft k ∨ w.heap.size ≤ k) : AtP w0 W1 C D U step pot Env X J tot fin (step s (some a)).2 Ft' us rest pre pend w' := by
  have hD := h.sz
  refine ⟨h.nk.trans (hG.kept h.env hk), he, fun k hx => ?_, fun k hx hx' => ?_, fun k hx => (hk.block k (Nat.lt_of_lt_of_le (hX k hx) hD) (h.ftx k hx)).trans (h.fx k hx), fun u hu => h.ls u (List.mem_cons_of_mem _ hu), h.rs, hJ _ _ _ h.j (hG.turn h.env hk h.ftd), Nat.le_trans hD hk.size, ?_, ?_, ?_⟩
  · rcases hf k hx with hx | hx
    · exact h.ftd k hx
    · exact .inr (Nat.le_trans hD hx)
  · rcases hf k hx' with hx' | hx'
    · exact h.ftx k hx hx'
    · have := hX k hx; omega
  · have := h.all; rw [List.cons_append, goL_no _ _ _ hs] at this; exact this
  · have := h.fin; rw [List.cons_append, goL_no _ _ _ hs] at this; exact this
  · have h1 := h.pot
    have h2 := (hG.less s Ft w a x l r h.env (h.ls _ (List.mem_cons_self ..))).2
    rw [List.length_cons] at h1
    omega
/-- one goes on: the node is told, both its sides are to be gone by -/
theorem AtP.yes (hG : GoesOn Nd w0 F cap B C mine free U step pot Env) (hJ : AbideF mine B C D J) (hX : ∀ k, X k → k < D) (hU : ∀ a x l r, U (.n a x l r) → U l ∧ U r) {a : Addr} {x : No} {l r : AT} {Ft' : Nat → Prop} (h : AtP w0 W1 C D U step pot Env X J tot fin s Ft (.n a x l r :: us) rest pre [] w) (hs : (step s (some a)).1 = true)
    (he : Env (step s (some a)).2 Ft' w') (hk : Keep Ft w w') (hf : ∀ k, Ft' k → Ft k ∨ w.heap.size ≤ k) : AtP w0 W1 C D U step pot Env X J tot fin (step s (some a)).2 Ft' (l :: r :: us) rest pre [.pointer (some a)] w' := by
  have hD := h.sz
  have hu := hU a x l r (h.ls _ (List.mem_cons_self ..))
  refine ⟨h.nk.trans (hG.kept h.env hk), he, fun k hx => ?_, fun k hx hx' => ?_, fun k hx => (hk.block k (Nat.lt_of_lt_of_le (hX k hx) hD) (h.ftx k hx)).trans (h.fx k hx), fun u hu' => ?_, h.rs, hJ _ _ _ h.j (hG.turn h.env hk h.ftd), Nat.le_trans hD hk.size, ?_, ?_, ?_⟩
  · rcases hf k hx with hx | hx
    · exact h.ftd k hx
    · exact .inr (Nat.le_trans hD hx)
  · rcases hf k hx' with hx' | hx'
    · exact h.ftx k hx hx'
    · have := hX k hx; omega
  · rcases List.mem_cons.1 hu' with rfl | hu'
    · exact hu.1
    · rcases List.mem_cons.1 hu' with rfl | hu'
      · exact hu.2
      · exact h.ls u (List.mem_cons_of_mem _ hu')
  · have := h.all; rw [List.cons_append, goL_yes _ _ _ hs] at this
    rw [← this]
    simp [AT.ptr]
  · have := h.fin; rw [List.cons_append, goL_yes _ _ _ hs] at this; exact this
  · have h1 := h.pot
    have h2 := (hG.less s Ft w a x l r h.env (h.ls _ (List.mem_cons_self ..))).1 hs
    rw [List.length_cons] at h1
    simp only [List.length_cons]
    omega
theorem AtP.told {y : Value} (h : AtP w0 W1 C D U step pot Env X J tot fin s Ft us rest pre [y] w) : pre ++ [y] <+: valsT tot := ⟨_, h.all⟩
/-- a node has been told -/
theorem AtP.yielded (hG : GoesOn Nd w0 F cap B C mine free U step pot Env) (hn : free 68 = false) (hX : ∀ k, X k → k < D ∧ ∃ cs t fr, W1.heap[k]? = some (.cells cs t fr) ∧ free t = false) {y : Value} (h : AtP w0 W1 C D U step pot Env X J tot fin s Ft us rest pre [y] w)
    (hj : J (pre ++ [y]) w') (hk : Kf free 0 w w') (hf : KeepsF B C D w w') : AtP w0 W1 C D U step pot Env X J tot fin s Ft us rest (pre ++ [y]) [] w' :=
  ⟨h.nk.trans (.of_kf hk hn), hG.yield h.env hf hk hn, h.ftd, h.ftx, fun k hx => by
    obtain ⟨-, cs, t, fr, hc, ht⟩ := hX k hx
    rw [hc]
    exact hk.mid k cs t fr ht ((h.fx k hx).trans hc), h.ls, h.rs, hj, Nat.le_trans h.sz hk.size, by have := h.all; simpa using this, h.fin, h.pot⟩
/-- the stack has grown -/
theorem AtP.grown (hG : GoesOn Nd w0 F cap B C mine free U step pot Env) (hJ : AbideF mine B C D J) (hX : ∀ k, X k → k < D) (hm : mine 25 = true) (hB : B ≤ D) (h : AtP w0 W1 C D U step pot Env X J tot fin s Ft us rest pre pend w) {n : Nat} {xs : List Value} (ho : w.ownsRow D 25 1 v n xs) (hv : ∀ r, v.ownBlock = some r → ¬ Ft r)
    (hg : w.grownBy w' v.ownBlock) : AtP w0 W1 C D U step pot Env X J tot fin s Ft us rest pre pend w' :=
  ⟨h.nk.trans (.of_grown hg (row_kind ho)), hG.grown h.env hg (fun r e => ⟨hv r e, row_kind ho r e⟩), h.ftd, h.ftx, fun k hx => (hg.block k (Nat.lt_of_lt_of_le (hX k hx) h.sz) (fun e => by
    have h1 := (ho.lt k e.symm).1
    have h2 := hX k hx
    omega)).trans (h.fx k hx), h.ls, h.rs, hJ _ _ _ h.j (.row hg ho hm hB (Nat.le_refl _)), Nat.le_trans h.sz hg.size, h.all, h.fin, h.pot⟩
theorem OpP.pop {T : AT} {A : Option Addr} {m n c : Nat} (h : OpP Ft D (T :: us) (.slice A n c) w) (hm : us.length = m) (hn : m + 1 = n) : OpP Ft D us (.slice A m c) w := by
  subst hm hn
  have ho := h.ow
  rw [List.reverse_cons, valsT, List.map_append] at ho
  have ht := owned_take ho us.length (by simp)
  rw [show us.length * 1 = (us.reverse.map fun u => Value.pointer u.ptr).length by simp, List.take_left] at ht
  refine ⟨ht, fun r e => h.nft r ?_⟩
  rcases ho.2 with ⟨e1, _⟩ | ⟨g, cap, cur, e1, _⟩
  · cases e1
  · cases e1; exact e
theorem OpP.top {T : AT} {A : Option Addr} {n m c : Nat} (h : OpP Ft D (T :: us) (.slice A n c) w) (hm : us.length = m) : ∃ ad, A = some ad ∧ w.cell? (ad.add m) = some (.pointer T.ptr) := by
  obtain ⟨A', c', e1, -, -, -⟩ := own_slice h.ow
  cases e1
  have ho := h.ow
  rw [List.reverse_cons, valsT, List.map_append] at ho
  obtain ⟨ad, e, _, hc⟩ := (Row.of_own ho) m (.pointer T.ptr) (by rw [List.getElem?_append_right (by simp [hm])]; simp [hm])
  exact ⟨ad, e, hc⟩
theorem own_block_at {Y Z : World} {base n size : Nat} {e : TypeId} {v : Value} {xs : List Value} (h : Y.ownsRow base e size v n xs) (hs : ∀ r, v.ownBlock = some r → Z.heap[r]? = Y.heap[r]?) : Z.ownsRow base e size v n xs := by
  refine ⟨h.1, ?_⟩
  rcases h.2 with hn | ⟨g, cap, cur, h1, h2, h3, rest⟩
  · exact .inl hn
  · exact .inr ⟨g, cap, cur, h1, h2, (hs g (by rw [h1]; rfl)).trans h3, rest⟩
theorem OpP.asked {Ft' : Nat → Prop} (h : OpP Ft D us v w) (hk : Keep Ft w w') (hf : ∀ k, Ft' k → Ft k ∨ w.heap.size ≤ k) : OpP Ft' D us v w' := by
  have hl : ∀ r, v.ownBlock = some r → r < w.heap.size := fun r e => (h.ow.lt r e).2
  exact ⟨own_block_at h.ow (fun r e => hk.block r (hl r e) (h.nft r e)), fun r e hx => (hf r hx).elim (h.nft r e) (fun k => by have := hl r e; omega)⟩
theorem OpP.yielded (h : OpP Ft D us v w) (hk : Kf free 0 w w') (hn : free 25 = false) : OpP Ft D us v w' := ⟨hk.owned h.ow hn, h.nft⟩
theorem OpP.fresh (hG : GoesOn Nd w0 F cap B C mine free U step pot Env) (he : Env s Ft w) (T : AT) (hD : D ≤ w.heap.size) : OpP Ft D [T] (.slice (some ⟨w.heap.size, 0, none⟩) 1 1) (w.alloc (.cells #[.pointer T.ptr] 25)) :=
  ⟨World.ownsRow_lit w #[.pointer T.ptr] 1 hD (by decide) rfl, fun r e hx => by
    obtain rfl : w.heap.size = r := by simpa [Value.ownBlock] using e
    have := hG.lt he hx
    omega⟩
theorem OpP.push {l r : AT} {tmp : Obj} {v1 : Value} {w1 : World} (hG : GoesOn Nd w0 F cap B C mine free U step pot Env) (he : Env s Ft w) (h : OpP Ft D us v w)
    (ho : w1.ownsRow D 25 1 v1 (us.length + 2) (valsT us.reverse ++ [.pointer r.ptr, .pointer l.ptr])) (hw : v1.ownBlock = v.ownBlock ∨ ∀ k, v1.ownBlock = some k → (w.alloc tmp).heap.size ≤ k) : OpP Ft D (l :: r :: us) v1 w1 := by
  refine ⟨?_, fun k e hx => ?_⟩
  · simp only [List.reverse_cons, valsT, List.map_append, List.length_cons, List.append_assoc, List.map_cons, List.map_nil] at ho ⊢
    exact ho
  · rcases hw with hw | hw
    · exact h.nft k (hw ▸ e) hx
    · have h1 := hw k e
      have h2 := hG.lt he hx
      simp at h1
      omega
end
end Go.Proofs.Ytfbmpgffekhmhaa
/- Layer 13, as landed: what goes over the nodes of trees, as far as one goes on. -/
namespace Go.Proofs.Ytfbmpgffekhmhaa
open Go.RowKit Go.Shelf Go.Proofs.Treem Go.Proofs.Cardm
attribute [local go_sem] Oper.semAt_some
set_option maxRecDepth 100000
variable {Nd : NdP}

theorem info_ptr13 : (Try.prog.info? 25).map (fun i => (i.zero, i.size, i.bytes)) = some (some (.pointer none), 1, 8) := by kernel_rfl
theorem size_ptr13 (W : World) : (sizeOf 25).run Try.prog W = .ok 1 W := by kernel_rfl
theorem cell_same {W W' : World} {a : Addr} (h : W'.heap[a.block]? = W.heap[a.block]?) : W'.cell? a = W.cell? a := by
  simp [World.cell?, h]
section
variable {σ : Type} {w0 : World} {F : FuncId} {cap : Array Value} {B : Nat} {mine free : TypeId → Bool} {U : AT → Prop} {step : σ → Option Addr → Bool × σ} {pot : σ → Nat} {Env : σ → (Nat → Prop) → World → Prop}
set_option maxHeartbeats 16000000 in
theorem nodes13_from (hN : NodeSays Nd) (w : World) (hG : GoesOn Nd w0 F cap B w.heap.size mine free U step pot Env) (hn1 : free 68 = false) (hn2 : free 25 = false) (hm : mine 25 = true) (fT : free 59 = false) (fG : free 63 = false)
    (hU : ∀ a x l r, U (.n a x l r) → U l ∧ U r) (hlies : ∀ T, U T → T.lies Nd w0 w0.heap.size) (os : List AT) (ho : ∀ T ∈ os, U T) (gT gG : Nat) (A : Option Addr) (n c : Nat) (hl : os.length = n) (hn : n ≤ 2000) (hB : B ≤ w.heap.size)
    (s0 : σ) (Ft0 : Nat → Prop) (he : Env s0 Ft0 w) (hp : pot s0 ≤ 5000) (hnk : NK w0 w) (hT : Boxed w gT 59 (.slice A n c)) (hg : Boxed w gG 63 (.func (.func F) #[] cap)) (hnT : ¬ Ft0 gT) (hnG : ¬ Ft0 gG)
    (hA : ∀ (k : Nat) (T : AT), os[k]? = some T → ∃ ad, A = some ad ∧ ¬ Ft0 ad.block ∧ (∃ cs t fr, w.heap[ad.block]? = some (.cells cs t fr) ∧ free t = false) ∧ w.cell? (ad.add k) = some (.pointer T.ptr)) (m : Nat) :
    SeqFrom B mine Fence.wide m Try.prog 55 #[.pointer (some ⟨gT, 0, none⟩), .pointer (some ⟨gG, 0, none⟩)] (fun y => #[y]) (Kf free 0) (fun pre y _ => pre ++ [y] <+: valsT (goL step os s0).1) (fun xs W => xs = valsT (goL step os s0).1 ∧ ∃ Ft, Env (goL step os s0).2 Ft W) w := fun l J Jx W hbW hJ hJx hY hJ0 => by
  obtain ⟨i0, hin, hz0, hz1, hz2⟩ := info_parts info_ptr13
  obtain ⟨tot, hTot⟩ : ∃ t, (goL step os s0).1 = t := ⟨_, rfl⟩
  obtain ⟨fin, hFin⟩ : ∃ t, (goL step os s0).2 = t := ⟨_, rfl⟩
  rw [hTot, hFin]
  have hY1 : ∀ pre x W1, J pre W1 → pre ++ [x] <+: valsT tot → YieldAt Fence.wide (m - 1) Try.prog l #[x] W1 fun e W' => ((e = .returned (.bool true) ∧ J (pre ++ [x]) W' ∧ Kf free 0 W1 W') ∨ (e = .returned (.bool false) ∧ Jx (pre ++ [x]) W')) ∧ KeepsF B w.heap.size W.heap.size W1 W' := fun pre x W1 h1 h2 => hY pre x W1 h1 (by rw [hTot]; exact h2)
  clear hY hJx
  obtain ⟨C, hC⟩ : ∃ c, w.heap.size = c := ⟨_, rfl⟩
  obtain ⟨D, hD⟩ : ∃ d, W.heap.size = d := ⟨_, rfl⟩
  have hCD : C ≤ D := hC ▸ hD ▸ hbW.size
  have xT : W.cell? ⟨gT, 0, none⟩ = some (.slice A n c) := keep_cell hbW hT.cell
  have xG : W.cell? ⟨gG, 0, none⟩ = some (.func (.func F) #[] cap) := keep_cell hbW hg.cell
  have henter : ∀ (args : Array Value) (V : World), (callFunc F args).run Try.prog V = .ok (.enter F args) V := hG.enters
  obtain ⟨X, hXd⟩ : ∃ X : Nat → Prop, X = fun k => k = gT ∨ k = gG ∨ ∃ ad, A = some ad ∧ 0 < n ∧ k = ad.block := ⟨_, rfl⟩
  have hX : ∀ k, X k → k < D ∧ ∃ cs t fr, W.heap[k]? = some (.cells cs t fr) ∧ free t = false := fun k hk => by
    have up : ∀ k cs t fr, w.heap[k]? = some (.cells cs t fr) → free t = false → k < D ∧ ∃ cs t fr, W.heap[k]? = some (.cells cs t fr) ∧ free t = false := fun k cs t fr h hf => by
      have hlt := (Array.getElem?_eq_some_iff.1 h).1
      exact ⟨by omega, cs, t, fr, (hbW.block k hlt).trans h, hf⟩
    rw [hXd] at hk
    rcases hk with rfl | rfl | ⟨ad, hAd, hn0, rfl⟩
    · exact up _ _ _ _ hT fT
    · exact up _ _ _ _ hg fG
    · obtain ⟨T, hT0⟩ : ∃ T, os[0]? = some T := ⟨_, List.getElem?_eq_getElem (by omega)⟩
      obtain ⟨ad', e, _, ⟨cs, t, fr, hc, hf⟩, _⟩ := hA 0 T hT0
      rw [hAd] at e
      cases e
      exact up _ _ _ _ hc hf
  have hXf : ∀ k, X k → ¬ Ft0 k := fun k hk => by
    rw [hXd] at hk
    rcases hk with rfl | rfl | ⟨ad, hAd, hn0, rfl⟩
    · exact hnT
    · exact hnG
    · obtain ⟨T, hT0⟩ : ∃ T, os[0]? = some T := ⟨_, List.getElem?_eq_getElem (by omega)⟩
      obtain ⟨ad', e, hf, _, _⟩ := hA 0 T hT0
      rw [hAd] at e
      cases e
      exact hf
  have hXG : X gG := by rw [hXd]; exact .inr (.inl rfl)
  have hA1 : ∀ (k : Nat) (T : AT), os[k]? = some T → ∃ ad, A = some ad ∧ X ad.block ∧ W.cell? (ad.add k) = some (.pointer T.ptr) := fun k T hk => by
    obtain ⟨ad, e, _, _, hc⟩ := hA k T hk
    exact ⟨ad, e, by rw [hXd]; exact .inr (.inr ⟨ad, e, by have := (List.getElem?_eq_some_iff.1 hk).1; omega, rfl⟩), keep_cell hbW hc⟩
  have hXD : ∀ k, X k → k < D := fun k hk => (hX k hk).1
  rw [hC] at hG hB hJ hY1
  rw [hD] at hJ hY1
  have h0 : AtP w0 W C D U step pot Env X J tot fin s0 Ft0 [] os [] [] W :=
    ⟨hnk.trans (.of_below hbW), hG.below he hbW, fun k hk => .inl (by have := hG.lt he hk; omega), hXf, fun k _ => rfl, (fun u hu => by cases hu), ho, hJ0, by omega, by simp [hTot], by simpa using hFin, by simp; omega⟩
  have H0 := Lib.hid h0
  have hN' := Lib.hid hN
  have hG' := Lib.hid hG
  have hJ' := Lib.hid hJ
  have hY' := Lib.hid hY1
  have hX' := Lib.hid hX
  have hXD' := Lib.hid hXD
  have hXG' := Lib.hid hXG
  have hA' := Lib.hid hA1
  have hU' := Lib.hid hU
  have hlies' := Lib.hid hlies
  have hl' := Lib.hid hl
  have hbd : Hid (B ≤ D) := by show B ≤ D; omega
  have hxG' := Lib.hid xG
  clear hN hG hJ hY1 hX hXD hXG hA1 hU hlies hl h0 hXf hXd hTot hFin hD hC hCD he hp hnk hT hg hnT hnG hA hbW hJ0 ho hB xG
  refine callsIn_of_wp Try.func55 rfl trivial ?_ rfl
  simp only [Try.ntmps55, List.size_toArray, List.length_cons, List.length_nil, Nat.reduceAdd, Nat.reduceSub, Array.replicate_succ, Array.replicate_zero, List.push_toArray, List.append_toArray, List.nil_append, List.cons_append]
  refine wpIn_wide.2 ?_
  go_wp2_with fail
  clear xT
  go_loopg [11] n (fun k iv wr => ∃ (i : Nat) (s : σ) (Ft : Nat → Prop) (pre : List Value), iv = .int .i64 (i : Int) ∧ k + i = n ∧ AtP w0 W C D U step pot Env X J tot fin s Ft [] (os.drop i) pre [] wr)
  case atStart => exact ⟨0, s0, Ft0, [], rfl, rfl, H0.out⟩
  case round =>
    clear H0
    obtain ⟨i, s, Ft, pre, rfl, hk, hAt⟩ := hrel
    by_cases hlt : i < n
    · obtain ⟨T, hT⟩ : ∃ T, os[i]? = some T := ⟨_, List.getElem?_eq_getElem (by have := hl'.out; omega)⟩
      obtain ⟨ad, rfl, hXa, hca⟩ := hA'.out i T hT
      have hdrop : os.drop i = T :: os.drop (i + 1) := by
        obtain ⟨h1, h2⟩ := List.getElem?_eq_some_iff.1 hT
        rw [List.drop_eq_getElem_cons h1, h2]
      rw [hdrop] at hAt
      have xa : wr.cell? (ad.add i) = some (.pointer T.ptr) := (cell_same (by rw [add_block]; exact hAt.fx _ hXa)).trans hca
      have d0 : decide ((i : Int) < (n : Int)) = true := decide_eq_true (by omega)
      have e0 : wrap64 ((i : Int) + 1) = ((i + 1 : Nat) : Int) := by unfold wrap64; omega
      obtain ⟨gS, hgS⟩ : ∃ g, wr.heap.size = g := ⟨_, rfl⟩
      obtain ⟨Wa, hWa⟩ : ∃ V, wr.alloc (.cells #[.pointer T.ptr] 25) = V := ⟨_, rfl⟩
      have hO0 : OpP Ft D [T] (.slice (some ⟨gS, 0, none⟩) 1 1) Wa := hgS ▸ hWa ▸ OpP.fresh hG'.out hAt.env T hAt.sz
      have hA0 : AtP w0 W C D U step pot Env X J tot fin s Ft [T] (os.drop (i + 1)) pre [] Wa := hAt.begin.below hG'.out hJ'.out hXD'.out (hWa ▸ (Below.refl _ wr).alloc (Nat.le_refl _) _)
      have HO := Lib.hid hO0
      have HA := Lib.hid hA0
      have HS := Lib.hid hgS
      have HW := Lib.hid hWa
      have HK := Lib.hid hk
      clear hO0 hA0 hgS hWa hAt hdrop hT hca hXa hk
      go_wp2_with fail
      rw [HW.out, HS.out]
      clear xa
      go_loopg [6] (2 * pot s + 1) (fun k v wx => ∃ (s : σ) (Ft : Nat → Prop) (us : List AT) (pre : List Value), k = 2 * pot s + us.length ∧ OpP Ft D us v wx ∧ AtP w0 W C D U step pot Env X J tot fin s Ft us (os.drop (i + 1)) pre [] wx)
      case atStart => exact ⟨s, Ft, [T], pre, rfl, HO.out, HA.out⟩
      case round =>
        clear HO HA HS HW
        obtain ⟨s, Ft, us, pre, hk2, hOp, hAt⟩ := hrel
        obtain ⟨Av, cv, rfl, hcn, -, -⟩ := own_slice hOp.ow
        cases us with
        | nil =>
          have HA := Lib.hid hAt
          clear hOp hAt hcn hk2
          go_wp2_with fail
          go_roundg (n - (i + 1))
          case measure => have := HK.out; omega
          case rel => exact ⟨i + 1, s, Ft, pre, rfl, by omega, HA.out⟩
        | cons T1 us =>
          obtain ⟨mm, hmm⟩ : ∃ q, us.length = q := ⟨_, rfl⟩
          obtain ⟨nn, hnn⟩ : ∃ q, mm + 1 = q := ⟨_, rfl⟩
          have hpot := hAt.pot
          rw [List.length_cons, hmm] at hpot
          have d5 : mm ≤ 10001 := by omega
          obtain ⟨ao, rfl, g0⟩ := hOp.top hmm
          rw [List.length_cons, hmm, hnn] at hcn hk2 ⊢
          have hOp1 : OpP Ft D (T1 :: us) (.slice (some ao) nn cv) wr := by
            have := hOp
            rw [List.length_cons, hmm, hnn] at this
            exact this
          have HO := Lib.hid (hOp1.pop hmm hnn)
          clear hOp hOp1
          have e1 : wrap64 ((nn : Int) - 1) = (mm : Int) := by unfold wrap64; omega
          have d1 : decide ((0 : Int) < (nn : Int)) = true := decide_eq_true (by omega)
          have d2 : 0 < nn := by omega
          have hix : mm < nn := by omega
          have ct : ∀ V, (Instr.slice 59 (.slice (some ao) nn cv) none (some (.int .i64 (mm : Int))) none).run Try.prog V = .ok (.slice (some ao) mm cv) V := cut_to Try.underlying59 size_ptr13 (some ao) nn cv mm _ rfl (by omega)
          have hnn' := Lib.hid hnn
          have hmm' := Lib.hid hmm
          have hk' := Lib.hid hk2
          have hpot' := Lib.hid hpot
          clear hcn hnn hmm hk2 hpot
          cases T1 with
          | e =>
            have g1 : wr.cell? (ao.add mm) = some (.pointer none) := g0
            clear g0
            have HA := Lib.hid hAt.none_
            clear hAt
            go_wp2_with fail
            go_roundg (2 * pot s + mm)
            case measure => have h1 := hk'.out; have h2 := hnn'.out; omega
            case rel => exact ⟨s, Ft, us, pre, by rw [hmm'.out], HO.out, HA.out⟩
          | n a x lt rt =>
            have g1 : wr.cell? (ao.add mm) = some (.pointer (some a)) := g0
            clear g0
            obtain ⟨hNd, hxl, hxr, -, -⟩ := hlies'.out _ (hAt.ls _ (List.mem_cons_self ..))
            have xg : wr.cell? ⟨gG, 0, none⟩ = some (.func (.func F) #[] cap) := (cell_same (hAt.fx _ hXG'.out)).trans hxG'.out
            have hless := hG'.out.less s Ft wr a x lt rt hAt.env (hAt.ls _ (List.mem_cons_self ..))
            have hcall := hG'.out.calls s Ft wr a x lt rt hAt.env (hAt.ls _ (List.mem_cons_self ..)) hAt.nk
            have hno := fun (h : (step s (some a)).1 = false) (Ft' : Nat → Prop) (w' : World) (he : Env (step s (some a)).2 Ft' w') (hk : Keep Ft wr w') (hf : ∀ k, Ft' k → Ft k ∨ wr.heap.size ≤ k) => hAt.no hG'.out hJ'.out hXD'.out h he hk hf
            have hyes := fun (h : (step s (some a)).1 = true) (Ft' : Nat → Prop) (w' : World) (he : Env (step s (some a)).2 Ft' w') (hk : Keep Ft wr w') (hf : ∀ k, Ft' k → Ft k ∨ wr.heap.size ≤ k) => hAt.yes hG'.out hJ'.out hXD'.out hU'.out h he hk hf
            obtain ⟨b, hb⟩ : ∃ b, (step s (some a)).1 = b := ⟨_, rfl⟩
            obtain ⟨s1, hs1⟩ : ∃ s1, (step s (some a)).2 = s1 := ⟨_, rfl⟩
            rw [hb, hs1] at hcall hno hyes hless
            have hc := Lib.hid hcall
            have hno' := Lib.hid hno
            have hyes' := Lib.hid hyes
            have hless' := Lib.hid hless
            have hNd' := Lib.hid hNd
            have hxl' := Lib.hid hxl
            have hxr' := Lib.hid hxr
            clear hAt hcall hno hyes hless hNd hxl hxr hb hs1
            cases b with
            | false =>
              go_wp2_with fail
              refine hc.out.mono ?_
              rintro e w2 ⟨rfl, Ft2, he2, hk2, hf2⟩
              have HA := Lib.hid (hno'.out trivial Ft2 w2 he2 hk2 hf2)
              have HO2 := Lib.hid (HO.out.asked hk2 hf2)
              clear he2 hk2 hf2 hc
              go_wp2_with fail
              go_roundg (2 * pot s1 + mm)
              case measure => have h1 := hk'.out; have h2 := hnn'.out; have h3 := hless'.out.2; omega
              case rel => exact ⟨s1, Ft2, us, pre, by rw [hmm'.out], HO2.out, HA.out⟩
            | true =>
              go_wp2_with fail
              refine hc.out.mono ?_
              rintro e w2 ⟨rfl, Ft2, he2, hk2, hf2⟩
              have HA := Lib.hid (hyes'.out trivial Ft2 w2 he2 hk2 hf2)
              have HO2 := Lib.hid (HO.out.asked hk2 hf2)
              obtain ⟨fnY, tmY, asY, bdY, hyv, hR⟩ := round_any (m' := 0) (hY'.out pre _ w2 HA.out.j HA.out.told)
              have hR' := Lib.hid hR
              clear he2 hk2 hf2 hc hR
              go_upto_region 9 with (fail)
              refine (wpIn_wide (n := 0)).1 ?_
              gi_wp2
              refine ⟨rfl, ?_⟩
              refine hR'.out.mono ?_
              clear hR' hyv g1 xg
              rintro e wy ⟨⟨rfl, hj, hk⟩ | ⟨rfl, hx⟩, hf⟩
              · have HY := Lib.hid (HA.out.yielded hG'.out hn1 hX'.out hj hk hf)
                have HO3 := Lib.hid (HO2.out.yielded hk hn2)
                have cR : Hid (Calls Try.prog 45 #[.pointer (some a)] wy fun e w' => e = .returned (.pointer rt.ptr) ∧ wy = w') := hxr'.out ▸ hN'.out.right wy w0.heap.size a _ (HY.out.nk.node hN'.out hNd'.out)
                have cL : Hid (Calls Try.prog 44 #[.pointer (some a)] wy fun e w' => e = .returned (.pointer lt.ptr) ∧ wy = w') := hxl'.out ▸ hN'.out.left wy w0.heap.size a _ (HY.out.nk.node hN'.out hNd'.out)
                have hsl : wy.ownsRow D 25 1 (.slice (some ao) mm cv) mm (valsT us.reverse) := hmm'.out ▸ HO3.out.ow
                have hby : D ≤ wy.heap.size := HY.out.sz
                clear hj hk hf
                gi_wp2
                go_wp2_with fail
                refine cR.out.mono ?_
                rintro e w' ⟨rfl, rfl⟩
                go_wp2_with fail
                refine cL.out.mono ?_
                rintro e w' ⟨rfl, rfl⟩
                go_wp2_with (
                  (at_builtin
                   refine wpList_append_where rfl _ _ 59 rfl D 25 i0 (.pointer none) 1 8 Try.underlying59 hin hz0 hz1 hz2 rfl (by decide) (.slice (some ao) mm cv) mm (valsT us.reverse) rfl (hsl.alloc _) ⟨wy.heap.size, 0, none⟩ 2 2 [.pointer rt.ptr, .pointer lt.ptr] rfl rfl (fun j u hu => ((Has.new wy 25 #[.pointer rt.ptr, .pointer lt.ptr]).row.at_ hu).2) (by simp [Value.oneCell']) (by unfold maxLen; omega) (by omega) (by simp; omega) ?_
                   intro v2 w4 hown' hgrow hwhere
                   obtain ⟨g', cap', rfl⟩ := ownsRow_succ hown'
                   have HA9 := Lib.hid (AtP.grown hG'.out hJ'.out hXD'.out hm hbd.out (HY.out.below hG'.out hJ'.out hXD'.out ((Below.refl _ wy).alloc (Nat.le_refl _) (.cells #[.pointer rt.ptr, .pointer lt.ptr] 25))) (hsl.alloc _) (by rw [← hmm'.out]; exact fun r e => HO3.out.nft r e) hgrow)
                   have HO9 := Lib.hid (HO3.out.push (l := lt) (r := rt) hG'.out HY.out.env (by rw [hmm'.out]; exact hown') hwhere)))
                go_roundg (2 * pot s1 + (lt :: rt :: us).length)
                case measure => have h1 := hk'.out; have h2 := hnn'.out; have h3 := hless'.out.1 (by trivial); have h4 := hmm'.out; simp only [List.length_cons]; omega
                case rel => exact ⟨s1, Ft2, _, _, rfl, by first | exact HO9.out | (have := HO9.out; simpa [hmm'.out] using this), HA9.out⟩
              · have hx' := Lib.hid hx
                clear hx
                gi_wp2
                go_wp2_with fail
                exact bodyPost_ret (results_none rfl _ _ _) rfl ⟨⟨_, rfl⟩, .inr ⟨_, hx'.out⟩⟩
    · have d0 : decide ((i : Int) < (n : Int)) = false := decide_eq_false (by omega)
      have hi : os.drop i = [] := List.drop_eq_nil_of_le (by have := hl'.out; omega)
      rw [hi] at hAt
      have h1 := hAt.all
      have h2 := hAt.fin
      simp only [goL, List.map_nil, List.append_nil] at h1 h2
      have hend : Hid (pre = valsT tot ∧ Env fin Ft wr ∧ J pre wr) := ⟨h1, h2 ▸ hAt.env, hAt.j⟩
      clear hAt h1 h2 hk
      go_wp2_with fail
      go_end0
      exact ⟨⟨_, rfl⟩, .inl ⟨pre, ⟨hend.out.1, Ft, hend.out.2.1⟩, hend.out.2.2⟩⟩
end
end Go.Proofs.Ytfbmpgffekhmhaa
/- slices.Backward of a slice of nodes: a range over it goes over the slice from its end. -/
namespace Go.Proofs.Ytfbmpgffekhmhaa
open Go.RowKit Go.Shelf Go.Proofs.Treem
attribute [local go_sem] Oper.semAt_some
set_option maxRecDepth 100000

/-- the places and what lies there, from the end; rs: from the end, too -/
def backIts : List (Option Addr) → List (Nat × Option Addr)
  | [] => []
  | p :: r => (r.length, p) :: backIts r
theorem backIts_len : ∀ rs, (backIts rs).length = rs.length
  | [] => rfl
  | _ :: r => by rw [backIts, List.length_cons, backIts_len r, List.length_cons]
set_option maxHeartbeats 800000 in
theorem back_runs (w : World) (gS : Nat) (A : Option Addr) (n c : Nat) (rs : List (Option Addr)) (hl : rs.length = n) (hn : n ≤ 100000) (hS : Boxed w gS 59 (.slice A n c)) (hc : ∀ p r, (p :: r) <:+ rs → ∃ ad, A = some ad ∧ w.cell? (ad.add r.length) = some (.pointer p))
    (Kp : World → World → Prop) (hK : ∀ W W', Kp W W' → W'.heap[gS]? = W.heap[gS]? ∧ (0 < n → ∀ ad, A = some ad → W'.heap[ad.block]? = W.heap[ad.block]?)) (m : Nat) :
    SeqRuns (fun _ => false) Fence.wide m Try.prog 66 #[.pointer (some ⟨gS, 0, none⟩)] (fun x => #[.int .i64 (x.1 : Int), .pointer x.2]) Kp (backIts rs) w := fun l J Jx W hbW hJ hJx hY hJ0 => by
  have s0 : W.heap[gS]? = w.heap[gS]? ∧ (0 < n → ∀ ad, A = some ad → W.heap[ad.block]? = w.heap[ad.block]?) := ⟨hbW.block gS hS.lt, fun h0 ad e => by
    cases rs with
    | nil => rw [← hl] at h0; exact absurd h0 (by simp)
    | cons p r =>
      obtain ⟨ad', e', hc'⟩ := hc p r (List.suffix_refl _)
      rw [e] at e'
      cases e'
      exact hbW.block _ (add_block ad r.length ▸ World.block_lt_of_cell? w (ad.add r.length) hc')⟩
  have cS : ∀ X : World, X.heap[gS]? = w.heap[gS]? → X.cell? ⟨gS, 0, none⟩ = some (.slice A n c) := fun X h => (cell_same (a := ⟨gS, 0, none⟩) h).trans hS.cell
  have cA : ∀ X : World, (0 < n → ∀ ad, A = some ad → X.heap[ad.block]? = w.heap[ad.block]?) → ∀ p r, (p :: r) <:+ rs → ∃ ad, A = some ad ∧ X.cell? (ad.add r.length) = some (.pointer p) := fun X h p r hs => by
    obtain ⟨ad, e, hc'⟩ := hc p r hs
    exact ⟨ad, e, (cell_same (a := ad.add r.length) (by rw [add_block]; exact h (by have := hs.length_le; rw [List.length_cons, hl] at this; omega) ad e)).trans hc'⟩
  have xS := cS W s0.1
  have s0' := Lib.hid s0
  have hJ0' := Lib.hid hJ0
  have hY' := Lib.hid hY
  have hK' := Lib.hid hK
  have cS' := Lib.hid cS
  have cA' := Lib.hid cA
  have hl' := Lib.hid hl
  clear s0 hJ0 hY hK cS cA hJ hJx hbW hS hc hl
  refine callsIn_of_wp Try.func66 rfl trivial ?_ rfl
  simp only [Try.ntmps66, List.size_toArray, List.length_cons, List.length_nil, Nat.reduceAdd, Nat.reduceSub, Array.replicate_succ, Array.replicate_zero, List.push_toArray, List.append_toArray, List.nil_append, List.cons_append]
  refine wpIn_wide.2 ?_
  go_wp2_with fail
  clear xS
  go_loopw [3] (fun i wr => ∃ (don : List (Nat × Option Addr)) (r : List (Option Addr)), backIts rs = don ++ backIts r ∧ r <:+ rs ∧ i = .int .i64 ((r.length : Int) - 1) ∧ J don wr ∧ (wr.heap[gS]? = w.heap[gS]? ∧ (0 < n → ∀ ad, A = some ad → wr.heap[ad.block]? = w.heap[ad.block]?))) (fun i _ => (intOf i + 1).toNat)
  case atStart => exact ⟨[], rs, rfl, List.suffix_refl _, by rw [hl'.out], hJ0'.out, s0'.out⟩
  case round =>
    obtain ⟨don, r, hd, hr, rfl, hj, hs⟩ := hrel
    have hs' := Lib.hid hs
    have hj' := Lib.hid hj
    have hd' := Lib.hid hd
    have hr' := Lib.hid hr
    clear hs hj hd hr
    cases r with
    | nil =>
      have hz : ((([] : List (Option Addr)).length : Int) - 1) = -1 := by simp
      rw [hz]
      have hfin : Hid (J (backIts rs) wr) := by
        have h1 := hd'.out
        rw [backIts, List.append_nil] at h1
        show J _ _
        rw [h1]; exact hj'.out
      clear hz
      go_wp2_with fail
      go_end0
      exact ⟨⟨_, rfl⟩, .inl hfin.out⟩
    | cons p r =>
      obtain ⟨k, hk⟩ : ∃ k, r.length = k := ⟨_, rfl⟩
      have hz : (((p :: r).length : Int) - 1) = (k : Int) := by rw [List.length_cons, hk]; omega
      rw [hz]
      have hlen : k < n := by have := hr'.out.length_le; rw [List.length_cons, hl'.out] at this; omega
      obtain ⟨ad, hA, g0⟩ := cA'.out wr hs'.out.2 p r hr'.out
      rw [hk] at g0
      have xS := cS'.out wr hs'.out.1
      rw [hA] at xS
      have hpre : (don ++ [((k : Nat), p)]) <+: backIts rs := by
        rw [hd'.out, backIts, hk]
        exact ⟨backIts r, by simp⟩
      obtain ⟨fnY, tmY, asY, bdY, hyv, hR⟩ := round_any (m' := 0) (hY'.out don ((k : Nat), p) wr hj'.out hpre)
      have hR' := Lib.hid hR
      have hk' := Lib.hid hk
      have hA' := Lib.hid hA
      have d1 : decide ((0 : Int) ≤ (k : Int)) = true := decide_eq_true (by omega)
      clear hR hpre hz hk hA
      simp only at hyv
      go_upto_region 3 with (fail)
      have i1 : (0 : Int) ≤ (k : Int) := by omega
      have i2 : (k : Int) < (n : Int) := by omega
      refine (wpIn_wide (n := 0)).1 ?_
      gi_wp2
      refine ⟨rfl, ?_⟩
      refine hR'.out.mono ?_
      clear hR' hyv g0 xS
      rintro e wy ⟨⟨rfl, hj, hk⟩ | ⟨rfl, hx⟩, -⟩
      · have hky := hK'.out _ _ hk
        have sy := Lib.hid (show wy.heap[gS]? = w.heap[gS]? ∧ (0 < n → ∀ ad, A = some ad → wy.heap[ad.block]? = w.heap[ad.block]?) from ⟨hky.1.trans hs'.out.1, fun h0 ad e => (hky.2 h0 ad e).trans (hs'.out.2 h0 ad e)⟩)
        have HJ := Lib.hid hj
        clear hky hj hk
        gi_wp2
        go_wp2_with fail
        go_roundw
        case rel =>
          refine ⟨don ++ [(k, p)], r, ?_, ?_, by rw [hk'.out], HJ.out, sy.out⟩
          · rw [hd'.out, backIts, hk'.out]; simp
          · exact (List.suffix_cons p r).trans hr'.out
        case measure => simp [intOf]
      · have hx' := Lib.hid hx
        have hpre : (don ++ [((k : Nat), p)]) <+: backIts rs := by
          rw [hd'.out, backIts, hk'.out]
          exact ⟨backIts r, by simp⟩
        have hpre' := Lib.hid hpre
        clear hx hpre
        gi_wp2
        go_wp2_with fail
        exact bodyPost_ret (results_none rfl _ _ _) rfl ⟨⟨_, rfl⟩, .inr ⟨_, hpre'.out, hx'.out⟩⟩
set_option maxHeartbeats 1000000 in
theorem back_any (A : Option Addr) (n c : Nat) (w : World) : Calls Try.prog 52 #[.slice A n c] w fun e w' =>
    e = .returned (.func (.func 66) #[] #[.pointer (some ⟨w.heap.size, 0, none⟩)]) ∧ w.alloc (.cells #[.slice A n c] 59) = w' := by
  go_enter Try.func52, Try.ntmps52
  go_wp2
  go_ret
  exact ⟨rfl, rfl⟩
end Go.Proofs.Ytfbmpgffekhmhaa
/- What the joins' walks share, whatever package: the nodes above, in a slice; what a round of a range keeps but for two boxes; the next item from a slice's end. -/
namespace Go.Proofs.Ytfbmpgffekhmhaa
open Go.RowKit Go.Shelf Go.Proofs.Treem Go.Proofs.Cardm
set_option maxRecDepth 100000

/-- the pointers of the nodes above, the root's first -/
def aboveV (ps : List AT) : List Value := ps.reverse.map fun T => .pointer T.ptr
theorem aboveV_cons (T : AT) (ps : List AT) : aboveV (T :: ps) = aboveV ps ++ [.pointer T.ptr] := by simp [aboveV]
theorem aboveV_len (ps : List AT) : (aboveV ps).length = ps.length := by simp [aboveV]
theorem owned_from {w : World} {base b2 size n : Nat} {e : TypeId} {v : Value} {xs : List Value} (h : w.ownsRow base e size v n xs) (hb : b2 ≤ base) : w.ownsRow b2 e size v n xs := by
  refine ⟨h.1, h.2.imp id ?_⟩
  rintro ⟨g, cap, cur, h1, h2, h3⟩
  exact ⟨g, cap, cur, h1, Nat.le_trans hb h2, h3⟩
/-- what a round keeps: all that lay ahead of the range, but two boxes -/
structure Kj (gT gR D : Nat) (U U' : World) : Prop where
  os : U'.os = U.os
  tape : U'.tape = U.tape
  output : U'.output = U.output
  size : U.heap.size ≤ U'.heap.size
  keep : ∀ k, k < D → k ≠ gT → k ≠ gR → U'.heap[k]? = U.heap[k]?
theorem Kj.refl (gT gR D : Nat) (U : World) : Kj gT gR D U U := ⟨rfl, rfl, rfl, Nat.le_refl _, fun _ _ _ _ => rfl⟩
theorem Kj.trans {gT gR D : Nat} {X Y Z : World} (h : Kj gT gR D X Y) (k : Kj gT gR D Y Z) : Kj gT gR D X Z :=
  ⟨k.os.trans h.os, k.tape.trans h.tape, k.output.trans h.output, Nat.le_trans h.size k.size, fun i h1 h2 h3 => (k.keep i h1 h2 h3).trans (h.keep i h1 h2 h3)⟩
theorem Kj.of_below {gT gR D : Nat} {U U' : World} (h : Below U.heap.size U U') (hD : D ≤ U.heap.size) : Kj gT gR D U U' := ⟨h.os, h.tape, h.output, h.size, fun k hk _ _ => h.block k (Nat.lt_of_lt_of_le hk hD)⟩
theorem Kj.grown {gT gR D : Nat} {U U' : World} {row : Option Nat} (h : U.grownBy U' row) (hD : D ≤ U.heap.size) (hr : ∀ r, row = some r → D ≤ r ∨ r = gT ∨ r = gR) : Kj gT gR D U U' :=
  ⟨h.os, h.tape, h.output, h.size, fun k hk h1 h2 => h.block k (Nat.lt_of_lt_of_le hk hD) (fun e => by rcases hr k e.symm with h | h | h <;> omega)⟩
theorem Kj.put {gT gR D : Nat} (U : World) (l : Nat) (o : Obj) (h : D ≤ l) : Kj gT gR D U (U.putObj l o) := by
  have hg := grownBy_putObj' U l o
  exact ⟨hg.os, hg.tape, hg.output, hg.size, fun k hk _ _ => by rw [World.putObj_heap_other (by omega)]⟩
theorem Kj.below {gT gR D n : Nat} {U U' : World} (h : Kj gT gR D U U') (h1 : n ≤ gT) (h2 : n ≤ gR) (h3 : n ≤ D) : Below n U U' := ⟨h.os, h.tape, h.output, h.size, fun k hk => h.keep k (by omega) (by omega) (by omega)⟩
theorem Kj.has {gT gR D g : Nat} {U U' : World} {t : TypeId} {cs : Array Value} (h : Kj gT gR D U U') (hh : Has U g t cs) (hg : g < D) (h1 : g ≠ gT) (h2 : g ≠ gR) : Has U' g t cs := (h.keep g hg h1 h2).trans hh
theorem Kj.wide {gT gR D E : Nat} {U U' : World} (h : Kj gT gR D U U') (hE : E ≤ D) : Kj gT gR E U U' := ⟨h.os, h.tape, h.output, h.size, fun k hk h1 h2 => h.keep k (by omega) h1 h2⟩
/-- a box of another kind is written: all nodes are kept -/
theorem nk_set {U : World} {g : Nat} {t : TypeId} {v : Value} (h : Boxed U g t v) (ht : t ≠ 68) (u : Value) : NK U (U.setCell ⟨g, 0, none⟩ u) :=
  .of_grown (grownBy_setCell' U g u) (fun r e cs hc => by
    cases e
    rw [show U.heap[g]? = _ from h] at hc
    cases hc
    exact ht rfl)
/-- the next item of a slice that is gone over from its end -/
theorem its_next {rs0 rs : List (Option Addr)} {pre : List (Nat × Option Addr)} {x : Nat × Option Addr} (h : pre ++ [x] <+: backIts rs0) (e : backIts rs0 = pre ++ backIts rs) : ∃ p r, rs = p :: r ∧ x = (r.length, p) ∧ backIts rs0 = (pre ++ [x]) ++ backIts r := by
  obtain ⟨z, hz⟩ := h
  rw [e, List.append_assoc] at hz
  have hz := List.append_cancel_left hz
  cases rs with
  | nil => cases hz
  | cons p r =>
    rw [backIts] at hz
    injection hz with h1 h2
    refine ⟨p, r, rfl, h1, ?_⟩
    rw [e, backIts, List.append_assoc, h1]
    rfl
theorem above_cell {ps : List AT} {p : Option Addr} {r : List (Option Addr)} (h : (p :: r) <:+ ps.map AT.ptr) : (aboveV ps)[r.length]? = some (.pointer p) := by
  obtain ⟨t, ht⟩ := h
  have e : aboveV ps = (ps.map AT.ptr).reverse.map Value.pointer := by simp [aboveV, List.map_reverse]
  rw [e, ← ht]
  simp
theorem suffix_tail {α : Type} {x : α} {r l : List α} (h : (x :: r) <:+ l) : r <:+ l := (List.suffix_cons x r).trans h
variable {Nd : NdP}
/-- where the box of the tree so far is, and what is in it -/
structure Jb (Nd : NdP) (gT D : Nat) (W6 : World) (T : AT) (U : World) : Prop where
  tbox : Boxed U gT 25 (.pointer T.ptr)
  tree : Stand Nd U T
  kj : Kj gT gT D W6 U
section
variable {gT D : Nat} {W6 U : World} {T : AT}
theorem Jb.nk0 (h : Jb Nd gT D W6 T U) (h1 : ∃ v, Boxed W6 gT 25 v) (hD : W6.heap.size = D) : NK W6 U := by
  refine ⟨h.kj.size, fun k cs hk => ?_⟩
  by_cases e : k = gT
  · subst e
    obtain ⟨v, h1⟩ := h1
    rw [show W6.heap[k]? = _ from h1] at hk
    cases hk
  · exact (h.kj.keep k (hD ▸ (Array.getElem?_eq_some_iff.1 hk).1) e e).trans hk
theorem Jb.later (h : Jb Nd gT D W6 T U) (hN : NodeSays Nd) {U' : World} (hb : Below U.heap.size U U') (hD : D ≤ U.heap.size) : Jb Nd gT D W6 T U' :=
  ⟨Has.next (show Has _ _ _ _ from h.tbox) hb, h.tree.after hN hb, h.kj.trans (.of_below hb hD)⟩
theorem Jb.turned (h : Jb Nd gT D W6 T U) (hN : NodeSays Nd) (hD : W6.heap.size = D) {U' : World} (ht : Turn (fun _ => false) D U U') : Jb Nd gT D W6 T U' := by
  refine ⟨ht.boxed h.tbox (.inl rfl), Stand.kept hN ⟨ht.size, fun k cs hk => ht.keep k _ hk (.inr ⟨_, _, _, rfl, rfl⟩)⟩ h.tree, h.kj.trans ⟨ht.os, ht.tape, ht.output, ht.size, fun k hk _ _ => ?_⟩⟩
  have hlt : k < U.heap.size := by have := h.kj.size; omega
  rw [Array.getElem?_eq_getElem hlt]
  exact ht.keep k _ (Array.getElem?_eq_getElem hlt) (.inl hk)
theorem Jb.put (h : Jb Nd gT D W6 T U) (hN : NodeSays Nd) (hD : D ≤ U.heap.size) {T' : AT} (hT : Stand Nd U T') : Jb Nd gT D W6 T' (U.setCell ⟨gT, 0, none⟩ (.pointer T'.ptr)) :=
  ⟨h.tbox.set _, hT.kept hN (nk_set h.tbox (by decide) _), h.kj.trans (.grown (grownBy_setCell' U gT _) hD (fun r e => by cases e; exact .inr (.inl rfl)))⟩
end
end Go.Proofs.Ytfbmpgffekhmhaa
namespace Go.Proofs.Ytfbmpgffekhmhaa
open Go.RowKit Go.Shelf Go.Proofs.Treem Go.Proofs.Cardm
set_option maxRecDepth 100000
variable {Nd : NdP}

/-- where the walk stands -/
structure Way19 (Nd : NdP) (d : Bool) (H L : AT) (W0 : World) (m : Nat) (v p : Value) (W : World) : Prop where
  at_ : ∃ (T : AT) (ps : List AT), m = T.size ∧ p = .pointer T.ptr ∧ Way d H ps T ∧ (∀ N ∈ ps, ¬ Lk (wt N) (wt L)) ∧ W.ownsRow W0.heap.size 25 1 v ps.length (aboveV ps)
  base : Below W0.heap.size W0 W
  high : Stand Nd W H
  low : Stand Nd W L
/-- what the way comes to -/
def WayEnds19 (Nd : NdP) (d : Bool) (H L : AT) (w : World) (e : Ending) (w' : World) : Prop :=
  ∃ v T ps, e = .returned (.tuple #[v, .pointer T.ptr]) ∧ Way d H ps T ∧ (∀ N ∈ ps, ¬ Lk (wt N) (wt L)) ∧ (T = .e ∨ Lk (wt T) (wt L)) ∧ w'.ownsRow w.heap.size 25 1 v ps.length (aboveV ps) ∧ Stand Nd w' H ∧ Stand Nd w' L ∧ Below w.heap.size w w'
set_option maxHeartbeats 8000000 in
theorem way19_any (hN : NodeSays Nd) (hV : WbSays Nd) (w : World) (d : Bool) (H L : AT) (hH : Stand Nd w H) (hL : Stand Nd w L) (h1 : H.size ≤ 1000) (h2 : L.size ≤ 1000) : Calls Try.prog 50 #[sV d, .pointer H.ptr, .pointer L.ptr] w (WayEnds19 Nd d H L w) := by
  obtain ⟨i0, hin, hz0, hz1, hz2⟩ := info_parts info_ptr13
  have cW : Hid (∀ W (T : AT), Stand Nd W T → T.size ≤ 1000 → Calls Try.prog 28 #[.pointer T.ptr] W fun e w' => e = .returned (.int .i64 (wt T : Int)) ∧ Below W.heap.size W w') := fun W T h hs => weight19 hV W T h (by omega)
  have cK : Hid (∀ W (a b : Nat), a ≤ 20000 → b ≤ 20000 → Calls Try.prog 59 #[.int .i64 (a : Int), .int .i64 (b : Int)] W fun e w' => e = .returned (.bool (likeI (a : Int) (b : Int))) ∧ Below W.heap.size W w') := fun W a b ha hb => like19 hV W a b ha hb
  have cI : Hid (∀ W (T : AT), Stand Nd W T → Calls Try.prog 62 #[sV d, .pointer T.ptr] W fun e w' => e = .returned (.tuple #[.pointer (T.side d).ptr, .pointer (T.side (!d)).ptr]) ∧ Below W.heap.size W w') := fun W T h => of19_any hN W d T h
  obtain ⟨mu, hmu⟩ := least_of (α := Value × Value × World) (fun m q => Way19 Nd d H L w m q.1 q.2.1 q.2.2)
  have hmu' := Lib.hid hmu
  have W19 : Hid (Way19 Nd d H L w H.size (.slice none 0 0) (.pointer H.ptr) w) := ⟨⟨H, [], rfl, rfl, rfl, fun N hn => absurd hn List.not_mem_nil, World.ownsRow_nil _ _ _ _⟩, Below.refl _ _, hH, hL⟩
  have fin : Hid (∀ v T ps U, Way d H ps T → (∀ N ∈ ps, ¬ Lk (wt N) (wt L)) → (T = .e ∨ Lk (wt T) (wt L)) → U.ownsRow w.heap.size 25 1 v ps.length (aboveV ps) → Stand Nd U H → Stand Nd U L → Below w.heap.size w U → WayEnds19 Nd d H L w (.returned (.tuple #[v, .pointer T.ptr])) U) :=
    fun v T ps U h1 h2 h3 h4 h5 h6 h7 => ⟨v, T, ps, rfl, h1, h2, h3, h4, h5, h6, h7⟩
  obtain ⟨R, hR⟩ : ∃ R, WayEnds19 Nd d H L w = R := ⟨_, rfl⟩
  rw [hR] at fin
  rw [hR]
  obtain ⟨ph, hph⟩ : ∃ p, H.ptr = p := ⟨_, rfl⟩
  obtain ⟨pl, hpl⟩ : ∃ p, L.ptr = p := ⟨_, rfl⟩
  obtain ⟨sd, hsd⟩ : ∃ p, sV d = p := ⟨_, rfl⟩
  rw [hph] at W19
  have cL := Lib.hid (fun W (h : Stand Nd W L) => cW.out W L h h2)
  simp only [hpl] at cL
  simp only [hsd] at cI
  rw [hph, hpl, hsd]
  have hN' := Lib.hid hN
  have hl2 : Hid (wt L ≤ 1001) := by show L.size + 1 ≤ 1001; omega
  have hl1 : Hid (1 ≤ wt L) := wt_pos L
  clear hR hH hL hN hV hph hpl hsd hmu h2
  go_enter Try.func50, Try.ntmps50
  go_wp2_with fail
  go_loopw [6, 7] (fun v p wr => ∃ m, Way19 Nd d H L w m v p wr) (fun v p wr => mu (v, p, wr))
  case atStart => exact ⟨_, W19.out⟩
  case round =>
    clear W19
    obtain ⟨m, hm⟩ := hrel
    obtain ⟨⟨⟨T, ps, em, rfl, hw, ht, ho⟩, hB, hHr, hLr⟩, -⟩ := hmu'.out (_, _, wr) m hm
    simp only at em ho hB hHr hLr
    have HT : Hid (Stand Nd wr T) := (hw.stand hN'.out hHr).1
    have HO := Lib.hid ho
    have HB := Lib.hid hB
    have HH := Lib.hid hHr
    have HL := Lib.hid hLr
    have HWay := Lib.hid hw
    have HTag := Lib.hid ht
    have hsz := hw.size
    have em' := Lib.hid em
    obtain ⟨n, hn⟩ : ∃ n, ps.length = n := ⟨_, rfl⟩
    have hn5 : n ≤ 1000 := by omega
    have hn' := Lib.hid hn
    rw [hn] at HO
    cases T with
    | e =>
      have fin' := Lib.hid (fin.out _ .e ps wr HWay.out HTag.out (.inl rfl) (by rw [hn'.out]; exact HO.out) HH.out HL.out HB.out)
      rw [show AT.e.ptr = none from rfl] at em' fin' ⊢
      clear hm em ho hB hHr hLr hw ht hn hsz cW cK cL cI fin
      go_wp2
      exact fin'.out
    | n a x l r =>
      have hts : (AT.n a x l r).size ≤ 1000 := by omega
      have c1 := Lib.hid (cW.out wr _ HT.out hts)
      have hwT : wt (AT.n a x l r) ≤ 1001 := by show (AT.n a x l r).size + 1 ≤ 1001; omega
      have hwL := hl2.out
      have k1 := Lib.hid (fun W => cK.out W (wt (AT.n a x l r)) (wt L) (by omega) (by omega))
      have hiff := lk_iff (a := wt (AT.n a x l r)) (b := wt L) (wt_pos _) (wt_pos _) (by omega)
      have hifn := lk_no (a := wt (AT.n a x l r)) (b := wt L) (wt_pos _) (wt_pos _) (by omega)
      obtain ⟨E, hE⟩ : ∃ E, likeI ((wt (AT.n a x l r) : Nat) : Int) ((wt L : Nat) : Int) = E := ⟨_, rfl⟩
      rw [hE] at k1 hiff hifn
      rw [show (AT.n a x l r).ptr = some a from rfl] at c1 em' ⊢
      obtain ⟨wT, hwt⟩ : ∃ z, wt (AT.n a x l r) = z := ⟨_, rfl⟩
      obtain ⟨wL, hwl⟩ : ∃ z, wt L = z := ⟨_, rfl⟩
      rw [hwt] at c1 k1
      rw [hwl] at k1
      have cL2 := cL
      simp only [hwl] at cL2
      cases E with
      | true =>
        have hlk := hiff.1 rfl
        have fin2 := Lib.hid (fun V W h1 h2 h3 h4 => fin.out V (AT.n a x l r) ps W HWay.out HTag.out (.inr hlk) h1 h2 h3 h4)
        rw [hn, show (AT.n a x l r).ptr = some a from rfl] at fin2
        clear hm em ho hB hHr hLr hw ht hn hsz cW cK cL cI hE hiff hifn hlk hwT hwL hwt hwl hts fin
        go_wp2_with fail
        refine c1.out.mono ?_
        rintro e w1 ⟨rfl, hb⟩
        have HB1 := Lib.hid (HB.out.trans (hb.mono HB.out.size))
        have HO1 := Lib.hid (owned_next HO.out hb)
        have HH1 := Lib.hid (HH.out.after hN'.out hb)
        have HL1 := Lib.hid (HL.out.after hN'.out hb)
        clear hb c1 HB HO HH HL HT
        go_wp2_with fail
        refine (cL2.out w1 HL1.out).mono ?_
        rintro e w2 ⟨rfl, hb⟩
        have HB2 := Lib.hid (HB1.out.trans (hb.mono HB1.out.size))
        have HO2 := Lib.hid (owned_next HO1.out hb)
        have HH2 := Lib.hid (HH1.out.after hN'.out hb)
        have HL2 := Lib.hid (HL1.out.after hN'.out hb)
        clear hb cL2 HB1 HO1 HH1 HL1
        go_wp2_with fail
        refine (k1.out w2).mono ?_
        rintro e w3 ⟨rfl, hb⟩
        have fin' := Lib.hid (fin2.out _ w3 (owned_next HO2.out hb) (HH2.out.after hN'.out hb) (HL2.out.after hN'.out hb) (HB2.out.trans (hb.mono HB2.out.size)))
        clear hb k1 HB2 HO2 HH2 HL2 fin2
        go_wp2
        exact fin'.out
      | false =>
        have hlk := Lib.hid (hifn.1 rfl)
        have hlen : Hid ((AT.side (!d) (.n a x l r)).size < (AT.n a x l r).size) := by
          have := AT.size_side d a x l r
          show (AT.side (!d) (.n a x l r)).size < _
          omega
        have hwn : Hid (Way d H ((.n a x l r) :: ps) (AT.side (!d) (.n a x l r))) := ⟨⟨a, x, _, AT.mk_of d a x l r⟩, HWay.out⟩
        have c4 := Lib.hid (fun W (h : Stand Nd W (.n a x l r)) => cI.out W _ h)
        simp only [show (AT.n a x l r).ptr = some a from rfl] at c4
        clear hm em ho hB hHr hLr hw ht hn hsz cW cK cL cI hE hiff hifn hwT hwL hwt hwl hts fin
        go_wp2_with fail
        refine c1.out.mono ?_
        rintro e w1 ⟨rfl, hb⟩
        have HB1 := Lib.hid (HB.out.trans (hb.mono HB.out.size))
        have HO1 := Lib.hid (owned_next HO.out hb)
        have HH1 := Lib.hid (HH.out.after hN'.out hb)
        have HL1 := Lib.hid (HL.out.after hN'.out hb)
        have HT1 := Lib.hid (HT.out.after hN'.out hb)
        clear hb c1 HB HO HH HL HT
        go_wp2_with fail
        refine (cL2.out w1 HL1.out).mono ?_
        rintro e w2 ⟨rfl, hb⟩
        have HB2 := Lib.hid (HB1.out.trans (hb.mono HB1.out.size))
        have HO2 := Lib.hid (owned_next HO1.out hb)
        have HH2 := Lib.hid (HH1.out.after hN'.out hb)
        have HL2 := Lib.hid (HL1.out.after hN'.out hb)
        have HT2 := Lib.hid (HT1.out.after hN'.out hb)
        clear hb cL2 HB1 HO1 HH1 HL1 HT1
        go_wp2_with fail
        refine (k1.out w2).mono ?_
        rintro e w3 ⟨rfl, hb⟩
        have HB3 := Lib.hid (HB2.out.trans (hb.mono HB2.out.size))
        have HO3 := Lib.hid (owned_next HO2.out hb)
        have HH3 := Lib.hid (HH2.out.after hN'.out hb)
        have HL3 := Lib.hid (HL2.out.after hN'.out hb)
        have HT3 := Lib.hid (HT2.out.after hN'.out hb)
        clear hb k1 HB2 HO2 HH2 HL2 HT2
        obtain ⟨A1, c1, rfl, hcn, -, -⟩ := own_slice HO3.out
        go_wp2_with (
          (at_builtin
           refine wpList_append_own _ rfl _ _ 59 rfl w.heap.size 25 i0 (.pointer none) 1 8 Try.underlying59 hin hz0 hz1 hz2 rfl (by decide) (.slice A1 n c1) n (aboveV ps) rfl (HO3.out.alloc _) ⟨w3.heap.size, 0, none⟩ 1 1 [.pointer (some a)] rfl rfl (fun j u hu => ((Has.new w3 25 #[.pointer (some a)]).row.at_ hu).2) (by simp [Value.oneCell']) (by unfold maxLen; omega) (by omega) (by have := HB3.out.size; simp; omega) ?_
           intro v2 w4 hown' hgrow _
           have hb2 : Below w3.heap.size w3 (w3.alloc (.cells #[.pointer (some a)] 25)) := (Below.refl _ w3).alloc (Nat.le_refl _) _
           have nk2 : NK w3 w4 := (NK.of_below hb2).trans (NK.of_grown hgrow (row_kind (HO3.out.alloc _)))
           have HB4 := Lib.hid ((HB3.out.trans (hb2.mono HB3.out.size)).grown hgrow (by have := HB3.out.size; simp only [World.size_alloc]; omega) (fun r e => ((HO3.out.alloc (.cells #[.pointer (some a)] 25)).lt r e).1))
           have HO4 := Lib.hid hown'
           have HH4 := Lib.hid (HH3.out.kept hN'.out nk2)
           have HL4 := Lib.hid (HL3.out.kept hN'.out nk2)
           have HT4 := Lib.hid (HT3.out.kept hN'.out nk2)
           clear hgrow hown' hb2 nk2))
        refine (c4.out w4 HT4.out).mono ?_
        rintro e w5 ⟨rfl, hb⟩
        have HO5 := Lib.hid (owned_next HO4.out hb)
        have hm := Lib.hid (hmu'.out (v2, .pointer (AT.side (!d) (.n a x l r)).ptr, w5) _ ⟨⟨AT.side (!d) (.n a x l r), (.n a x l r) :: ps, rfl, rfl, hwn.out, fun N hN => (List.mem_cons.1 hN).elim (fun e => e ▸ hlk.out) (HTag.out N), by
          rw [List.length_cons, hn'.out, aboveV_cons]; exact HO5.out⟩, HB4.out.trans (hb.mono HB4.out.size), HH4.out.after hN'.out hb, HL4.out.after hN'.out hb⟩)
        clear hb
        go_wp2
        go_roundw
        case rel => exact ⟨_, (hm.out).1⟩
        case measure =>
          have h1 := hm.out.2
          have h2 := em'.out
          have h3 := hlen.out
          omega
end Go.Proofs.Ytfbmpgffekhmhaa
