/- Layer 10: where the closure that goes over spots stands, between its steps. -/
import Derived.Test.YtadncdcblckpjaaL10Stack
namespace Go.Proofs.Ytadncdcblckpjaa
open Go.RowKit Go.Shelf Go.Proofs.Treem Go.Proofs.Rowm

abbrev encS (s : Sp) : Array Value := #[spotV (some s.a) s.deep]
/-- what a call of the closure says -/
def Told10 (B B' gO : Nat) (J Jx : List Sp → World → Prop) (ps : List Sp) (v : Value) (n0 : Nat) (xs0 : List Value) (tot : List Sp) (W : World) (e : Ending) (W' : World) : Prop :=
  (e = .returned (.bool true) ∧ J tot W' ∧ ∃ v', Boxed W' gO 76 v' ∧ W'.ownsRow B' 67 2 v' n0 xs0 ∧ Rn B gO v W v' W') ∨ (e = .returned (.bool false) ∧ ∃ q, q <+: ps ∧ Jx q W')
/-- what the variables hold: s the spot (p, k), the stack those at us above the n0 that there were; todo is to come ahead of those on the stack, pre has come -/
structure At (d : Bool) (fN fF : FuncId) (gO gW gT gY l B B' D n0 gS N : Nat) (xs0 : List Value) (W0 : World) (v0 : Value) (tot : List Sp) (J : List Sp → World → Prop)
    (p : Option Addr) (k : Nat) (us : List Fr) (todo pre : List Sp) (v : Value) (w : World) : Prop where
  env : Env gO gW gT gY fN fF l w
  bo : Boxed w gO 76 v
  ow : w.ownsRow B' 67 2 v (n0 + us.length) (xs0 ++ flatF us.reverse)
  sb : Has w gS 67 #[.pointer p, nI k]
  ns : some gS ≠ v.ownBlock
  j : J pre w
  rn : Rn B gO v0 W0 v w
  eq : pre ++ (todo ++ rest d us) = tot
  nd : n0 + (todo ++ rest d us).length ≤ D
  ln : (todo ++ rest d us).length ≤ N
  sz : B' ≤ w.heap.size
section
variable {d : Bool} {fN fF : FuncId} {gO gW gT gY l B B' D n0 gS N : Nat} {xs0 : List Value} {W0 : World} {v0 : Value} {tot : List Sp} {J : List Sp → World → Prop} {p : Option Addr} {k : Nat} {us : List Fr} {todo pre : List Sp} {v : Value} {w w' : World}
/-- whatever makes memory alone -/
theorem At.below (h : At d fN fF gO gW gT gY l B B' D n0 gS N xs0 W0 v0 tot J p k us todo pre v w) (hJ : Abide inner B' J) (hBB : B ≤ B') (hb : Below w.heap.size w w') : At d fN fF gO gW gT gY l B B' D n0 gS N xs0 W0 v0 tot J p k us todo pre v w' :=
  ⟨h.env.below hb, Has.next (show Has _ _ _ _ from h.bo) hb, owned_next h.ow hb, h.sb.next hb, h.ns, hJ _ _ _ h.j (.of_below hb), h.rn.trans (.of_below hb (Nat.le_trans hBB h.sz)), h.eq, h.nd, h.ln, Nat.le_trans h.sz hb.size⟩
/-- s is turned -/
theorem At.store (h : At d fN fF gO gW gT gY l B B' D n0 gS N xs0 W0 v0 tot J p k us todo pre v w) (hJ : Abide inner B' J) (hBB : B ≤ B') (hS : W0.heap.size ≤ gS) (hB' : B' ≤ W0.heap.size) (p' : Option Addr) (k' : Nat) :
    At d fN fF gO gW gT gY l B B' D n0 gS N xs0 W0 v0 tot J p' k' us todo pre v ((w.setCell ⟨gS, 0, none⟩ (.pointer p')).setCell ⟨gS, 1, none⟩ (nI k')) := by
  have hg : w.grownBy ((w.setCell ⟨gS, 0, none⟩ (.pointer p')).setCell ⟨gS, 1, none⟩ (nI k')) (some gS) := by
    refine ⟨rfl, rfl, rfl, by simp [World.setCell], fun i hi hne => ?_⟩
    have hx : i ≠ gS := fun e => hne (by rw [e])
    rw [Below.heap_setCell _ _ _ _ hx, Below.heap_setCell _ _ _ _ hx]
  have hne : ∀ {g : Nat} {t : TypeId} {cs : Array Value}, Has w g t cs → t ≠ 67 → Has ((w.setCell ⟨gS, 0, none⟩ (.pointer p')).setCell ⟨gS, 1, none⟩ (nI k')) g t cs := fun hh ht =>
    (hh.far (p := ⟨gS, 0, none⟩) (has_apart hh h.sb ht) _).far (p := ⟨gS, 1, none⟩) (has_apart hh h.sb ht) _
  refine ⟨⟨hne h.env.wy (by decide), hne h.env.tl (by decide), hne h.env.yl (by decide)⟩, hne h.bo (by decide), h.ow.kept hg (.inr (Ne.symm h.ns)), h.sb.both _ _, h.ns, ?_, ?_, h.eq, h.nd, h.ln, by simp [World.setCell]; exact h.sz⟩
  · exact hJ _ _ _ h.j (.grown hg fun r er => by cases er; exact ⟨Nat.le_trans hB' hS, _, h.sb, .inr ⟨_, _, _, rfl, rfl⟩⟩)
  · refine ⟨h.rn.os, h.rn.tape, h.rn.output, by simp [World.setCell]; exact h.rn.size, fun i hi => ?_, fun i cs t fr ht hi hr hc => ?_, h.rn.own⟩
    · exact (hg.block i (Nat.lt_of_lt_of_le hi (Nat.le_trans hBB h.sz)) (fun e => by cases e; omega)).trans (h.rn.low i hi)
    · have hx := h.rn.mid i cs t fr ht hi hr hc
      exact (hg.block i (Array.getElem?_eq_some_iff.1 hx).1 (fun e => by cases e; have := (Array.getElem?_eq_some_iff.1 hc).1; omega)).trans hx
/-- a spot is put on the stack, and its near side is to come -/
theorem At.push {f : Fr} {tmp : Obj} {v1 : Value} {w1 : World} (h : At d fN fF gO gW gT gY l B B' D n0 gS N xs0 W0 v0 tot J p k us (AT.spots d k f.t) pre v w) (hk : f.k = k) (hJ : Abide inner B' J) (hBB : B ≤ B') (hO : gO < gS) (hgO : B' ≤ gO)
    (ho : w1.ownsRow B' 67 2 v1 (n0 + us.length + 1) ((xs0 ++ flatF us.reverse) ++ [.pointer (some f.a), nI k])) (hg : (w.alloc tmp).grownBy w1 v.ownBlock) (hw : v1.ownBlock = v.ownBlock ∨ ∀ i, v1.ownBlock = some i → (w.alloc tmp).heap.size ≤ i) :
    At d fN fF gO gW gT gY l B B' D n0 gS N xs0 W0 v0 tot J p k (f :: us) (AT.spots d (k + 1) (f.t.side d)) pre v1 (w1.setCell ⟨gO, 0, none⟩ v1) := by
  have hlt : gS < w.heap.size := h.sb.lt
  have ha : (w.alloc tmp).heap.size = w.heap.size + 1 := by simp
  have g1 : w.grownBy w1 v.ownBlock := ⟨hg.os, hg.tape, hg.output, by have := hg.size; omega, fun i hi hne => (hg.block i (by omega) hne).trans (heap_alloc_old w tmp i hi)⟩
  have hn1 : ∀ {g : Nat} {t : TypeId} {cs : Array Value}, Has w g t cs → some g ≠ v.ownBlock → Has w1 g t cs := fun hh hne => (g1.block _ hh.lt hne).trans hh
  have hO1 : Has w1 gO 76 #[v] := hn1 h.bo (has_not_row (show Has _ _ _ _ from h.bo) (by decide) h.ow)
  have hE : ∀ {g : Nat} {t : TypeId} {cs : Array Value}, Has w g t cs → t ≠ 67 → t ≠ 76 → Has (w1.setCell ⟨gO, 0, none⟩ v1) g t cs := fun hh h1 h2 => (hn1 hh (has_not_row hh h1 h.ow)).far (p := ⟨gO, 0, none⟩) (has_apart hh (show Has _ _ _ _ from h.bo) h2) _
  have hns : some gS ≠ v1.ownBlock := by
    rcases hw with e | e
    · rw [e]; exact h.ns
    · exact fun x => by have := e _ x.symm; omega
  have hot : w1.ownsRow B' 67 2 v1 (n0 + (f :: us).length) (xs0 ++ flatF (f :: us).reverse) := by
    rw [List.reverse_cons, flatF_append, ← List.append_assoc, List.length_cons, ← Nat.add_assoc, show flatF [f] = [.pointer (some f.a), nI k] by rw [← hk]; rfl]
    exact ho
  have hlen : ∀ i, v.ownBlock = some i → B' ≤ i := fun i e => (h.ow.lt i e).1
  refine ⟨⟨hE h.env.wy (by decide) (by decide), hE h.env.tl (by decide) (by decide), hE h.env.yl (by decide) (by decide)⟩, hO1.set 0 v1, ?_, ?_, hns, ?_, ?_, ?_, ?_, ?_, ?_⟩
  · exact hot.kept (grownBy_setCell' w1 gO v1) (.inr (Ne.symm (has_not_row (show Has _ _ _ _ from hO1) (by decide) ho)))
  · exact (hn1 h.sb h.ns).far (p := ⟨gO, 0, none⟩) (by simp; omega) _
  · refine hJ _ _ _ (hJ _ _ _ h.j (.grown g1 fun r er => ?_)) (.store hO1 _ rfl hgO)
    rcases h.ow.2 with ⟨rfl, _⟩ | ⟨g, cap, cur, rfl, hbg, hgb, _⟩
    · simp [Value.ownBlock] at er
    · obtain rfl : r = g := by simpa [Value.ownBlock] using er.symm
      exact ⟨hbg, _, hgb, .inr ⟨_, _, _, rfl, rfl⟩⟩
  · have r1 : Rn B gO v w v1 w1 := .grown g1 (.inr (.inr ⟨rfl, fun i e => Nat.le_trans hBB (hlen i e)⟩)) (Nat.le_trans hBB h.sz) (hw.imp id fun x i hi => by have := x i hi; omega)
    exact (h.rn.trans r1).trans (.grown (grownBy_setCell' w1 gO v1) (.inr (.inl ⟨gO, rfl, Nat.le_trans hBB hgO, .inl rfl⟩)) (by have := g1.size; have := h.sz; omega) (.inl rfl))
  · rw [← h.eq]
    simp only [rest, Fr.t, AT.spots_n, hk, List.append_assoc, List.cons_append]
  · have := h.nd
    simp only [rest, Fr.t, AT.spots_n, hk, List.length_append, List.length_cons] at this ⊢
    omega
  · have := h.ln
    simp only [rest, Fr.t, AT.spots_n, hk, List.length_append, List.length_cons] at this ⊢
    omega
  · have := g1.size; have := h.sz; simp [World.setCell]; omega
/-- between the append and the store: s and the way, as they lie -/
theorem At.grown {tmp : Obj} {w1 : World} (h : At d fN fF gO gW gT gY l B B' D n0 gS N xs0 W0 v0 tot J p k us todo pre v w) (hg : (w.alloc tmp).grownBy w1 v.ownBlock) :
    Has w1 gS 67 #[.pointer p, nI k] ∧ Has w1 gW 63 #[.func (.func fN) #[] #[], .func (.func fF) #[] #[]] := by
  have ha : (w.alloc tmp).heap.size = w.heap.size + 1 := by simp
  have g1 : w.grownBy w1 v.ownBlock := ⟨hg.os, hg.tape, hg.output, by have := hg.size; omega, fun i hi hne => (hg.block i (by omega) hne).trans (heap_alloc_old w tmp i hi)⟩
  exact ⟨(g1.block _ h.sb.lt h.ns).trans h.sb, (g1.block _ h.env.wy.lt (has_not_row h.env.wy (by decide) h.ow)).trans h.env.wy⟩
/-- the near side is done: the last one on the stack is at its turn -/
theorem At.pop {f : Fr} {A : Option Addr} {c : Nat} (h : At d fN fF gO gW gT gY l B B' D n0 gS N xs0 W0 v0 tot J p k (f :: us) [] pre (.slice A (n0 + (f :: us).length) c) w) (hJ : Abide inner B' J) (hBB : B ≤ B') (hS : W0.heap.size ≤ gS) (hB' : B' ≤ W0.heap.size) (hgO : B' ≤ gO) :
    At d fN fF gO gW gT gY l B B' D n0 gS N xs0 W0 v0 tot J (some f.a) f.k us (⟨f.a, f.x, f.k⟩ :: AT.spots d (f.k + 1) (f.t.side (!d))) pre (.slice A (n0 + us.length) c)
      (((w.setCell ⟨gS, 0, none⟩ (.pointer (some f.a))).setCell ⟨gS, 1, none⟩ (nI f.k)).setCell ⟨gO, 0, none⟩ (.slice A (n0 + us.length) c)) := by
  have h1 := h.store hJ hBB hS hB' (some f.a) f.k
  generalize (w.setCell ⟨gS, 0, none⟩ (.pointer (some f.a))).setCell ⟨gS, 1, none⟩ (nI f.k) = w1 at h1 ⊢
  have hsame : Value.ownBlock (.slice A (n0 + us.length) c) = Value.ownBlock (.slice A (n0 + (f :: us).length) c) := by cases A <;> rfl
  have hE : ∀ {g : Nat} {t : TypeId} {cs : Array Value}, Has w1 g t cs → t ≠ 76 → Has (w1.setCell ⟨gO, 0, none⟩ (.slice A (n0 + us.length) c)) g t cs := fun hh h2 => hh.far (p := ⟨gO, 0, none⟩) (has_apart hh (show Has _ _ _ _ from h1.bo) h2) _
  refine ⟨⟨hE h1.env.wy (by decide), hE h1.env.tl (by decide), hE h1.env.yl (by decide)⟩, Boxed.set _ h1.bo, ?_, hE h1.sb (by decide), by rw [hsame]; exact h1.ns, hJ _ _ _ h1.j (.store h1.bo _ rfl hgO), ?_, ?_, ?_, ?_, ?_⟩
  · have ho := h1.ow
    rw [List.reverse_cons, flatF_append, ← List.append_assoc] at ho
    have hx : (xs0 ++ flatF us.reverse).length = (n0 + us.length) * 2 := by
      have := ho.1
      simp only [List.length_append, flatF_len, List.length_cons, List.length_nil] at this ⊢
      omega
    have ht := owned_take ho (n0 + us.length) (by simp)
    rw [← hx, List.take_left] at ht
    exact ht.kept (grownBy_setCell' w1 gO _) (.inr (Ne.symm (has_not_row (show Has _ _ _ _ from h1.bo) (by decide) ht)))
  · exact h1.rn.trans (.grown (grownBy_setCell' w1 gO _) (.inr (.inl ⟨gO, rfl, Nat.le_trans hBB hgO, .inl rfl⟩)) (Nat.le_trans hBB h1.sz) (.inl hsame))
  · rw [← h1.eq]; rfl
  · have := h1.nd; simpa [rest] using this
  · have := h1.ln; simpa [rest] using this
  · have := h1.sz; simp [World.setCell]; exact this
/-- the near side has come by a call -/
theorem At.near {ys zs : List Sp} {v' : Value} (h : At d fN fF gO gW gT gY l B B' D n0 gS N xs0 W0 v0 tot J p k us (ys ++ zs) pre v w) (hj : J (pre ++ ys) w') (hb : Boxed w' gO 76 v') (ho : w'.ownsRow B' 67 2 v' (n0 + us.length) (xs0 ++ flatF us.reverse)) (hr : Rn B gO v w v' w') (hO : gO < gS) :
    At d fN fF gO gW gT gY l B B' D n0 gS N xs0 W0 v0 tot J p k us zs (pre ++ ys) v' w' :=
  ⟨h.env.rn hr h.bo h.ow, hb, ho, hr.has h.sb rfl (by omega) h.ns, hr.not_own h.sb.lt h.ns, hj, h.rn.trans hr, by rw [← h.eq, List.append_assoc, List.append_assoc], by have := h.nd; simp only [List.length_append] at this ⊢; omega, by have := h.ln; simp only [List.length_append] at this ⊢; omega, Nat.le_trans h.sz hr.size⟩
/-- a spot has been told -/
theorem At.yielded {x : Sp} (h : At d fN fF gO gW gT gY l B B' D n0 gS N xs0 W0 v0 tot J p k us (x :: todo) pre v w) (hj : J (pre ++ [x]) w') (hk : Kt B w w') : At d fN fF gO gW gT gY l B B' D n0 gS N xs0 W0 v0 tot J p k us todo (pre ++ [x]) v w' := by
  have hh : ∀ {g : Nat} {t : TypeId} {cs : Array Value}, Has w g t cs → free t = false → Has w' g t cs := fun h1 h2 => hk.mid _ _ _ _ h2 h1
  refine ⟨⟨hh h.env.wy rfl, hh h.env.tl rfl, hh h.env.yl rfl⟩, hh h.bo rfl, ⟨h.ow.1, ?_⟩, hh h.sb rfl, h.ns, hj, h.rn.trans (.of_kt hk), by rw [← h.eq]; simp, by have := h.nd; simp only [List.cons_append, List.length_cons] at this; omega, by have := h.ln; simp only [List.cons_append, List.length_cons] at this; omega, Nat.le_trans h.sz hk.size⟩
  rcases h.ow.2 with hn | ⟨g, cap, cur, h1, h2, h3, rest⟩
  · exact .inl hn
  · exact .inr ⟨g, cap, cur, h1, h2, hk.mid _ _ _ _ rfl h3, rest⟩
/-- all has come -/
theorem At.done (h : At d fN fF gO gW gT gY l B B' D n0 gS N xs0 W0 v0 tot J p k [] [] pre v w) : J tot w ∧ ∃ v', Boxed w gO 76 v' ∧ w.ownsRow B' 67 2 v' n0 xs0 ∧ Rn B gO v0 W0 v' w := by
  have h1 := h.eq
  simp only [rest, List.append_nil] at h1
  have h2 := h.ow
  simp only [List.length_nil, Nat.add_zero, List.reverse_nil, flatF, List.flatMap_nil, List.append_nil] at h2
  exact ⟨h1 ▸ h.j, v, h.bo, h2, h.rn⟩
/-- the last one on the stack, as it lies -/
theorem At.top {f : Fr} {A : Option Addr} {n m c : Nat} (h : At d fN fF gO gW gT gY l B B' D n0 gS N xs0 W0 v0 tot J p k (f :: us) todo pre (.slice A n c) w) (hm : n0 + us.length = m) :
    ∃ ad, A = some ad ∧ ad.block ≠ gS ∧ ad.block ≠ gO ∧ w.cell? (ad.add (m * 2)) = some (.pointer (some f.a)) ∧ w.cell? ⟨(ad.add (m * 2)).block, (ad.add (m * 2)).off + 1, none⟩ = some (nI f.k) := by
  obtain ⟨A', c', e1, -, -, -⟩ := own_slice h.ow
  cases e1
  have ho := h.ow
  rw [List.reverse_cons, flatF_append, ← List.append_assoc] at ho
  have hx : (xs0 ++ flatF us.reverse).length = m * 2 := by
    have := ho.1
    simp only [List.length_append, flatF_len, List.length_cons, List.length_nil] at this ⊢
    omega
  obtain ⟨ad, e, _, g0, g1⟩ := two_at (Row.of_own ho) m (.pointer (some f.a)) (nI f.k)
    (by rw [List.getElem?_append_right (by omega), hx, Nat.sub_self]; rfl)
    (by rw [List.getElem?_append_right (by omega), hx, Nat.add_sub_cancel_left]; rfl)
  subst e
  exact ⟨ad, rfl, fun e => h.ns (by rw [← e]; rfl), fun e => has_not_row (show Has _ _ _ _ from h.bo) (by decide) h.ow (by rw [← e]; rfl), g0, g1⟩
theorem cell_far {u : World} {g : Nat} {q : Addr} {x : Value} (h : u.cell? q = some x) (hq : q.block ≠ g) (a b : Value) : ((u.setCell ⟨g, 0, none⟩ a).setCell ⟨g, 1, none⟩ b).cell? q = some x := by
  rw [World.cell?_setCell_other _ _ _ _ (fun e => hq (by rw [← e])), World.cell?_setCell_other _ _ _ _ (fun e => hq (by rw [← e]))]; exact h
end
end Go.Proofs.Ytadncdcblckpjaa
