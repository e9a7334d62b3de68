/- Layer 10: a stack of spots, in memory and as mathematics; what the closure that goes over spots keeps. -/
import Derived.Test.YtadncdcblckpjaaN10Leaf
import Derived.Test.YtadncdcblckpjaaGRuns
import Derived.Test.YtadncdcblckpjaaGCut
namespace Go.Proofs.Ytadncdcblckpjaa
open Go.RowKit Go.Shelf Go.Proofs.Treem Go.Proofs.Rowm

/-- an append onto a row of the call's own, and where the row lies then: where it lay, or in new memory -/
theorem run_append_where {P : Program} (w : World) (base : Nat) (t ty e : TypeId) (i : TypeInfo) (z : Value) (size bytes : Nat) (ht : P.underlying t = some (.slice e)) (hi : P.info? e = some i) (hz : i.zero = some z)
    (hsize : i.size = size) (hby : i.bytes = bytes) (hzs : z.cells.size = size) (hsz : 0 < size)
    (v : Value) (n : Nat) (xs : List Value) (hown : w.ownsRow base e size v n xs)
    (a : Addr) (m c : Nat) (news : List Value) (hl : news.length = m * size) (hnews : ∀ j u, news[j]? = some u → w.cell? (a.add j) = some u) (h1 : ∀ u ∈ news, u.oneCell' = true)
    (h63 : n + m ≤ maxLen) (hbytes : (n + m) * bytes ≤ 140737488355328) (hbase : base ≤ w.heap.size) :
    ∃ v' w', (Builtin.append_ #[t, t] ty #[v, .slice (some a) m c]).run P w = .ok v' w' ∧ w'.ownsRow base e size v' (n + m) (xs ++ news) ∧ w.grownBy w' v.ownBlock ∧
      (v'.ownBlock = v.ownBlock ∨ ∀ k, v'.ownBlock = some k → w.heap.size ≤ k) := by
  have hsmall : n + m ≤ 9223372036854775807 := by unfold maxLen at h63; omega
  obtain ⟨v', w', hr, r1, r2, _⟩ := run_append_own (P := P) w base t ty e i z size bytes ht hi hz hsize hby hzs hsz v n xs hown a m c news hl hnews h1 h63 hbytes hbase
  refine ⟨v', w', hr, r1, r2, ?_⟩
  rcases hown.2 with ⟨rfl, rfl⟩ | ⟨g, cap, cur, rfl, hbg, hg, hnc, hcm, hcs, htake⟩
  · obtain ⟨v2, w2, hr2, q1, _, _⟩ := run_append_own (P := P) w w.heap.size t ty e i z size bytes ht hi hz hsize hby hzs hsz (.slice none 0 0) 0 xs ⟨hown.1, .inl ⟨rfl, rfl⟩⟩ a m c news hl hnews h1 h63 hbytes (Nat.le_refl _)
    rw [hr] at hr2
    cases hr2
    exact .inr fun k hk => (q1.lt k hk).1
  · by_cases hroom : n + m ≤ cap
    · have hfit : n * i.size + news.length ≤ cur.size := by rw [hl, hcs, hsize, ← Nat.add_mul]; exact Nat.mul_le_mul_right _ hroom
      have hr2 := run_append_room (P := P) w t ty e i ht hi g n cap cur hg a m c news (by rw [hl, hsize]) hnews h1 hroom hfit
      rw [hr] at hr2
      cases hr2
      exact .inl rfl
    · subst hsize
      subst hby
      have hr2 := run_append_grow (P := P) w t ty e i z ht hi hz ⟨g, 0, none⟩ n cap xs hown.1 (hown.cells (g := g) rfl) a m c news hl hnews (by omega) (by omega) (growslice_fits (by omega) hbytes)
      rw [hr] at hr2
      cases hr2
      exact .inr fun k hk => by cases hk; exact Nat.le_refl _
theorem wpListIn_append_where {F : Fence} {n : Nat} {P : Program} (w : World) {ops : Array Oper} {rest : List Oper} {o : Oper} {a : Act} {Q : Exit → Act → World → Prop}
    (hg : o.guard = none) (s x : Operand) (t : TypeId) (hop : o.op = Op.call { callee := Callee.builtin Builtin.append, args := #[s, x], argTypes := #[t, t] })
    (base : Nat) (e : TypeId) (i : TypeInfo) (z : Value) (size bytes : Nat) (h1 : P.underlying t = some (.slice e)) (h2 : P.info? e = some i) (h3 : i.zero = some z) (h4 : i.size = size) (h5 : i.bytes = bytes) (h6 : z.cells.size = size) (h7 : 0 < size)
    (v : Value) (k : Nat) (xs : List Value) (hs : a.eval s = v) (hown : w.ownsRow base e size v k xs) (ad : Addr) (m c : Nat) (news : List Value) (hx : a.eval x = .slice (some ad) m c) (hn : news.length = m * size)
    (hc : ∀ j u, news[j]? = some u → w.cell? (ad.add j) = some u) (h1c : ∀ u ∈ news, u.oneCell' = true) (b1 : k + m ≤ maxLen) (b2 : (k + m) * bytes ≤ 140737488355328) (b3 : base ≤ w.heap.size)
    (hK : ∀ v' w', w'.ownsRow base e size v' (k + m) (xs ++ news) → w.grownBy w' v.ownBlock → (v'.ownBlock = v.ownBlock ∨ ∀ k, v'.ownBlock = some k → w.heap.size ≤ k) → wpListIn F n P ops Q rest (a.put o.dst v') w') :
    wpListIn F n P ops Q (o :: rest) a w := by
  refine wpListIn_plain hg fun K hK' => ?_
  obtain ⟨v', w', hrun, r1, r2, r3⟩ := run_append_where (P := P) w base t o.type e i z size bytes h1 h2 h3 h4 h5 h6 h7 v k xs hown ad m c news hn hc h1c b1 b2 b3
  unfold Oper.wpIn
  refine ⟨?_, ?_⟩
  · simp [Oper.about, hop, resolve, Target.leads, Sem.run_pure]
  · rw [Oper.semAt_plain F _ _ (by rw [hop]; intro c hc'; cases hc')]
    simp [execOp, hop, resolve, invoke, builtin, hs, hx, hrun, Result.andThen]
    exact hK' _ _ (hK v' w' r1 r2 r3)
/-- the first ones of a row of the call's own -/
theorem owned_take {w : World} {base : Nat} {e : TypeId} {size : Nat} {A : Option Addr} {n c : Nat} {xs : List Value} (h : w.ownsRow base e size (.slice A n c) n xs) (k : Nat) (hk : k ≤ n) : w.ownsRow base e size (.slice A k c) k (xs.take (k * size)) := by
  obtain ⟨h1, h2⟩ := h
  refine ⟨by rw [List.length_take, h1]; exact Nat.min_eq_left (Nat.mul_le_mul_right _ hk), ?_⟩
  rcases h2 with ⟨e1, rfl⟩ | ⟨g, cap, cur, e1, h3, h4, h5, h6, h7, h8⟩
  · cases e1
    exact .inl ⟨by rw [Nat.le_zero.1 hk], Nat.le_zero.1 hk⟩
  · cases e1
    exact .inr ⟨g, _, cur, rfl, h3, h4, Nat.le_trans hk h5, h6, h7, by rw [← h8, List.take_take, Nat.min_eq_left (Nat.mul_le_mul_right _ hk)]⟩

/-- a node whose near side is being gone over -/
structure Fr where
  a : Addr
  x : No
  l : AT
  r : AT
  k : Nat
def Fr.t (f : Fr) : AT := .n f.a f.x f.l f.r
def flatF (us : List Fr) : List Value := us.flatMap fun f => [.pointer (some f.a), nI f.k]
theorem flatF_append (a b : List Fr) : flatF (a ++ b) = flatF a ++ flatF b := List.flatMap_append
theorem flatF_len : ∀ us : List Fr, (flatF us).length = us.length * 2
  | [] => rfl
  | f :: us => by have := flatF_len us; simp only [flatF, List.flatMap_cons, List.length_append, List.length_cons, List.length_nil] at this ⊢; omega
/-- what is still to come, of those on the stack, the last one first -/
def rest (d : Bool) : List Fr → List Sp
  | [] => []
  | f :: us => ⟨f.a, f.x, f.k⟩ :: (AT.spots d (f.k + 1) (f.t.side (!d)) ++ rest d us)
def load (d : Bool) : List Fr → Nat
  | [] => 0
  | f :: us => 2 * (f.t.side (!d)).size + 1 + load d us
theorem rest_len (d : Bool) : ∀ us : List Fr, us.length ≤ (rest d us).length
  | [] => Nat.le_refl _
  | f :: us => by have := rest_len d us; simp only [rest, List.length_cons, List.length_append]; omega

/-- the closures' own variables, as they lie -/
structure Env (gO gW gT gY : Nat) (fN fF : FuncId) (l : Nat) (W : World) : Prop where
  wy : Has W gW 63 #[.func (.func fN) #[] #[], .func (.func fF) #[] #[]]
  tl : Boxed W gT 75 (.func (.func 41) #[] #[.pointer (some ⟨gO, 0, none⟩), .pointer (some ⟨gW, 0, none⟩), .pointer (some ⟨gT, 0, none⟩), .pointer (some ⟨gY, 0, none⟩)])
  yl : Boxed W gY 75 (.func (.yield l) #[] #[])
/-- what the closure keeps: the box of the stack, and the stack, may turn, and what a round may change -/
structure Rn (B gO : Nat) (v : Value) (W : World) (v' : Value) (W' : World) : Prop where
  os : W'.os = W.os
  tape : W'.tape = W.tape
  output : W'.output = W.output
  size : W.heap.size ≤ W'.heap.size
  low : ∀ k, k < B → W'.heap[k]? = W.heap[k]?
  mid : ∀ (k : Nat) (cs : Array Value) (t : TypeId) (fr : Nat × Nat), free t = false → k ≠ gO → some k ≠ v.ownBlock → W.heap[k]? = some (.cells cs t fr) → W'.heap[k]? = some (.cells cs t fr)
  own : v'.ownBlock = v.ownBlock ∨ ∀ k, v'.ownBlock = some k → W.heap.size ≤ k
section
variable {B gO : Nat} {u v v' : Value} {W W' W'' : World}
theorem Rn.refl (B gO : Nat) (v : Value) (W : World) : Rn B gO v W v W := ⟨rfl, rfl, rfl, Nat.le_refl _, fun _ _ => rfl, fun _ _ _ _ _ _ _ h => h, .inl rfl⟩
theorem Rn.trans (h : Rn B gO u W v W') (k : Rn B gO v W' v' W'') : Rn B gO u W v' W'' := by
  refine ⟨k.os.trans h.os, k.tape.trans h.tape, k.output.trans h.output, Nat.le_trans h.size k.size, fun i hi => (k.low i hi).trans (h.low i hi), fun i cs t fr ht hg hr hc => k.mid i cs t fr ht hg (fun e => ?_) (h.mid i cs t fr ht hg hr hc), ?_⟩
  · rcases h.own with ho | ho
    · exact hr (e.trans ho)
    · have := ho i e.symm
      have := (Array.getElem?_eq_some_iff.1 hc).1
      omega
  · rcases k.own with ko | ko
    · rcases h.own with ho | ho
      · exact .inl (ko.trans ho)
      · exact .inr fun i hi => ho i (ko ▸ hi)
    · exact .inr fun i hi => Nat.le_trans h.size (ko i hi)
theorem Rn.of_kt (h : Kt B W W') : Rn B gO v W v W' := ⟨h.os, h.tape, h.output, h.size, h.low, fun k cs t fr ht _ _ hc => h.mid k cs t fr ht hc, .inl rfl⟩
theorem Rn.of_below (h : Below W.heap.size W W') (hB : B ≤ W.heap.size) : Rn B gO v W v W' := .of_kt (Kt.of_below h hB)
theorem Rn.below (h : Rn B gO v W v' W') : Below B W W' := ⟨h.os, h.tape, h.output, h.size, h.low⟩
/-- whatever turns one block alone, that of a variable made since, or the stack's -/
theorem Rn.grown {row : Option Nat} (h : W.grownBy W' row) (hr : row = none ∨ (∃ k, row = some k ∧ B ≤ k ∧ (k = gO ∨ W.heap.size ≤ k)) ∨ (row = v.ownBlock ∧ ∀ k, row = some k → B ≤ k)) (hB : B ≤ W.heap.size) (ho : v'.ownBlock = v.ownBlock ∨ ∀ k, v'.ownBlock = some k → W.heap.size ≤ k) : Rn B gO v W v' W' := by
  refine ⟨h.os, h.tape, h.output, h.size, fun k hk => h.block k (Nat.lt_of_lt_of_le hk hB) (fun e => ?_), fun k cs t fr _ hg hv hc => (h.block k (Array.getElem?_eq_some_iff.1 hc).1 (fun e => ?_)).trans hc, ho⟩
  · rcases hr with rfl | ⟨j, rfl, h1, _⟩ | ⟨rfl, h1⟩
    · cases e
    · cases e; omega
    · have := h1 k e.symm; omega
  · rcases hr with rfl | ⟨j, rfl, _, rfl | h1⟩ | ⟨rfl, _⟩
    · cases e
    · cases e; exact hg rfl
    · cases e; have := (Array.getElem?_eq_some_iff.1 hc).1; omega
    · exact hv e
theorem Rn.has (h : Rn B gO v W v' W') {g : Nat} {t : TypeId} {cs : Array Value} (hh : Has W g t cs) (ht : free t = false) (hg : g ≠ gO) (hv : some g ≠ v.ownBlock) : Has W' g t cs := h.mid g cs t _ ht hg hv hh
theorem Rn.boxed (h : Rn B gO v W v' W') {g : Nat} {t : TypeId} {y : Value} (hh : Boxed W g t y) (ht : free t = false) (hg : g ≠ gO) (hv : some g ≠ v.ownBlock) : Boxed W' g t y := h.mid g _ t _ ht hg hv hh
theorem Rn.not_own (h : Rn B gO v W v' W') {g : Nat} (hg : g < W.heap.size) (hv : some g ≠ v.ownBlock) : some g ≠ v'.ownBlock := by
  rcases h.own with ho | ho
  · rw [ho]; exact hv
  · exact fun e => by have := ho g e.symm; omega
theorem has_not_row {g : Nat} {t e : TypeId} {cs : Array Value} (h : Has W g t cs) (hte : t ≠ e) {base size k : Nat} {xs : List Value} (hr : W.ownsRow base e size v k xs) : some g ≠ v.ownBlock := by
  rcases hr.2 with ⟨rfl, _⟩ | ⟨g', cap, cur, rfl, _, hgb, _⟩
  · simp [Value.ownBlock]
  · intro e'
    obtain rfl : g = g' := by simpa [Value.ownBlock] using e'
    have := (show W.heap[g]? = _ from h).symm.trans hgb
    simp at this
    exact hte this.2
theorem has_apart {g g' : Nat} {t t' : TypeId} {cs cs' : Array Value} (h : Has W g t cs) (h' : Has W g' t' cs') (hne : t ≠ t') : g ≠ g' := fun e => by
  subst e
  have := (show W.heap[g]? = _ from h).symm.trans h'
  simp at this
  exact hne this.2
theorem Env.rn {gW gT gY : Nat} {fN fF : FuncId} {l : Nat} (hE : Env gO gW gT gY fN fF l W) (h : Rn B gO v W v' W') {y : Value} (hO : Boxed W gO 76 y) {base n : Nat} {xs : List Value} (hr : W.ownsRow base 67 2 v n xs) : Env gO gW gT gY fN fF l W' :=
  ⟨h.has hE.wy rfl (has_apart hE.wy hO (by decide)) (has_not_row hE.wy (by decide) hr), h.boxed hE.tl rfl (has_apart hE.tl hO (by decide)) (has_not_row hE.tl (by decide) hr), h.boxed hE.yl rfl (has_apart hE.yl hO (by decide)) (has_not_row hE.yl (by decide) hr)⟩
theorem Env.below {gW gT gY : Nat} {fN fF : FuncId} {l : Nat} (hE : Env gO gW gT gY fN fF l W) (h : Below W.heap.size W W') : Env gO gW gT gY fN fF l W' := ⟨hE.wy.next h, Has.next (show Has _ _ _ _ from hE.tl) h, Has.next (show Has _ _ _ _ from hE.yl) h⟩
end
/-- a number for each world that is the least one that serves -/
theorem least_there (R : Nat → World → Prop) : ∃ mu : World → Nat, ∀ w m, R m w → R (mu w) w ∧ mu w ≤ m := by
  have h : ∀ w, ∃ k, ∀ m, R m w → R k w ∧ k ≤ m := fun w => by
    have g : ∀ n m, m ≤ n → R m w → ∃ k, R k w ∧ ∀ j, R j w → k ≤ j := by
      intro n
      induction n with
      | zero => intro m hm hr; exact ⟨0, by rw [Nat.le_zero.1 hm] at hr; exact hr, fun _ _ => Nat.zero_le _⟩
      | succ n ih =>
        intro m hm hr
        by_cases hx : ∃ j, j ≤ n ∧ R j w
        · obtain ⟨j, h1, h2⟩ := hx; exact ih j h1 h2
        · refine ⟨m, hr, fun j hj => ?_⟩
          rcases Nat.lt_or_ge n j with h1 | h1
          · omega
          · exact absurd ⟨j, h1, hj⟩ hx
    by_cases hx : ∃ m, R m w
    · obtain ⟨m, hm⟩ := hx
      obtain ⟨k, h1, h2⟩ := g m m (Nat.le_refl _) hm
      exact ⟨k, fun j hj => ⟨h1, h2 j hj⟩⟩
    · exact ⟨0, fun m hm => absurd ⟨m, hm⟩ hx⟩
  exact ⟨fun w => (h w).choose, fun w m hm => (h w).choose_spec m hm⟩
theorem info_spot : (Try.prog.info? 67).map (fun i => (i.zero, i.size, i.bytes)) = some (some (.agg #[.pointer none, .int .i64 0]), 2, 16) := by kernel_rfl
theorem size_spot (W : World) : (sizeOf 67).run Try.prog W = .ok 2 W := by kernel_rfl
/-- two cells of a row -/
theorem two_at {w : World} {B : Nat} {A : Option Addr} {xs : List Value} (h : Row w B A xs) (k : Nat) (u u' : Value) (h0 : xs[k * 2]? = some u) (h1 : xs[k * 2 + 1]? = some u') :
    ∃ ad, A = some ad ∧ ad.block < B ∧ w.cell? (ad.add (k * 2)) = some u ∧ w.cell? ⟨(ad.add (k * 2)).block, (ad.add (k * 2)).off + 1, none⟩ = some u' := by
  obtain ⟨ad, e, hb, h0⟩ := h _ _ h0
  obtain ⟨ad', e', _, h1⟩ := h _ _ h1
  rw [e] at e'
  cases e'
  exact ⟨ad, e, hb, h0, by rw [← add_one_is, add_add]; exact h1⟩
end Go.Proofs.Ytadncdcblckpjaa
