/- A region that draws its order, inside a fence, with a condition S on the world that each call shows anew: what reads under S may be taken first. (For iterators: a round is among the calls.) -/
import Derived.OrdersHeld
import Derived.OrdersIn
import Derived.TacticsInMore
import Derived.Lib.Hide
namespace Go.Proofs.YtcnkgddldhkddaaDoor
open Go Go.RowKit
section
variable {F : Fence} {n : Nat} {P : Program} {md : Region.Mode} {ops : Array Oper} {Q : Exit → Act → World → Prop} {S : World → Prop}

/-- in whatever order what is left comes up; S behind each -/
def Sweep (F : Fence) (n : Nat) (P : Program) (md : Region.Mode) (ops : Array Oper) (Q : Exit → Act → World → Prop) (S : World → Prop) : Nat → Array Bool → Act → World → Prop
  | 0, b, a, w => Region.ready md ops b = [] ∧ Q .normal a w
  | k + 1, b, a, w => (Region.ready md ops b = [] → Q .normal a w) ∧ ∀ i ∈ Region.ready md ops b, wpOpIn F n P ops Q i (fun a' w' => S w' ∧ Sweep F n P md ops Q S k (b.setIfInBounds i true) a' w') a w
theorem Sweep.any : ∀ (k : Nat) (b : Array Bool) (a : Act) (w : World), Sweep F n P md ops Q S k b a w → wpAnyIn F n P md ops Q k b a w
  | 0, _, _, _, h => h
  | k + 1, _, _, _, h => ⟨h.1, fun i hi => wpOpIn_mono (fun a' w' h' => Sweep.any k _ a' w' h'.2) (h.2 i hi)⟩
/-- an operation leaves its value in its own place, and nowhere else -/
theorem own_place {j : Nat} {oj : Oper} (hj : ops[j]? = some oj) {K : Act → World → Prop} {a : Act} {w : World} (h : wpOpIn F n P ops Q j K a w) :
    wpOpIn F n P ops Q j (fun a' w' => (∃ (c : Act) (u : Value), a' = c.put oj.dst u ∧ c.tmps = a.tmps) ∧ K a' w') a w := by
  have hp : ∀ u, ∃ (c : Act) (u' : Value), a.put oj.dst u = c.put oj.dst u' ∧ c.tmps = a.tmps := fun u => ⟨a, u, rfl, rfl⟩
  unfold wpOpIn at h ⊢
  rw [hj] at h ⊢
  simp only at h ⊢
  by_cases hw : Region.wanted oj (yielded ops a.tmps) = true
  · rw [if_pos hw] at h ⊢
    unfold Oper.wpIn at h ⊢
    refine ⟨h.1, ?_⟩
    have h := h.2
    generalize (Oper.semAt F.round a.eval oj).run P w = r at h ⊢
    cases r with
    | halt x w' => cases x <;> exact h
    | ok x w' =>
      cases x with
      | value u => exact ⟨hp u, h⟩
      | skip => exact ⟨hp _, h⟩
      | defer d => exact ⟨⟨{ a with defers := d :: a.defers }, undef, rfl, rfl⟩, h⟩
      | enter f args => exact ⟨h.1, CallsIn.mono h.2 fun e _ he => by cases e <;> first | exact ⟨hp _, he⟩ | exact he⟩
      | row row args => exact ⟨h.1, RowsIn.mono h.2 fun u _ he => ⟨hp u, he⟩⟩
      | round l f tmps assign body => exact ⟨h.1, RoundIn.mono h.2 fun e _ he => by cases e <;> first | exact ⟨hp _, he⟩ | exact he⟩
      | _ => exact h
  · rw [if_neg hw] at h ⊢
    exact ⟨h.1, hp _, h.2⟩
/-- that a value lies in its place already makes no difference to what does not look there -/
theorem beside {j : Nat} {oi oj : Oper} {v : Value} (hro : F.round = none) (hj : ops[j]? = some oj) (hap : oi.apart ops oj = true) (hsj : ∀ cs b, oj.op ≠ .select cs b)
    (hQ : ∀ c a w, Q (.panic c) (a.put oi.dst v) w → Q (.panic c) a w) {K : Act → World → Prop} {a : Act} {w : World} (h : wpOpIn F n P ops Q j K (a.put oi.dst v) w) :
    wpOpIn F n P ops Q j (fun a' w' => K (a'.put oi.dst v) w') a w := by
  obtain ⟨od, hod⟩ : ∃ od : Oper, od = { oi with op := .move (.const v), guard := none } := ⟨_, rfl⟩
  have hd : od.dst = oi.dst := by rw [hod]
  have hl : od.looksAt ops = [] := by rw [hod]; rfl
  have ha : od.apart ops oj = true := by
    unfold Oper.apart at hap ⊢
    rw [hd, hl]
    rw [Bool.and_eq_true] at hap ⊢
    exact ⟨hap.1, by cases oj.dst <;> rfl⟩
  have hy : YieldsFenced P ops od v a := by
    refine ⟨.inl ⟨?_, fun w => ?_⟩, fun w => ?_⟩
    · rw [hod]; rfl
    · rw [hod]; rfl
    · rw [hod]; rfl
  rw [← hd] at h hQ ⊢
  exact wpOpIn_mono (fun _ _ h' => h'.2) (wpOpIn_put hro hj ha (fun cs b e => by rw [hod] at e; cases e) hsj hQ hy h)
theorem quiet_now {i : Nat} {o : Oper} {v : Value} {a : Act} {w : World} (hF : ∀ f, F.fn f) (hro : F.round = none) (hi : ops[i]? = some o) (hy : YieldsIf P ops S o v a) (hS : S w) {K : Act → World → Prop} (h : K (a.put o.dst v) w) : wpOpIn F n P ops Q i K a w := by
  unfold wpOpIn
  rw [hi]
  simp only
  rcases hy with ⟨hw, hv⟩ | ⟨hw, rfl⟩
  · rw [if_pos hw]
    unfold Oper.wpIn
    rw [hro, Oper.semAt_none, hv w hS]
    exact ⟨fun f _ => hF f, h⟩
  · rw [if_neg (by rw [hw]; simp)]
    exact ⟨fun f _ => hF f, h⟩
theorem Sweep.first {i : Nat} {oi : Oper} {v : Value} (hF : ∀ f, F.fn f) (hro : F.round = none) (hi : ops[i]? = some oi) (hsel : ∀ (j : Nat) (o : Oper) cs b, ops[j]? = some o → o.op ≠ .select cs b) (hQ : ∀ c a w, Q (.panic c) (a.put oi.dst v) w → Q (.panic c) a w) :
    ∀ (k : Nat) (b : Array Bool) (a : Act) (w : World), (∀ j oj, ops[j]? = some oj → j ≠ i → b.getD j true = false → (∀ e ∈ oj.after, Region.binds md e = true → e.on ≠ i) → oi.apart ops oj = true) →
      i ∈ Region.ready md ops b → YieldsIf P ops S oi v a → S w → Sweep F n P md ops Q S k (b.setIfInBounds i true) (a.put oi.dst v) w → Sweep F n P md ops Q S (k + 1) b a w := by
  intro k
  induction k with
  | zero =>
    intro b a w _ hr hy hS H
    refine ⟨(fun h => by rw [h] at hr; cases hr), fun j hj => ?_⟩
    by_cases e : j = i
    · subst e; exact quiet_now hF hro hi hy hS ⟨hS, H⟩
    · have := ready_mono (i := i) hj e
      rw [H.1] at this; cases this
  | succ k ih =>
    intro b a w hfree hr hy hS H
    refine ⟨(fun h => by rw [h] at hr; cases hr), fun j hj => ?_⟩
    by_cases e : j = i
    · subst e; exact quiet_now hF hro hi hy hS ⟨hS, H⟩
    · obtain ⟨hun, oj, hoj, hall⟩ := mem_ready.1 hj
      have hno : ∀ x ∈ oj.after, Region.binds md x = true → x.on ≠ i := fun x hx hb hxi => by
        have h1 := hall x hx hb
        have h0 := (mem_ready.1 hr).1
        rw [hxi] at h1
        rcases Nat.lt_or_ge i b.size with h' | h'
        · simp [h'] at h0 h1; rw [h0] at h1; cases h1
        · simp [Array.getElem?_eq_none h'] at h1
      have hap := hfree j oj hoj e hun hno
      have h1 := own_place hoj (beside hro hoj hap (fun cs b' => hsel j oj cs b' hoj) hQ (H.2 j (ready_mono hj e)))
      refine wpOpIn_mono (fun a' w' h2 => ?_) h1
      obtain ⟨⟨c, u, rfl, hc⟩, hS', h3⟩ := h2
      have hev : c.eval = a.eval := by funext x; cases x <;> simp [Act.eval, hc]
      have hy' : YieldsIf P ops S oi v (c.put oj.dst u) := by
        have h3' := (Oper.apart_spec hap).2.2
        refine YieldsIf.of_same hy ?_ ?_
        · rw [execOp_put oi (fun cs b' => hsel i oi cs b' hi) c oj.dst u h3', hev]
        · rw [wanted_put oi c oj.dst u h3', hc]
      refine ⟨hS', ih (b.setIfInBounds j true) _ w' (fun m om hm hmi hmu hmn => hfree m om hm hmi ?_ hmn) (ready_mono hr (Ne.symm e)) hy' hS' ?_⟩
      · by_cases hjm : j = m
        · subst hjm; exact hun
        · rw [getD_set_ne true hjm] at hmu; exact hmu
      · rw [Array.setIfInBounds_comm _ _ e]; exact h3
theorem Sweep.take {i : Nat} {oi : Oper} {v : Value} {k : Nat} {b : Array Bool} {a : Act} {w : World} (hF : ∀ f, F.fn f) (hro : F.round = none) (hi : ops[i]? = some oi) (hs : Region.noSelect ops = true) (hf : Region.free md ops b i = true) (hr : (Region.ready md ops b).contains i = true)
    (hQ : ∀ c a w, Q (.panic c) (a.put oi.dst v) w → Q (.panic c) a w) (hy : YieldsIf P ops S oi v a) (hS : S w) (h : Sweep F n P md ops Q S k (b.setIfInBounds i true) (a.put oi.dst v) w) : Sweep F n P md ops Q S (k + 1) b a w :=
  Sweep.first hF hro hi (Region.noSelect_spec hs) hQ k b a w (Region.free_spec hi hf) (by simpa using hr) hy hS h
/-- those that may come up are calls -/
def SweepReady (F : Fence) (n : Nat) (P : Program) (md : Region.Mode) (ops : Array Oper) (Q : Exit → Act → World → Prop) (S : World → Prop) (k : Nat) (b : Array Bool) (a : Act) (w : World) (rs : List Nat) : Prop :=
  ∀ i ∈ rs, wpOpIn F n P ops Q i (fun a' w' => S w' ∧ Sweep F n P md ops Q S k (b.setIfInBounds i true) a' w') a w
theorem SweepReady.nil {k : Nat} {b : Array Bool} {a : Act} {w : World} : SweepReady F n P md ops Q S k b a w [] := fun _ h => by cases h
theorem SweepReady.cons {k : Nat} {b : Array Bool} {a : Act} {w : World} {i : Nat} {o : Oper} {rs : List Nat} (ho : ops[i]? = some o)
    (h : ∀ K' : Act → World → Prop, Hid (∀ a w, S w → (S w → Sweep F n P md ops Q S k (b.setIfInBounds i true) a w) → K' a w) → if Region.wanted o (yielded ops a.tmps) = true then Oper.wpIn F n P o a w K' Q else (∀ f, o.about P w a.eval = some f → F.fn f) ∧ K' (a.put o.dst undef) w)
    (hs : SweepReady F n P md ops Q S k b a w rs) : SweepReady F n P md ops Q S k b a w (i :: rs) := fun j hj => by
  rcases List.mem_cons.1 hj with rfl | hj
  · unfold wpOpIn
    rw [ho]
    exact h (fun a' w' => S w' ∧ Sweep F n P md ops Q S k (b.setIfInBounds j true) a' w') (fun _ _ h1 h2 => ⟨h1, h2 h1⟩)
  · exact hs j hj
theorem Sweep.ready {rs : List Nat} {k : Nat} {b : Array Bool} {a : Act} {w : World} (hr : Region.ready md ops b = rs) (hne : rs ≠ []) (h : SweepReady F n P md ops Q S k b a w rs) : Sweep F n P md ops Q S (k + 1) b a w :=
  ⟨fun h0 => absurd (hr ▸ h0) hne, hr ▸ h⟩
theorem Sweep.done {b : Array Bool} {a : Act} {w : World} (hr : Region.ready md ops b = []) (h : Q .normal a w) : ∀ k, Sweep F n P md ops Q S k b a w
  | 0 => ⟨hr, h⟩
  | _ + 1 => ⟨fun _ => h, by rw [hr]; simp⟩
theorem wpIn_region_sweep {id : Nat} {a : Act} {w : World} (hm : P.follows .mixedOrders = true) (hS : S w.drew) (h : S w.drew → Sweep F n P .any ops Q S ops.size (Array.replicate ops.size false) a w.drew) : (Code.region id ops true).wpIn F n P Q a w :=
  wpIn_region_any hm (Sweep.any _ _ _ _ (h hS))
/-- operation m waits for operation i, by itself or by what it waits for -/
def needs (md : Region.Mode) (ops : Array Oper) : Nat → Nat → Nat → Bool
  | 0, _, _ => false
  | k + 1, m, i => match ops[m]? with
    | none => false
    | some o => o.after.any fun e => Region.binds md e && (e.on == i || needs md ops k e.on i)
/-- whatever is listed has what it waits for listed -/
def closedB (md : Region.Mode) (ops : Array Oper) (b : Array Bool) : Bool := (List.range ops.size).all fun j => match ops[j]? with
  | none => true
  | some o => !(b.getD j false) || o.after.all fun e => !(Region.binds md e) || b.getD e.on false
theorem closed_at {b : Array Bool} (h : closedB md ops b = true) {j : Nat} {o : Oper} (hj : ops[j]? = some o) (hb : b.getD j false = true) : ∀ e ∈ o.after, Region.binds md e = true → b.getD e.on false = true := fun e he hbi => by
  have h1 := List.all_eq_true.1 h j (List.mem_range.2 (Array.getElem?_eq_some_iff.1 hj).1)
  rw [hj] at h1
  simp only [hb, Bool.not_true, Bool.false_or] at h1
  have h2 := Array.all_eq_true_iff_forall_mem.1 h1 e he
  rw [hbi] at h2
  simpa using h2
theorem needs_listed {b : Array Bool} (hc : closedB md ops b = true) {i : Nat} : ∀ (k m : Nat) (o : Oper), ops[m]? = some o → needs md ops k m i = true → (∀ e ∈ o.after, Region.binds md e = true → b.getD e.on false = true) → b.getD i false = true
  | 0, _, _, _, h, _ => by cases h
  | k + 1, m, o, hm, h, hl => by
    simp only [needs, hm] at h
    rw [Array.any_eq_true'] at h
    obtain ⟨e, he, h1⟩ := h
    rw [Bool.and_eq_true, Bool.or_eq_true, beq_iff_eq] at h1
    obtain ⟨h2, h3⟩ := h1
    have h4 := hl e he h2
    rcases h3 with rfl | h3
    · exact h4
    · cases ho : ops[e.on]? with
      | none =>
        cases k with
        | zero => cases h3
        | succ k => simp only [needs, ho] at h3; cases h3
      | some o' => exact needs_listed hc k e.on o' ho h3 (closed_at hc ho h4)
theorem closed_next {b : Array Bool} (hc : closedB md ops b = true) {j : Nat} (hj : j ∈ Region.ready md ops b) : closedB md ops (b.setIfInBounds j true) = true := by
  obtain ⟨_, oj, hoj, hall⟩ := mem_ready.1 hj
  unfold closedB
  rw [List.all_eq_true]
  intro m hm
  cases ho : ops[m]? with
  | none => rfl
  | some o =>
    simp only
    by_cases hjm : j = m
    · subst hjm
      rw [hoj] at ho
      cases ho
      rw [Bool.or_eq_true]
      right
      rw [Array.all_eq_true_iff_forall_mem]
      intro e he
      cases hb : Region.binds md e with
      | false => rfl
      | true => exact getD_set_true (hall e he hb)
    · rw [getD_set_ne false hjm]
      cases hb : b.getD m false with
      | false => rfl
      | true =>
        rw [Bool.not_true, Bool.false_or, Array.all_eq_true_iff_forall_mem]
        intro e he
        cases hbi : Region.binds md e with
        | false => rfl
        | true => exact getD_set_true (closed_at hc ho hb e he hbi)
/-- the same as Sweep, up to operation m: behind that nothing is asked of S -/
def SweepTo (F : Fence) (n : Nat) (P : Program) (md : Region.Mode) (ops : Array Oper) (Q : Exit → Act → World → Prop) (m : Nat) (S : World → Prop) : Nat → Array Bool → Act → World → Prop
  | 0, b, a, w => Region.ready md ops b = [] ∧ Q .normal a w
  | k + 1, b, a, w => (Region.ready md ops b = [] → Q .normal a w) ∧ ∀ i ∈ Region.ready md ops b, wpOpIn F n P ops Q i (fun a' w' => (i = m ∧ wpAnyIn F n P md ops Q k (b.setIfInBounds i true) a' w') ∨ (i ≠ m ∧ S w' ∧ SweepTo F n P md ops Q m S k (b.setIfInBounds i true) a' w')) a w
theorem SweepTo.any {m : Nat} : ∀ (k : Nat) (b : Array Bool) (a : Act) (w : World), SweepTo F n P md ops Q m S k b a w → wpAnyIn F n P md ops Q k b a w
  | 0, _, _, _, h => h
  | k + 1, _, _, _, h => ⟨h.1, fun i hi => wpOpIn_mono (fun a' w' h' => h'.elim (fun x => x.2) (fun x => SweepTo.any k _ a' w' x.2.2)) (h.2 i hi)⟩
theorem SweepTo.first {m i : Nat} {oi : Oper} {v : Value} (hF : ∀ f, F.fn f) (hro : F.round = none) (hi : ops[i]? = some oi) (hsel : ∀ (j : Nat) (o : Oper) cs b, ops[j]? = some o → o.op ≠ .select cs b) (hQ : ∀ c a w, Q (.panic c) (a.put oi.dst v) w → Q (.panic c) a w)
    (him : i ≠ m) (hm : needs md ops ops.size m i = true) :
    ∀ (k : Nat) (b : Array Bool) (a : Act) (w : World), closedB md ops b = true → (∀ j oj, ops[j]? = some oj → j ≠ i → b.getD j true = false → (∀ e ∈ oj.after, Region.binds md e = true → e.on ≠ i) → oi.apart ops oj = true) →
      i ∈ Region.ready md ops b → YieldsIf P ops S oi v a → S w → SweepTo F n P md ops Q m S k (b.setIfInBounds i true) (a.put oi.dst v) w → SweepTo F n P md ops Q m S (k + 1) b a w := by
  intro k
  induction k with
  | zero =>
    intro b a w hc _ hr hy hS H
    refine ⟨(fun h => by rw [h] at hr; cases hr), fun j hj => ?_⟩
    by_cases e : j = i
    · subst e; exact quiet_now hF hro hi hy hS (.inr ⟨him, hS, H⟩)
    · have := ready_mono (i := i) hj e
      rw [H.1] at this; cases this
  | succ k ih =>
    intro b a w hc hfree hr hy hS H
    refine ⟨(fun h => by rw [h] at hr; cases hr), fun j hj => ?_⟩
    by_cases e : j = i
    · subst e; exact quiet_now hF hro hi hy hS (.inr ⟨him, hS, H⟩)
    · obtain ⟨hun, oj, hoj, hall⟩ := mem_ready.1 hj
      have hiun : b.getD i false = false := by
        have h0 := (mem_ready.1 hr).1
        rcases Nat.lt_or_ge i b.size with h' | h'
        · simp [h'] at h0 ⊢; exact h0
        · simp [Array.getElem?_eq_none h']
      have hjm : j ≠ m := fun ejm => by
        subst ejm
        have := needs_listed hc ops.size j oj hoj hm hall
        rw [hiun] at this; cases this
      have hno : ∀ x ∈ oj.after, Region.binds md x = true → x.on ≠ i := fun x hx hb hxi => by
        have h1 := hall x hx hb
        rw [hxi, hiun] at h1; cases h1
      have hap := hfree j oj hoj e hun hno
      have h1 := own_place hoj (beside hro hoj hap (fun cs b' => hsel j oj cs b' hoj) hQ (H.2 j (ready_mono hj e)))
      refine wpOpIn_mono (fun a' w' h2 => ?_) h1
      obtain ⟨⟨c, u, rfl, hcc⟩, h3⟩ := h2
      rcases h3 with ⟨h3, _⟩ | ⟨_, hS', h3⟩
      · exact absurd h3 hjm
      have hev : c.eval = a.eval := by funext x; cases x <;> simp [Act.eval, hcc]
      have hy' : YieldsIf P ops S oi v (c.put oj.dst u) := by
        have h3' := (Oper.apart_spec hap).2.2
        refine YieldsIf.of_same hy ?_ ?_
        · rw [execOp_put oi (fun cs b' => hsel i oi cs b' hi) c oj.dst u h3', hev]
        · rw [wanted_put oi c oj.dst u h3', hcc]
      refine .inr ⟨hjm, hS', ih (b.setIfInBounds j true) _ w' (closed_next hc hj) (fun m om hm hmi hmu hmn => hfree m om hm hmi ?_ hmn) (ready_mono hr (Ne.symm e)) hy' hS' ?_⟩
      · by_cases hjm' : j = m
        · subst hjm'; exact hun
        · rw [getD_set_ne true hjm'] at hmu; exact hmu
      · rw [Array.setIfInBounds_comm _ _ e]; exact h3
theorem SweepTo.take {m i : Nat} {oi : Oper} {v : Value} {k : Nat} {b : Array Bool} {a : Act} {w : World} (hF : ∀ f, F.fn f) (hro : F.round = none) (him : (i == m) = false) (hm : needs md ops ops.size m i = true) (hc : closedB md ops b = true) (hi : ops[i]? = some oi) (hs : Region.noSelect ops = true) (hf : Region.free md ops b i = true) (hr : (Region.ready md ops b).contains i = true)
    (hQ : ∀ c a w, Q (.panic c) (a.put oi.dst v) w → Q (.panic c) a w) (hy : YieldsIf P ops S oi v a) (hS : S w) (h : SweepTo F n P md ops Q m S k (b.setIfInBounds i true) (a.put oi.dst v) w) : SweepTo F n P md ops Q m S (k + 1) b a w :=
  SweepTo.first hF hro hi (Region.noSelect_spec hs) hQ (by simpa using him) hm k b a w hc (Region.free_spec hi hf) (by simpa using hr) hy hS h
/-- those that may come up are calls, none of them m -/
def ToReady (F : Fence) (n : Nat) (P : Program) (md : Region.Mode) (ops : Array Oper) (Q : Exit → Act → World → Prop) (m : Nat) (S : World → Prop) (k : Nat) (b : Array Bool) (a : Act) (w : World) (rs : List Nat) : Prop :=
  ∀ i ∈ rs, wpOpIn F n P ops Q i (fun a' w' => (i = m ∧ wpAnyIn F n P md ops Q k (b.setIfInBounds i true) a' w') ∨ (i ≠ m ∧ S w' ∧ SweepTo F n P md ops Q m S k (b.setIfInBounds i true) a' w')) a w
theorem ToReady.nil {m k : Nat} {b : Array Bool} {a : Act} {w : World} : ToReady F n P md ops Q m S k b a w [] := fun _ h => by cases h
theorem ToReady.cons {m k : Nat} {b : Array Bool} {a : Act} {w : World} {i : Nat} {o : Oper} {rs : List Nat} (ho : ops[i]? = some o) (him : (i == m) = false)
    (h : ∀ K' : Act → World → Prop, Hid (∀ a w, S w → (S w → SweepTo F n P md ops Q m S k (b.setIfInBounds i true) a w) → K' a w) → if Region.wanted o (yielded ops a.tmps) = true then Oper.wpIn F n P o a w K' Q else (∀ f, o.about P w a.eval = some f → F.fn f) ∧ K' (a.put o.dst undef) w)
    (hs : ToReady F n P md ops Q m S k b a w rs) : ToReady F n P md ops Q m S k b a w (i :: rs) := fun j hj => by
  rcases List.mem_cons.1 hj with rfl | hj
  · unfold wpOpIn
    rw [ho]
    exact h _ (fun _ _ h1 h2 => .inr ⟨by simpa using him, h1, h2 h1⟩)
  · exact hs j hj
/-- it is m that comes up -/
theorem ToReady.cut {k : Nat} {b : Array Bool} {a : Act} {w : World} {i : Nat} {o : Oper} (ho : ops[i]? = some o)
    (h : ∀ K' : Act → World → Prop, Hid (∀ a w, wpAnyIn F n P md ops Q k (b.setIfInBounds i true) a w → K' a w) → if Region.wanted o (yielded ops a.tmps) = true then Oper.wpIn F n P o a w K' Q else (∀ f, o.about P w a.eval = some f → F.fn f) ∧ K' (a.put o.dst undef) w) :
    ToReady F n P md ops Q i S k b a w [i] := fun j hj => by
  obtain rfl : j = i := by simpa using hj
  unfold wpOpIn
  rw [ho]
  exact h _ (fun _ _ h1 => .inl ⟨rfl, h1⟩)
theorem SweepTo.ready {m : Nat} {rs : List Nat} {k : Nat} {b : Array Bool} {a : Act} {w : World} (hr : Region.ready md ops b = rs) (hne : rs ≠ []) (h : ToReady F n P md ops Q m S k b a w rs) : SweepTo F n P md ops Q m S (k + 1) b a w :=
  ⟨fun h0 => absurd (hr ▸ h0) hne, hr ▸ h⟩
end
end Go.Proofs.YtcnkgddldhkddaaDoor
