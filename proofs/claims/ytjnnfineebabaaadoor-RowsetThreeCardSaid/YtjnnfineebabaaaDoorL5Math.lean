/- The plain mathematics of package rowset: two rows gone over at once; what is in either, in both, in one alone; rows sorted; no program in it. -/
import Derived.Test.YtjnnfineebabaaaDoorL4Math
namespace Go.Proofs.Rowm

/-- a value, or none -/
abbrev Ov := Option (BitVec 64)
/-- a key, what the first row has there, and what the second one has there -/
abbrev En := BitVec 64 × Ov × Ov
def incr (o : Nat) (l : List Pr) : Prop := l.Pairwise fun a b => num o a.1 < num o b.1
theorem incr_of {o : Nat} {l : List Pr} (h : rises o l = true) : incr o l := by
  unfold incr
  rw [List.pairwise_iff_getElem]
  intro i j hi hj hij
  exact rises_lt h i j hij hj
theorem rises_of_incr {o : Nat} {l : List Pr} (h : incr o l) : rises o l = true := by
  refine rises_of o l fun i hi => ?_
  unfold incr at h
  rw [List.pairwise_iff_getElem] at h
  exact h i (i + 1) (by omega) hi (by omega)
theorem got_mem {o : Nat} {k v : BitVec 64} : ∀ {l : List Pr}, incr o l → (got l k = some v ↔ (k, v) ∈ l)
  | [], _ => by simp [got]
  | p :: l, h => by
    have h' : incr o l := (List.pairwise_cons.1 h).2
    have hp := (List.pairwise_cons.1 h).1
    rw [got_cons, List.mem_cons]
    by_cases e : p.1 = k
    · rw [if_pos e]
      refine ⟨fun x => .inl ?_, fun x => ?_⟩
      · cases x; rw [← e]
      · rcases x with x | x
        · rw [← x]
        · have := hp _ x
          rw [e] at this
          exact absurd this (Nat.lt_irrefl _)
    · rw [if_neg e, got_mem h']
      refine ⟨.inr, fun x => x.resolve_left fun x => e (by rw [← x])⟩
theorem got_none_iff {k : BitVec 64} : ∀ {l : List Pr}, got l k = none ↔ ∀ v, (k, v) ∉ l
  | [] => by simp [got]
  | p :: l => by
    rw [got_cons]
    by_cases e : p.1 = k
    · rw [if_pos e]
      exact ⟨fun x => (by cases x), fun x => (x p.2 (by rw [← e]; exact List.mem_cons_self)).elim⟩
    · rw [if_neg e, got_none_iff]
      refine ⟨fun x v hv => ?_, fun x v hv => x v (List.mem_cons_of_mem _ hv)⟩
      rcases List.mem_cons.1 hv with hv | hv
      · exact e (by rw [← hv])
      · exact x v hv
/-- two rows that rise, and have the same under each key, are the same -/
theorem row_ext {o : Nat} : ∀ {a b : List Pr}, incr o a → incr o b → (∀ k, got a k = got b k) → a = b
  | [], [], _, _, _ => rfl
  | [], q :: b, _, hb, h => by
    have := h q.1
    rw [got_cons, if_pos rfl] at this
    simp [got] at this
  | p :: a, [], _, _, h => by
    have := h p.1
    rw [got_cons, if_pos rfl] at this
    simp [got] at this
  | p :: a, q :: b, ha, hb, h => by
    have ha' := List.pairwise_cons.1 ha
    have hb' := List.pairwise_cons.1 hb
    have e : p = q := by
      have h1 := h p.1
      rw [got_cons, if_pos rfl] at h1
      have m1 := (got_mem hb).1 h1.symm
      have h2 := h q.1
      rw [got_cons (p := q), if_pos rfl] at h2
      have m2 := (got_mem ha).1 h2
      rcases List.mem_cons.1 m1 with m1 | m1
      · exact m1
      · rcases List.mem_cons.1 m2 with m2 | m2
        · exact m2.symm
        · have := hb'.1 _ m1
          have := ha'.1 _ m2
          simp only at *
          omega
    subst e
    rw [row_ext ha'.2 hb'.2 fun k => ?_]
    have hk := h k
    rw [got_cons, got_cons] at hk
    by_cases e : p.1 = k
    · subst e
      rw [got_none_iff.2 fun v hv => Nat.lt_irrefl _ (ha'.1 (p.1, v) hv), got_none_iff.2 fun v hv => Nat.lt_irrefl _ (hb'.1 (p.1, v) hv)]
    · rw [if_neg e, if_neg e] at hk
      exact hk

/-- two rows gone over at once: each key, and whose it is -/
def walk (o : Nat) : List Pr → List Pr → List En
  | [], b => b.map fun p => (p.1, none, some p.2)
  | p :: a, [] => (p :: a).map fun p => (p.1, some p.2, none)
  | p :: a, q :: b =>
    if num o p.1 < num o q.1 then (p.1, some p.2, none) :: walk o a (q :: b)
    else if num o q.1 < num o p.1 then (q.1, none, some q.2) :: walk o (p :: a) b
    else (p.1, some p.2, some q.2) :: walk o a b
  termination_by a b => a.length + b.length
theorem got_far {o : Nat} {l : List Pr} {k : BitVec 64} (h : ∀ p ∈ l, num o k < num o p.1) : got l k = none :=
  got_none_iff.2 fun _ hv => Nat.lt_irrefl _ (h _ hv)
theorem mem_walk {o : Nat} (a b : List Pr) (ha : incr o a) (hb : incr o b) (e : En) : e ∈ walk o a b ↔ e.2.1 = got a e.1 ∧ e.2.2 = got b e.1 ∧ (e.2.1 ≠ none ∨ e.2.2 ≠ none) := by
  fun_induction walk o a b with
  | case1 b =>
    obtain ⟨k, x, y⟩ := e
    simp only [List.mem_map, Prod.mk.injEq]
    constructor
    · rintro ⟨p, hp, rfl, rfl, rfl⟩
      exact ⟨rfl, ((got_mem hb).2 hp).symm, .inr (by simp)⟩
    · rintro ⟨hx, hy, hn⟩
      have hx' : x = none := hx
      subst hx'
      cases y with
      | none => simp at hn
      | some v => exact ⟨(k, v), (got_mem hb).1 hy.symm, rfl, rfl, rfl⟩
  | case2 p a =>
    obtain ⟨k, x, y⟩ := e
    simp only [List.mem_map, Prod.mk.injEq]
    constructor
    · rintro ⟨q, hq, rfl, rfl, rfl⟩
      exact ⟨((got_mem ha).2 hq).symm, rfl, .inl (by simp)⟩
    · rintro ⟨hx, hy, hn⟩
      have hy' : y = none := hy
      subst hy'
      cases x with
      | none => simp at hn
      | some v => exact ⟨(k, v), (got_mem ha).1 hx.symm, rfl, rfl, rfl⟩
  | case3 p a q b h ih =>
    have ha' := List.pairwise_cons.1 ha
    have hb' := List.pairwise_cons.1 hb
    have far : got (q :: b) p.1 = none := got_far fun r hr => by
      rcases List.mem_cons.1 hr with rfl | hr
      · exact h
      · exact Nat.lt_trans h (hb'.1 _ hr)
    have far2 : got a p.1 = none := got_far ha'.1
    rw [List.mem_cons, ih ha'.2 hb]
    constructor
    · rintro (rfl | ⟨hx, hy, hn⟩)
      · exact ⟨by rw [got_cons, if_pos rfl], far.symm, .inl (by simp)⟩
      · refine ⟨?_, hy, hn⟩
        rw [got_cons, if_neg]
        · exact hx
        · intro e1
          rw [← e1] at hx hy
          rw [far2] at hx
          rw [far] at hy
          rw [hx, hy] at hn
          simp at hn
    · rintro ⟨hx, hy, hn⟩
      rw [got_cons] at hx
      by_cases e1 : p.1 = e.1
      · rw [if_pos e1] at hx
        rw [← e1, far] at hy
        left
        obtain ⟨k, x, y⟩ := e
        simp only at *
        rw [e1, hx, hy]
      · rw [if_neg e1] at hx
        exact .inr ⟨hx, hy, hn⟩
  | case4 p a q b h h2 ih =>
    have ha' := List.pairwise_cons.1 ha
    have hb' := List.pairwise_cons.1 hb
    have far : got (p :: a) q.1 = none := got_far fun r hr => by
      rcases List.mem_cons.1 hr with rfl | hr
      · exact h2
      · exact Nat.lt_trans h2 (ha'.1 _ hr)
    have far2 : got b q.1 = none := got_far hb'.1
    rw [List.mem_cons, ih ha hb'.2]
    constructor
    · rintro (rfl | ⟨hx, hy, hn⟩)
      · exact ⟨far.symm, by rw [got_cons, if_pos rfl], .inr (by simp)⟩
      · refine ⟨hx, ?_, hn⟩
        rw [got_cons, if_neg]
        · exact hy
        · intro e1
          rw [← e1] at hx hy
          rw [far2] at hy
          rw [far] at hx
          rw [hx, hy] at hn
          simp at hn
    · rintro ⟨hx, hy, hn⟩
      rw [got_cons (p := q)] at hy
      by_cases e1 : q.1 = e.1
      · rw [if_pos e1] at hy
        rw [← e1, far] at hx
        left
        obtain ⟨k, x, y⟩ := e
        simp only at *
        rw [e1, hx, hy]
      · rw [if_neg e1] at hy
        exact .inr ⟨hx, hy, hn⟩
  | case5 p a q b h h2 ih =>
    have ha' := List.pairwise_cons.1 ha
    have hb' := List.pairwise_cons.1 hb
    have hpq : p.1 = q.1 := num_inj (o := o) (by omega)
    have far : got b p.1 = none := got_far (by rw [hpq]; exact hb'.1)
    have far2 : got a p.1 = none := got_far ha'.1
    rw [List.mem_cons, ih ha'.2 hb'.2]
    constructor
    · rintro (rfl | ⟨hx, hy, hn⟩)
      · exact ⟨by rw [got_cons, if_pos rfl], by rw [got_cons, if_pos hpq.symm], .inl (by simp)⟩
      · have hne : p.1 ≠ e.1 := by
          intro e1
          rw [← e1] at hx hy
          rw [far] at hy
          rw [far2] at hx
          rw [hx, hy] at hn
          simp at hn
        exact ⟨by rw [got_cons, if_neg hne]; exact hx, by rw [got_cons, if_neg (by rw [← hpq]; exact hne)]; exact hy, hn⟩
    · rintro ⟨hx, hy, hn⟩
      rw [got_cons] at hx hy
      by_cases e1 : p.1 = e.1
      · rw [if_pos e1] at hx
        rw [if_pos (by rw [← hpq]; exact e1)] at hy
        left
        obtain ⟨k, x, y⟩ := e
        simp only at *
        rw [e1, hx, hy]
      · rw [if_neg e1] at hx
        rw [if_neg (by rw [← hpq]; exact e1)] at hy
        exact .inr ⟨hx, hy, hn⟩
/-- its keys rise -/
theorem walk_incr {o : Nat} (a b : List Pr) (ha : incr o a) (hb : incr o b) : (walk o a b).Pairwise fun x y => num o x.1 < num o y.1 := by
  have key : ∀ (a b : List Pr), incr o a → incr o b → ∀ (k : BitVec 64), (∀ p ∈ a, num o k < num o p.1) → (∀ p ∈ b, num o k < num o p.1) → ∀ e ∈ walk o a b, num o k < num o e.1 := by
    intro a b ha hb k h1 h2 e he
    obtain ⟨hx, hy, hn⟩ := (mem_walk a b ha hb e).1 he
    rcases hn with hn | hn
    · obtain ⟨v, hv⟩ := Option.ne_none_iff_exists'.1 hn
      exact h1 _ ((got_mem ha).1 (hx ▸ hv : got a e.1 = some v))
    · obtain ⟨v, hv⟩ := Option.ne_none_iff_exists'.1 hn
      exact h2 _ ((got_mem hb).1 (hy ▸ hv : got b e.1 = some v))
  fun_induction walk o a b with
  | case1 b => rw [List.pairwise_map]; exact hb
  | case2 p a => rw [List.pairwise_map]; exact ha
  | case3 p a q b h ih =>
    have ha' := List.pairwise_cons.1 ha
    have hb' := List.pairwise_cons.1 hb
    refine List.pairwise_cons.2 ⟨key _ _ ha'.2 hb _ ha'.1 fun r hr => ?_, ih ha'.2 hb⟩
    rcases List.mem_cons.1 hr with rfl | hr
    · exact h
    · exact Nat.lt_trans h (hb'.1 _ hr)
  | case4 p a q b h h2 ih =>
    have ha' := List.pairwise_cons.1 ha
    have hb' := List.pairwise_cons.1 hb
    refine List.pairwise_cons.2 ⟨key _ _ ha hb'.2 _ (fun r hr => ?_) hb'.1, ih ha hb'.2⟩
    rcases List.mem_cons.1 hr with rfl | hr
    · exact h2
    · exact Nat.lt_trans h2 (ha'.1 _ hr)
  | case5 p a q b h h2 ih =>
    have ha' := List.pairwise_cons.1 ha
    have hb' := List.pairwise_cons.1 hb
    have hpq : p.1 = q.1 := num_inj (o := o) (by omega)
    exact List.pairwise_cons.2 ⟨key _ _ ha'.2 hb'.2 _ ha'.1 (by rw [hpq]; exact hb'.1), ih ha'.2 hb'.2⟩

/-- what stays of two rows, by what each has under a key -/
def stay (f : Ov → Ov → Ov) (w : List En) : List Pr := w.filterMap fun e => (f e.2.1 e.2.2).map fun v => (e.1, v)
theorem stay_incr {o : Nat} {f : Ov → Ov → Ov} {w : List En} (h : w.Pairwise fun x y => num o x.1 < num o y.1) : incr o (stay f w) := by
  unfold incr stay
  refine List.Pairwise.filterMap _ (fun x y hxy p hp q hq => ?_) h
  simp only [Option.map_eq_some_iff] at hp hq
  obtain ⟨v, _, rfl⟩ := hp
  obtain ⟨u, _, rfl⟩ := hq
  exact hxy
/-- the two rows, as a function says -/
def pair2 (o : Nat) (f : Ov → Ov → Ov) (a b : List Pr) : List Pr := stay f (walk o a b)
theorem pair2_incr {o : Nat} {f : Ov → Ov → Ov} {a b : List Pr} (ha : incr o a) (hb : incr o b) : incr o (pair2 o f a b) := stay_incr (walk_incr a b ha hb)
theorem got_pair2 {o : Nat} {f : Ov → Ov → Ov} (hf : f none none = none) {a b : List Pr} (ha : incr o a) (hb : incr o b) (k : BitVec 64) : got (pair2 o f a b) k = f (got a k) (got b k) := by
  have hi : incr o (pair2 o f a b) := pair2_incr ha hb
  have key : ∀ v, got (pair2 o f a b) k = some v ↔ f (got a k) (got b k) = some v := by
    intro v
    rw [got_mem hi]
    unfold pair2 stay
    rw [List.mem_filterMap]
    constructor
    · rintro ⟨e, he, h⟩
      obtain ⟨hx, hy, _⟩ := (mem_walk a b ha hb e).1 he
      simp only [Option.map_eq_some_iff, Prod.mk.injEq] at h
      obtain ⟨u, hu, rfl, rfl⟩ := h
      rw [← hx, ← hy]; exact hu
    · intro h
      refine ⟨(k, got a k, got b k), (mem_walk a b ha hb _).2 ⟨rfl, rfl, ?_⟩, by simp [h]⟩
      simp only
      cases h1 : got a k with
      | some _ => simp
      | none =>
        cases h2 : got b k with
        | some _ => simp
        | none => rw [h1, h2, hf] at h; cases h
  cases h1 : got (pair2 o f a b) k with
  | some v => exact ((key v).1 h1).symm
  | none =>
    cases h2 : f (got a k) (got b k) with
    | none => rfl
    | some v => rw [(key v).2 h2] at h1; cases h1
theorem pair2_eq {o : Nat} {f : Ov → Ov → Ov} (hf : f none none = none) {a b s : List Pr} (ha : incr o a) (hb : incr o b) (hs : incr o s) (h : ∀ k, got s k = f (got a k) (got b k)) : s = pair2 o f a b :=
  row_ext hs (pair2_incr ha hb) fun k => by rw [h, got_pair2 hf ha hb]

/-! ### the ways in which two rows come together -/
/-- a value that comes to what a key has -/
def come (p : Nat) : Ov → Ov → Ov
  | some x, some y => some (Foldm.cmb p x y)
  | some x, none => some x
  | none, y => y
def meet2 (p : Nat) : Ov → Ov → Ov
  | some x, some y => some (Foldm.cmb p x y)
  | _, _ => none
def less2 : Ov → Ov → Ov
  | some x, none => some x
  | _, _ => none
def apart2 : Ov → Ov → Ov
  | some x, none => some x
  | none, y => y
  | _, _ => none
def unionL (o p : Nat) (a b : List Pr) : List Pr := pair2 o (come p) a b
def meetL (o p : Nat) (a b : List Pr) : List Pr := pair2 o (meet2 p) a b
def lessL (o : Nat) (a b : List Pr) : List Pr := pair2 o less2 a b
def apartL (o : Nat) (a b : List Pr) : List Pr := pair2 o apart2 a b
section
variable {o p : Nat} {a b c : List Pr}
theorem got_unionL (ha : incr o a) (hb : incr o b) (k : BitVec 64) : got (unionL o p a b) k = come p (got a k) (got b k) := got_pair2 rfl ha hb k
theorem got_meetL (ha : incr o a) (hb : incr o b) (k : BitVec 64) : got (meetL o p a b) k = meet2 p (got a k) (got b k) := got_pair2 rfl ha hb k
theorem got_lessL (ha : incr o a) (hb : incr o b) (k : BitVec 64) : got (lessL o a b) k = less2 (got a k) (got b k) := got_pair2 rfl ha hb k
theorem got_apartL (ha : incr o a) (hb : incr o b) (k : BitVec 64) : got (apartL o a b) k = apart2 (got a k) (got b k) := got_pair2 rfl ha hb k
end
/-! ### lengths -/
theorem len_stay (f : Ov → Ov → Ov) : ∀ w : List En, (stay f w).length = (w.map fun e => if (f e.2.1 e.2.2).isSome then 1 else 0).sum
  | [] => rfl
  | e :: w => by
    have ih := len_stay f w
    unfold stay at *
    rw [List.filterMap_cons]
    cases h : f e.2.1 e.2.2 <;> simp [h, ih] <;> omega
theorem sum_four {w : List En} {f g h i : En → Nat} (hh : ∀ e ∈ w, f e + g e = h e + i e) : (w.map f).sum + (w.map g).sum = (w.map h).sum + (w.map i).sum := by
  induction w with
  | nil => rfl
  | cons e w ih =>
    have h1 := hh e List.mem_cons_self
    have h2 := ih fun e he => hh e (List.mem_cons_of_mem _ he)
    simp only [List.map_cons, List.sum_cons]; omega
theorem walk_fst {o : Nat} {a b : List Pr} (ha : incr o a) (hb : incr o b) : stay (fun x _ => x) (walk o a b) = a :=
  (pair2_eq (f := fun x _ => x) rfl ha hb ha fun _ => rfl).symm
theorem walk_snd {o : Nat} {a b : List Pr} (ha : incr o a) (hb : incr o b) : stay (fun _ y => y) (walk o a b) = b :=
  (pair2_eq (f := fun _ y => y) rfl ha hb hb fun _ => rfl).symm
section
variable {o p : Nat} {a b c : List Pr}
theorem len_union_meet (ha : incr o a) (hb : incr o b) : (unionL o p a b).length + (meetL o p a b).length = a.length + b.length := by
  have h1 := congrArg List.length (walk_fst ha hb)
  have h2 := congrArg List.length (walk_snd ha hb)
  rw [← h1, ← h2]
  unfold unionL meetL pair2
  simp only [len_stay]
  refine sum_four fun e _ => ?_
  cases e.2.1 <;> cases e.2.2 <;> rfl
theorem len_apart_meet (a b : List Pr) : (apartL o a b).length + (meetL o p a b).length = (unionL o p a b).length := by
  have h := sum_four (w := walk o a b) (f := fun e => if (apart2 e.2.1 e.2.2).isSome then 1 else 0) (g := fun e => if (meet2 p e.2.1 e.2.2).isSome then 1 else 0) (h := fun e => if (come p e.2.1 e.2.2).isSome then 1 else 0) (i := fun _ => 0) fun e _ => by
    cases e.2.1 <;> cases e.2.2 <;> rfl
  unfold apartL meetL unionL pair2
  simp only [len_stay]
  have z : ((walk o a b).map fun _ => 0).sum = 0 := by
    generalize walk o a b = w
    induction w with
    | nil => rfl
    | cons e w ih => simp [ih]
  omega
theorem len_less_meet (ha : incr o a) (hb : incr o b) : (lessL o a b).length + (meetL o p a b).length = a.length := by
  have h1 := congrArg List.length (walk_fst ha hb)
  have h := sum_four (w := walk o a b) (f := fun e => if (less2 e.2.1 e.2.2).isSome then 1 else 0) (g := fun e => if (meet2 p e.2.1 e.2.2).isSome then 1 else 0) (h := fun e => if e.2.1.isSome then 1 else 0) (i := fun _ => 0) fun e _ => by
    cases e.2.1 <;> cases e.2.2 <;> rfl
  rw [← h1]
  unfold lessL meetL pair2
  simp only [len_stay]
  have z : ((walk o a b).map fun _ => 0).sum = 0 := by
    generalize walk o a b = w
    induction w with
    | nil => rfl
    | cons e w ih => simp [ih]
  omega
end

/-! ### laws -/
theorem come_none (p : Nat) (x : Ov) : come p x none = x := by cases x <;> rfl
theorem come_assoc (p : Nat) (x y z : Ov) : come p (come p x y) z = come p x (come p y z) := by
  cases x <;> cases y <;> cases z <;> simp [come, Foldm.cmb_assoc]
theorem come_comm (x y : Ov) : come 3 x y = come 3 y x := by
  cases x <;> cases y <;> simp [come, Foldm.cmb, BitVec.add_comm]
theorem meet2_assoc (p : Nat) (x y z : Ov) : meet2 p (meet2 p x y) z = meet2 p x (meet2 p y z) := by
  cases x <;> cases y <;> cases z <;> simp [meet2, Foldm.cmb_assoc]
section
variable {o p : Nat} {a b c : List Pr}
theorem unionL_incr (ha : incr o a) (hb : incr o b) : incr o (unionL o p a b) := pair2_incr ha hb
theorem meetL_incr (ha : incr o a) (hb : incr o b) : incr o (meetL o p a b) := pair2_incr ha hb
theorem lessL_incr (ha : incr o a) (hb : incr o b) : incr o (lessL o a b) := pair2_incr ha hb
theorem apartL_incr (ha : incr o a) (hb : incr o b) : incr o (apartL o a b) := pair2_incr ha hb
theorem unionL_assoc (ha : incr o a) (hb : incr o b) (hc : incr o c) : unionL o p (unionL o p a b) c = unionL o p a (unionL o p b c) :=
  row_ext (unionL_incr (unionL_incr ha hb) hc) (unionL_incr ha (unionL_incr hb hc)) fun k => by
    rw [got_unionL (unionL_incr ha hb) hc, got_unionL ha hb, got_unionL ha (unionL_incr hb hc), got_unionL hb hc, come_assoc]
theorem meetL_assoc (ha : incr o a) (hb : incr o b) (hc : incr o c) : meetL o p (meetL o p a b) c = meetL o p a (meetL o p b c) :=
  row_ext (meetL_incr (meetL_incr ha hb) hc) (meetL_incr ha (meetL_incr hb hc)) fun k => by
    rw [got_meetL (meetL_incr ha hb) hc, got_meetL ha hb, got_meetL ha (meetL_incr hb hc), got_meetL hb hc, meet2_assoc]
theorem unionL_comm (ha : incr o a) (hb : incr o b) : unionL o 3 a b = unionL o 3 b a :=
  row_ext (unionL_incr ha hb) (unionL_incr hb ha) fun k => by rw [got_unionL ha hb, got_unionL hb ha, come_comm]
theorem less_less (ha : incr o a) (hb : incr o b) : unionL o p (lessL o a b) (lessL o b a) = apartL o a b :=
  row_ext (unionL_incr (lessL_incr ha hb) (lessL_incr hb ha)) (apartL_incr ha hb) fun k => by
    rw [got_unionL (lessL_incr ha hb) (lessL_incr hb ha), got_lessL ha hb, got_lessL hb ha, got_apartL ha hb]
    cases got a k <;> cases got b k <;> rfl
theorem meet_apart (ha : incr o a) (hb : incr o b) : unionL o p (meetL o p a b) (apartL o a b) = unionL o p a b :=
  row_ext (unionL_incr (meetL_incr ha hb) (apartL_incr ha hb)) (unionL_incr ha hb) fun k => by
    rw [got_unionL (meetL_incr ha hb) (apartL_incr ha hb), got_meetL ha hb, got_apartL ha hb, got_unionL ha hb]
    cases got a k <;> cases got b k <;> rfl
theorem union_less_meet (ha : incr o a) (hb : incr o b) : lessL o (unionL o p a b) (meetL o p a b) = apartL o a b :=
  row_ext (lessL_incr (unionL_incr ha hb) (meetL_incr ha hb)) (apartL_incr ha hb) fun k => by
    rw [got_lessL (unionL_incr ha hb) (meetL_incr ha hb), got_meetL ha hb, got_apartL ha hb, got_unionL ha hb]
    cases got a k <;> cases got b k <;> rfl
end

/-! ### as filters -/
theorem got_filter {o : Nat} {l : List Pr} (h : incr o l) (q : BitVec 64 → Bool) (k : BitVec 64) : got (l.filter fun p => q p.1) k = if q k then got l k else none := by
  have hf : incr o (l.filter fun p => q p.1) := h.filter _
  by_cases hq : q k = true
  · rw [if_pos hq]
    cases hg : got l k with
    | some v => exact (got_mem hf).2 (List.mem_filter.2 ⟨(got_mem h).1 hg, hq⟩)
    | none => exact got_none_iff.2 fun v hv => got_none_iff.1 hg v (List.mem_filter.1 hv).1
  · rw [if_neg hq]
    exact got_none_iff.2 fun v hv => hq (List.mem_filter.1 hv).2
theorem less_filter {o : Nat} {a b : List Pr} (ha : incr o a) (hb : incr o b) : (a.filter fun p => (got b p.1).isNone) = lessL o a b :=
  row_ext (ha.filter _) (lessL_incr ha hb) fun k => by
    rw [got_filter ha (fun k => (got b k).isNone), got_lessL ha hb]
    cases got a k <;> cases got b k <;> rfl
/-- the pairs of the first row whose keys the second one has, as the policy says -/
def metOf (p : Nat) (b : List Pr) (x : Pr) : Option Pr := (got b x.1).map fun v => (x.1, Foldm.cmb p x.2 v)
theorem met_incr {o p : Nat} {a b : List Pr} (ha : incr o a) : incr o (a.filterMap (metOf p b)) := by
  unfold incr
  refine List.Pairwise.filterMap _ (fun x y hxy p hp q hq => ?_) ha
  simp only [metOf, Option.map_eq_some_iff] at hp hq
  obtain ⟨v, _, rfl⟩ := hp
  obtain ⟨u, _, rfl⟩ := hq
  exact hxy
theorem meet_filter {o p : Nat} {a b : List Pr} (ha : incr o a) (hb : incr o b) : a.filterMap (metOf p b) = meetL o p a b := by
  refine row_ext (met_incr ha) (meetL_incr ha hb) fun k => ?_
  rw [got_meetL ha hb]
  have key : ∀ v, got (a.filterMap (metOf p b)) k = some v ↔ meet2 p (got a k) (got b k) = some v := by
    intro v
    rw [got_mem (met_incr ha), List.mem_filterMap]
    constructor
    · rintro ⟨x, hx, h⟩
      simp only [metOf, Option.map_eq_some_iff, Prod.mk.injEq] at h
      obtain ⟨u, hu, rfl, rfl⟩ := h
      rw [(got_mem ha).2 hx, hu]; rfl
    · intro h
      cases h1 : got a k with
      | none => rw [h1] at h; simp [meet2] at h
      | some x =>
        cases h2 : got b k with
        | none => rw [h1, h2] at h; simp [meet2] at h
        | some y =>
          rw [h1, h2] at h
          refine ⟨(k, x), (got_mem ha).1 h1, ?_⟩
          simp only [meet2, Option.some.injEq] at h
          simp [metOf, h2, h]
  cases h1 : got (a.filterMap (metOf p b)) k with
  | some v => exact ((key v).1 h1).symm
  | none =>
    cases h2 : meet2 p (got a k) (got b k) with
    | none => rfl
    | some v => rw [(key v).2 h2] at h1; cases h1
theorem filter_next {q : Pr → Bool} {l : List Pr} {k : Nat} (h : k < l.length) : (l.take (k + 1)).filter q = if q l[k] then (l.take k).filter q ++ [l[k]] else (l.take k).filter q := by
  rw [List.take_succ_eq_append_getElem h, List.filter_append]
  by_cases hk : q l[k] = true <;> simp [hk]
theorem filter_le {q : Pr → Bool} {l : List Pr} {k : Nat} : ((l.take k).filter q).length ≤ l.length :=
  Nat.le_trans (List.length_filter_le _ _) (by rw [List.length_take]; omega)
theorem met_next {f : Pr → Option Pr} {l : List Pr} {k : Nat} (h : k < l.length) : (l.take (k + 1)).filterMap f = (l.take k).filterMap f ++ (f l[k]).toList := by
  rw [List.take_succ_eq_append_getElem h, List.filterMap_append]
  cases hk : f l[k] <;> simp [hk]
theorem met_le {f : Pr → Option Pr} {l : List Pr} {k : Nat} : ((l.take k).filterMap f).length ≤ l.length :=
  Nat.le_trans (List.length_filterMap_le _ _) (by rw [List.length_take]; omega)

/-! ### sorted -/
def putL (o p : Nat) (l : List Pr) (x : Pr) : List Pr := putAt p l x (pos o x.1 l) (upto o x.1 l)
def sortL (o p : Nat) (l : List Pr) : List Pr := l.foldl (putL o p) []
def valsOf (l : List Pr) (k : BitVec 64) : List (BitVec 64) := (l.filter fun x => decide (x.1 = k)).map (·.2)
theorem putL_incr {o p : Nat} {l : List Pr} (h : incr o l) (x : Pr) : incr o (putL o p l x) :=
  incr_of (rises_putAt (rises_of_incr h) (at_of (rises_of_incr h) x.1))
theorem got_putL {o p : Nat} {l : List Pr} (h : incr o l) (x : Pr) (k : BitVec 64) : got (putL o p l x) k = if x.1 = k then come p (got l k) (some x.2) else got l k := by
  have ha := at_of (rises_of_incr h) x.1
  unfold putL
  by_cases e : x.1 = k
  · rw [if_pos e, ← e, got_put_same ha, ha.got]
    by_cases hij : pos o x.1 l < upto o x.1 l
    · rw [if_pos hij, if_pos hij]; rfl
    · rw [if_neg hij, if_neg hij]; rfl
  · rw [if_neg e, got_put_other ha e]
theorem fold_incr {o p : Nat} : ∀ (l acc : List Pr), incr o acc → incr o (l.foldl (putL o p) acc)
  | [], _, h => h
  | x :: l, _, h => fold_incr l _ (putL_incr h x)
theorem got_fold {o p : Nat} (k : BitVec 64) : ∀ (l acc : List Pr), incr o acc → got (l.foldl (putL o p) acc) k = (valsOf l k).foldl (fun x v => come p x (some v)) (got acc k)
  | [], _, _ => rfl
  | x :: l, acc, h => by
    rw [List.foldl_cons, got_fold k l _ (putL_incr h x), got_putL h]
    unfold valsOf
    by_cases e : x.1 = k <;> simp [e]
theorem sortL_incr (o p : Nat) (l : List Pr) : incr o (sortL o p l) := fold_incr l [] List.Pairwise.nil
theorem vals_append (a b : List Pr) (k : BitVec 64) : valsOf (a ++ b) k = valsOf a k ++ valsOf b k := by simp [valsOf]
theorem vals_none {l : List Pr} {k : BitVec 64} (h : got l k = none) : valsOf l k = [] := by
  unfold valsOf
  rw [List.filter_eq_nil_iff.2, List.map_nil]
  intro x hx e
  have := got_none_iff.1 h x.2
  simp only [decide_eq_true_eq] at e
  subst e
  exact this hx
theorem vals_row {o : Nat} {k : BitVec 64} : ∀ {l : List Pr}, incr o l → valsOf l k = (got l k).toList
  | [], _ => rfl
  | p :: l, h => by
    have h' := List.pairwise_cons.1 h
    rw [got_cons]
    by_cases e : p.1 = k
    · have hn : got l k = none := got_far fun r hr => by rw [← e]; exact h'.1 r hr
      have hv := vals_none hn
      unfold valsOf at hv ⊢
      rw [List.filter_cons_of_pos (by simp [e]), List.map_cons, hv, if_pos e]; rfl
    · have hv := vals_row (k := k) h'.2
      unfold valsOf at hv ⊢
      rw [List.filter_cons_of_neg (by simp [e]), hv, if_neg e]
theorem fold_come (p : Nat) (x y : Ov) : y.toList.foldl (fun x v => come p x (some v)) x = come p x y := by
  cases y with
  | none => rw [come_none]; rfl
  | some v => rfl
/-- two rows, sorted together -/
theorem sort_two {o p : Nat} {a b : List Pr} (ha : incr o a) (hb : incr o b) : sortL o p (a ++ b) = unionL o p a b :=
  row_ext (sortL_incr o p _) (unionL_incr ha hb) fun k => by
    rw [got_unionL ha hb, sortL, got_fold k _ _ List.Pairwise.nil, vals_append, List.foldl_append, vals_row ha, vals_row hb, fold_come, fold_come]; rfl
theorem sort_three {o p : Nat} {a b c : List Pr} (ha : incr o a) (hb : incr o b) (hc : incr o c) : sortL o p (a ++ b ++ c) = unionL o p (unionL o p a b) c :=
  row_ext (sortL_incr o p _) (unionL_incr (unionL_incr ha hb) hc) fun k => by
    rw [got_unionL (unionL_incr ha hb) hc, got_unionL ha hb, sortL, got_fold k _ _ List.Pairwise.nil, vals_append, vals_append, List.foldl_append, List.foldl_append, vals_row ha, vals_row hb, vals_row hc, fold_come, fold_come, fold_come]; rfl
theorem len_putL {o p : Nat} {l : List Pr} (h : incr o l) (x : Pr) : (putL o p l x).length ≤ l.length + 1 := by
  have ha := at_of (rises_of_incr h) x.1
  have := ha.len_put (p := p)
  have := ha.le
  unfold putL; omega
theorem len_fold {o p : Nat} : ∀ (l acc : List Pr), incr o acc → (l.foldl (putL o p) acc).length ≤ acc.length + l.length
  | [], _, _ => Nat.le_refl _
  | x :: l, acc, h => by
    have h1 := len_fold (p := p) l _ (putL_incr (p := p) h x)
    have h2 := len_putL (p := p) h x
    rw [List.foldl_cons, List.length_cons]; omega
theorem len_sortL (o p : Nat) (l : List Pr) : (sortL o p l).length ≤ l.length := by
  have := len_fold (o := o) (p := p) l [] List.Pairwise.nil
  unfold sortL; simpa using this

/-! ### cut -/
section
variable {o : Nat} {l : List Pr} {k : BitVec 64} {i j : Nat}
theorem filter_parts {q : Pr → Bool} {m : Nat} (h1 : ∀ p ∈ l.take m, q p = true) (h2 : ∀ p ∈ l.drop m, q p = false) : l.filter q = l.take m := by
  conv => lhs; rw [← List.take_append_drop m l]
  rw [List.filter_append, List.filter_eq_self.2 h1, List.filter_eq_nil_iff.2 (fun p hp => by simp [h2 p hp]), List.append_nil]
theorem filter_parts2 {q : Pr → Bool} {m : Nat} (h1 : ∀ p ∈ l.take m, q p = false) (h2 : ∀ p ∈ l.drop m, q p = true) : l.filter q = l.drop m := by
  conv => lhs; rw [← List.take_append_drop m l]
  rw [List.filter_append, List.filter_eq_self.2 h2, List.filter_eq_nil_iff.2 (fun p hp => by simp [h1 p hp]), List.nil_append]
theorem in_take {p : Pr} {m : Nat} (h : p ∈ l.take m) : ∃ t, ∃ ht : t < l.length, t < m ∧ l[t] = p := by
  obtain ⟨t, ht, e⟩ := List.getElem_of_mem h
  rw [List.length_take] at ht
  rw [List.getElem_take] at e
  exact ⟨t, by omega, by omega, e⟩
theorem in_drop {p : Pr} {m : Nat} (h : p ∈ l.drop m) : ∃ t, ∃ ht : t < l.length, m ≤ t ∧ l[t] = p := by
  obtain ⟨t, ht, e⟩ := List.getElem_of_mem h
  rw [List.length_drop] at ht
  rw [List.getElem_drop] at e
  exact ⟨m + t, by omega, by omega, e⟩
theorem At.ahead (h : At o l k i j) : l.filter (fun p => decide (num o p.1 < num o k)) = l.take i :=
  filter_parts (fun p hp => by obtain ⟨t, ht, hi, rfl⟩ := in_take hp; simpa using (h.lt_iff t ht).2 hi) fun p hp => by
    obtain ⟨t, ht, hi, rfl⟩ := in_drop hp
    have := h.lt_iff t ht
    simp only [decide_eq_false_iff_not]; omega
theorem At.upTo (h : At o l k i j) : l.filter (fun p => decide (num o p.1 ≤ num o k)) = l.take j :=
  filter_parts (fun p hp => by obtain ⟨t, ht, hi, rfl⟩ := in_take hp; simpa using (h.le_iff t ht).2 hi) fun p hp => by
    obtain ⟨t, ht, hi, rfl⟩ := in_drop hp
    have := h.le_iff t ht
    simp only [decide_eq_false_iff_not]; omega
theorem At.behind (h : At o l k i j) : l.filter (fun p => decide (num o k < num o p.1)) = l.drop j :=
  filter_parts2 (fun p hp => by
    obtain ⟨t, ht, hi, rfl⟩ := in_take hp
    have := h.le_iff t ht
    simp only [decide_eq_false_iff_not]; omega) fun p hp => by
    obtain ⟨t, ht, hi, rfl⟩ := in_drop hp
    have := h.le_iff t ht
    simp only [decide_eq_true_eq]; omega
theorem At.fromOn (h : At o l k i j) : l.filter (fun p => decide (num o k ≤ num o p.1)) = l.drop i :=
  filter_parts2 (fun p hp => by
    obtain ⟨t, ht, hi, rfl⟩ := in_take hp
    have := h.lt_iff t ht
    simp only [decide_eq_false_iff_not]; omega) fun p hp => by
    obtain ⟨t, ht, hi, rfl⟩ := in_drop hp
    have := h.lt_iff t ht
    simp only [decide_eq_true_eq]; omega
/-- the pair of the key, if there is one -/
def pairOf (k : BitVec 64) (l : List Pr) (i j : Nat) : List Pr := if i < j then [(k, valAt l i j)] else []
theorem At.pair_of (h : At o l k i j) : (l.take j).drop i = pairOf k l i j := by
  unfold pairOf
  have h1 := h.le
  have h2 := h.one
  have h3 := h.len
  by_cases hij : i < j
  · have hi : i < l.length := by omega
    rw [if_pos hij, show j = i + 1 by omega, List.take_succ_eq_append_getElem hi, List.drop_append_of_le_length (by rw [List.length_take]; omega), List.drop_take, Nat.sub_self, List.take_zero, List.nil_append]
    unfold valAt
    rw [if_pos (Nat.lt_succ_self i), getD_at l i hi, ← h.mid hi hij]
  · rw [if_neg hij, show j = i by omega, List.drop_take, Nat.sub_self, List.take_zero]
theorem At.take_pair (h : At o l k i j) : l.take i ++ pairOf k l i j = l.take j := by
  rw [← h.pair_of]
  have := List.take_append_drop i (l.take j)
  rw [List.take_take, Nat.min_eq_left h.le] at this
  exact this
theorem At.whole (h : At o l k i j) : l.take i ++ pairOf k l i j ++ l.drop j = l := by
  rw [h.take_pair, List.take_append_drop]
theorem At.pair_drop (h : At o l k i j) : pairOf k l i j ++ l.drop j = l.drop i := by
  have e := h.whole
  rw [List.append_assoc] at e
  have := congrArg (List.drop i) e
  rw [List.drop_append_of_le_length (by rw [h.len_take]; exact Nat.le_refl _), List.drop_take, Nat.sub_self, List.take_zero, List.nil_append] at this
  exact this
end
def rangeL (o : Nat) (lo hi : BitVec 64) (l : List Pr) : List Pr := l.filter fun p => decide (num o lo ≤ num o p.1) && decide (num o p.1 ≤ num o hi)
theorem range_cuts {o : Nat} {lo hi : BitVec 64} (l : List Pr) : rangeL o lo hi l = (l.filter fun p => decide (num o lo ≤ num o p.1)).filter fun p => decide (num o p.1 ≤ num o hi) := by
  rw [List.filter_filter]
  unfold rangeL
  exact List.filter_congr fun p _ => Bool.and_comm _ _
end Go.Proofs.Rowm
