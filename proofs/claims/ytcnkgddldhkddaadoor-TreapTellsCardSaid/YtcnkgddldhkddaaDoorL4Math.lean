/- The plain mathematics of package row: pairs that rise, by an order; where a key stands among them, what is put, what is dropped; no program in it. -/
import Derived.Test.YtcnkgddldhkddaaDoorL2Math
import Derived.Test.YtcnkgddldhkddaaDoorL3Math
namespace Go.Proofs.Rowm

/-- a pair: a key, and its value -/
abbrev Pr := BitVec 64 × BitVec 64
/-- the number by which a key stands -/
def num (o : Nat) (k : BitVec 64) : Nat := (Ordm.code o k).toNat
theorem num_inj {o : Nat} {a b : BitVec 64} (h : num o a = num o b) : a = b := (Ordm.code_inj o a b).1 (BitVec.eq_of_toNat_eq h)
theorem stand_cases (o : Nat) (a b : BitVec 64) : (num o a < num o b ∧ Ordm.stand o a b = -1) ∨ (num o b < num o a ∧ Ordm.stand o a b = 1) ∨ (a = b ∧ Ordm.stand o a b = 0) := by
  rcases Ordm.cmp_cases (Ordm.code o a) (Ordm.code o b) with ⟨h, e⟩ | ⟨h, e⟩ | ⟨h, e⟩
  · exact .inl ⟨h, e⟩
  · exact .inr (.inl ⟨h, e⟩)
  · exact .inr (.inr ⟨(Ordm.code_inj o a b).1 h, e⟩)
theorem stand_lt (o : Nat) (a b : BitVec 64) : Ordm.stand o a b < 0 ↔ num o a < num o b := by
  rcases stand_cases o a b with ⟨h, e⟩ | ⟨h, e⟩ | ⟨h, e⟩
  · rw [e]; exact ⟨fun _ => h, fun _ => by omega⟩
  · rw [e]; exact ⟨fun h' => by omega, fun h' => by omega⟩
  · rw [e, h]; exact ⟨fun h' => by omega, fun h' => by omega⟩
theorem stand_le (o : Nat) (a b : BitVec 64) : Ordm.stand o a b ≤ 0 ↔ num o a ≤ num o b := by
  rcases stand_cases o a b with ⟨h, e⟩ | ⟨h, e⟩ | ⟨h, e⟩
  · rw [e]; exact ⟨fun _ => by omega, fun _ => by omega⟩
  · rw [e]; exact ⟨fun h' => by omega, fun h' => by omega⟩
  · rw [e, h]; exact ⟨fun h' => by omega, fun h' => by omega⟩

/-- each key but the first stands behind the one ahead of it -/
def rises (o : Nat) : List Pr → Bool
  | a :: b :: r => decide (num o a.1 < num o b.1) && rises o (b :: r)
  | _ => true
theorem rises_next (o : Nat) : ∀ (l : List Pr), rises o l = true → ∀ i (h : i + 1 < l.length), num o l[i].1 < num o l[i + 1].1
  | [], _, i, h => by simp at h
  | [_], _, i, h => by simp at h
  | a :: b :: r, hr, i, h => by
    simp only [rises, Bool.and_eq_true, decide_eq_true_eq] at hr
    cases i with
    | zero => exact hr.1
    | succ i => exact rises_next o (b :: r) hr.2 i (by simpa using h)
theorem rises_of (o : Nat) : ∀ (l : List Pr), (∀ i (h : i + 1 < l.length), num o l[i].1 < num o l[i + 1].1) → rises o l = true
  | [], _ => rfl
  | [_], _ => rfl
  | a :: b :: r, h => by
    simp only [rises, Bool.and_eq_true, decide_eq_true_eq]
    exact ⟨h 0 (by simp), rises_of o (b :: r) fun i hi => h (i + 1) (by simpa using hi)⟩
theorem rises_lt {o : Nat} {l : List Pr} (hr : rises o l = true) (i j : Nat) (hij : i < j) (hj : j < l.length) : num o l[i].1 < num o l[j].1 := by
  induction j with
  | zero => omega
  | succ j ih =>
    have h1 := rises_next o l hr j hj
    rcases Nat.lt_or_ge i j with h | h
    · exact Nat.lt_trans (ih h (by omega)) h1
    · have : i = j := by omega
      subst this; exact h1
/-- whether a row may be -/
def mayB (o : Nat) (l : List Pr) : Bool := decide (1 ≤ o) && decide (o ≤ 7) && rises o l
theorem mayB_parts {o : Nat} {l : List Pr} (h : mayB o l = true) : 1 ≤ o ∧ o ≤ 7 ∧ rises o l = true := by
  unfold mayB at h
  simp only [Bool.and_eq_true, decide_eq_true_eq] at h
  exact ⟨h.1.1, h.1.2, h.2⟩
theorem mayB_mk {o : Nat} {l : List Pr} (h1 : 1 ≤ o) (h7 : o ≤ 7) (h : rises o l = true) : mayB o l = true := by
  unfold mayB; simp [h1, h7, h]

/-- where a key stands in a row: i pairs are ahead of it; those from j on are behind it; between them stands at most one pair, which has that key -/
structure At (o : Nat) (l : List Pr) (k : BitVec 64) (i j : Nat) : Prop where
  le : i ≤ j
  one : j ≤ i + 1
  len : j ≤ l.length
  low : ∀ t (h : t < l.length), t < i → num o l[t].1 < num o k
  high : ∀ t (h : t < l.length), j ≤ t → num o k < num o l[t].1
  mid : ∀ (h : i < l.length), i < j → l[i].1 = k
/-- how many pairs are ahead of a key -/
def pos (o : Nat) (k : BitVec 64) : List Pr → Nat
  | [] => 0
  | p :: r => if num o p.1 < num o k then pos o k r + 1 else 0
/-- how many are not behind it -/
def upto (o : Nat) (k : BitVec 64) : List Pr → Nat
  | [] => 0
  | p :: r => if num o p.1 ≤ num o k then upto o k r + 1 else 0
theorem pos_le (o : Nat) (k : BitVec 64) : ∀ l : List Pr, pos o k l ≤ l.length
  | [] => Nat.le_refl _
  | p :: r => by unfold pos; have := pos_le o k r; split <;> simp <;> omega
theorem pos_low (o : Nat) (k : BitVec 64) : ∀ (l : List Pr) (t : Nat) (h : t < l.length), t < pos o k l → num o l[t].1 < num o k
  | [], t, h, _ => by simp at h
  | p :: r, t, h, ht => by
    unfold pos at ht
    split at ht
    · next hp =>
      cases t with
      | zero => exact hp
      | succ t => exact pos_low o k r t (by simpa using h) (by omega)
    · omega
theorem pos_high (o : Nat) (k : BitVec 64) : ∀ (l : List Pr) (h : pos o k l < l.length), num o k ≤ num o l[pos o k l].1
  | [], h => by simp at h
  | p :: r, h => by
    by_cases hp : num o p.1 < num o k
    · have e : pos o k (p :: r) = pos o k r + 1 := by rw [pos, if_pos hp]
      have h' : pos o k r < r.length := by rw [e] at h; simpa using h
      have := pos_high o k r h'
      simp only [e, List.getElem_cons_succ]; exact this
    · have e : pos o k (p :: r) = 0 := by rw [pos, if_neg hp]
      simp only [e, List.getElem_cons_zero]; omega
theorem upto_le (o : Nat) (k : BitVec 64) : ∀ l : List Pr, upto o k l ≤ l.length
  | [] => Nat.le_refl _
  | p :: r => by unfold upto; have := upto_le o k r; split <;> simp <;> omega
theorem upto_low (o : Nat) (k : BitVec 64) : ∀ (l : List Pr) (t : Nat) (h : t < l.length), t < upto o k l → num o l[t].1 ≤ num o k
  | [], t, h, _ => by simp at h
  | p :: r, t, h, ht => by
    unfold upto at ht
    split at ht
    · next hp =>
      cases t with
      | zero => exact hp
      | succ t => exact upto_low o k r t (by simpa using h) (by omega)
    · omega
theorem upto_high (o : Nat) (k : BitVec 64) : ∀ (l : List Pr) (h : upto o k l < l.length), num o k < num o l[upto o k l].1
  | [], h => by simp at h
  | p :: r, h => by
    by_cases hp : num o p.1 ≤ num o k
    · have e : upto o k (p :: r) = upto o k r + 1 := by rw [upto, if_pos hp]
      have h' : upto o k r < r.length := by rw [e] at h; simpa using h
      have := upto_high o k r h'
      simp only [e, List.getElem_cons_succ]; exact this
    · have e : upto o k (p :: r) = 0 := by rw [upto, if_neg hp]
      simp only [e, List.getElem_cons_zero]; omega
theorem at_of {o : Nat} {l : List Pr} (hr : rises o l = true) (k : BitVec 64) : At o l k (pos o k l) (upto o k l) := by
  have p1 := pos_le o k l
  have u1 := upto_le o k l
  have hle : pos o k l ≤ upto o k l := by
    rcases Nat.lt_or_ge (upto o k l) (pos o k l) with h | h
    · have a := upto_high o k l (by omega)
      have b := pos_low o k l _ (by omega) h
      omega
    · exact h
  have hone : upto o k l ≤ pos o k l + 1 := by
    rcases Nat.lt_or_ge (pos o k l + 1) (upto o k l) with h | h
    · have a := upto_low o k l (pos o k l + 1) (by omega) h
      have b := pos_high o k l (by omega)
      have c := rises_next o l hr (pos o k l) (by omega)
      omega
    · exact h
  refine ⟨hle, hone, u1, pos_low o k l, fun t ht h => ?_, fun hi hij => ?_⟩
  · have a := upto_high o k l (by omega)
    rcases Nat.lt_or_ge (upto o k l) t with h' | h'
    · exact Nat.lt_trans a (rises_lt hr _ _ h' ht)
    · have : t = upto o k l := by omega
      subst this; exact a
  · have a := upto_low o k l (pos o k l) hi hij
    have b := pos_high o k l hi
    exact num_inj (o := o) (by omega)
theorem At.uniq {o : Nat} {l : List Pr} {k : BitVec 64} {i j i' j' : Nat} (h : At o l k i j) (h' : At o l k i' j') : i = i' ∧ j = j' := by
  have side : ∀ {i j i' j'}, At o l k i j → At o l k i' j' → ¬ i < i' := fun {i j i' j'} h h' hlt => by
    have l1 := h'.le
    have l2 := h'.len
    have a := h'.low i (by omega) hlt
    rcases Nat.lt_or_ge i j with hij | hij
    · have := h.mid (by omega) hij
      rw [this] at a; omega
    · have := h.high i (by omega) hij
      omega
  have side2 : ∀ {i j i' j'}, At o l k i j → At o l k i' j' → ¬ j < j' := fun {i j i' j'} h h' hlt => by
    have l1 := h'.le
    have l2 := h'.len
    have o1 := h'.one
    have a := h.high j (by omega) (Nat.le_refl _)
    rcases Nat.lt_or_ge j i' with hij | hij
    · have := h'.low j (by omega) hij
      omega
    · have e : j = i' := by omega
      subst e
      have := h'.mid (by omega) hlt
      rw [this] at a; omega
  have a := side h h'
  have b := side h' h
  have c := side2 h h'
  have d := side2 h' h
  omega
theorem At.is {o : Nat} {l : List Pr} {k : BitVec 64} {i j : Nat} (h : At o l k i j) (hi : i < l.length) : l[i].1 = k ↔ i < j := by
  refine ⟨fun e => ?_, h.mid hi⟩
  rcases Nat.lt_or_ge i j with hij | hij
  · exact hij
  · have := h.high i hi hij
    rw [e] at this; omega
theorem At.le_iff {o : Nat} {l : List Pr} {k : BitVec 64} {i j : Nat} (h : At o l k i j) (t : Nat) (ht : t < l.length) : num o l[t].1 ≤ num o k ↔ t < j := by
  refine ⟨fun e => ?_, fun e => ?_⟩
  · rcases Nat.lt_or_ge t j with hij | hij
    · exact hij
    · have := h.high t ht hij; omega
  · have h1 := h.one
    rcases Nat.lt_or_ge t i with hi | hi
    · have := h.low t ht hi; omega
    · have : t = i := by omega
      subst this
      rw [h.mid ht e]; omega
theorem At.lt_iff {o : Nat} {l : List Pr} {k : BitVec 64} {i j : Nat} (h : At o l k i j) (t : Nat) (ht : t < l.length) : num o l[t].1 < num o k ↔ t < i := by
  refine ⟨fun e => ?_, h.low t ht⟩
  rcases Nat.lt_or_ge t i with hij | hij
  · exact hij
  · rcases Nat.lt_or_ge t j with hj | hj
    · have h1 := h.one
      have : t = i := by omega
      subst this
      rw [h.mid ht hj] at e; omega
    · have := h.high t ht hj; omega
theorem At.key_iff {o : Nat} {l : List Pr} {k : BitVec 64} {i j : Nat} (h : At o l k i j) (t : Nat) (ht : t < l.length) : l[t].1 = k ↔ i ≤ t ∧ t < j := by
  refine ⟨fun e => ?_, fun ⟨a, b⟩ => ?_⟩
  · have a := h.le_iff t ht
    have b := h.lt_iff t ht
    rw [e] at a b
    have := a.1 (Nat.le_refl _)
    refine ⟨?_, this⟩
    rcases Nat.lt_or_ge t i with hi | hi
    · have := b.2 hi; omega
    · exact hi
  · have h1 := h.one
    have : t = i := by omega
    subst this
    exact h.mid ht b

/-! ### what is got, put, dropped -/
/-- the value at a place, 0 if none is -/
def valAt (l : List Pr) (i j : Nat) : BitVec 64 := if i < j then (l.getD i (0#64, 0#64)).2 else 0#64
def putAt (p : Nat) (l : List Pr) (x : Pr) (i j : Nat) : List Pr := l.take i ++ (x.1, if i < j then Foldm.cmb p (l.getD i (0#64, 0#64)).2 x.2 else x.2) :: l.drop j
def dropAt (l : List Pr) (i j : Nat) : List Pr := l.take i ++ l.drop j
def floorAt (l : List Pr) (j : Nat) : Pr := if 0 < j then l.getD (j - 1) (0#64, 0#64) else (0#64, 0#64)
def ceilAt (l : List Pr) (i : Nat) : Pr := l.getD i (0#64, 0#64)
theorem getD_at (l : List Pr) (i : Nat) (h : i < l.length) : l.getD i (0#64, 0#64) = l[i] := by simp [h]
/-- the pairs whose key is not that -/
theorem filter_drop {o : Nat} {k : BitVec 64} : ∀ {l : List Pr} {i j : Nat}, At o l k i j → l.filter (fun p => decide (p.1 ≠ k)) = dropAt l i j := fun {l i j} h => by
  unfold dropAt
  have e : l = l.take i ++ ((l.take j).drop i ++ l.drop j) := by
    have e1 : l.take i ++ (l.take j).drop i = l.take j := by
      have := List.take_append_drop i (l.take j)
      rw [List.take_take, Nat.min_eq_left h.le] at this
      exact this
    rw [← List.append_assoc, e1, List.take_append_drop]
  have h1 : ∀ p ∈ l.take i, p.1 ≠ k := fun p hp hk => by
    obtain ⟨t, ht, rfl⟩ := List.getElem_of_mem hp
    rw [List.length_take] at ht
    rw [List.getElem_take] at hk
    have := (h.key_iff t (by omega)).1 hk
    omega
  have h2 : ∀ p ∈ l.drop j, p.1 ≠ k := fun p hp hk => by
    obtain ⟨t, ht, rfl⟩ := List.getElem_of_mem hp
    rw [List.length_drop] at ht
    rw [List.getElem_drop] at hk
    have := (h.key_iff (j + t) (by omega)).1 hk
    omega
  have h3 : ∀ p ∈ (l.take j).drop i, p.1 = k := fun p hp => by
    obtain ⟨t, ht, rfl⟩ := List.getElem_of_mem hp
    rw [List.length_drop, List.length_take] at ht
    rw [List.getElem_drop, List.getElem_take]
    exact (h.key_iff (i + t) (by omega)).2 ⟨by omega, by omega⟩
  conv => lhs; rw [e]
  rw [List.filter_append, List.filter_append, List.filter_eq_self.2 (fun p hp => by simpa using h1 p hp), List.filter_eq_nil_iff.2 (fun p hp => by simpa using h3 p hp), List.filter_eq_self.2 (fun p hp => by simpa using h2 p hp), List.nil_append]

theorem rises_append {o : Nat} {a b : List Pr} (ha : rises o a = true) (hb : rises o b = true) (h : ∀ p ∈ a, ∀ q ∈ b, num o p.1 < num o q.1) : rises o (a ++ b) = true := by
  refine rises_of o _ fun i hi => ?_
  rw [List.length_append] at hi
  rcases Nat.lt_or_ge (i + 1) a.length with h1 | h1
  · rw [List.getElem_append_left (by omega), List.getElem_append_left h1]
    exact rises_next o a ha i h1
  · rcases Nat.lt_or_ge i a.length with h2 | h2
    · rw [List.getElem_append_left h2, List.getElem_append_right h1]
      exact h _ (List.getElem_mem _) _ (List.getElem_mem _)
    · rw [List.getElem_append_right h2, List.getElem_append_right h1]
      have := rises_next o b hb (i - a.length) (by omega)
      simp only [show i + 1 - a.length = i - a.length + 1 by omega]
      exact this
theorem rises_take {o : Nat} {l : List Pr} (h : rises o l = true) (i : Nat) : rises o (l.take i) = true := by
  refine rises_of o _ fun t ht => ?_
  rw [List.length_take] at ht
  rw [List.getElem_take, List.getElem_take]
  exact rises_next o l h t (by omega)
theorem rises_drop {o : Nat} {l : List Pr} (h : rises o l = true) (i : Nat) : rises o (l.drop i) = true := by
  refine rises_of o _ fun t ht => ?_
  rw [List.length_drop] at ht
  rw [List.getElem_drop, List.getElem_drop]
  exact rises_next o l h (i + t) (by omega)
theorem At.take_low {o : Nat} {l : List Pr} {k : BitVec 64} {i j : Nat} (h : At o l k i j) : ∀ p ∈ l.take i, num o p.1 < num o k := fun p hp => by
  obtain ⟨t, ht, rfl⟩ := List.getElem_of_mem hp
  rw [List.length_take] at ht
  rw [List.getElem_take]
  exact h.low t (by omega) (by omega)
theorem At.drop_high {o : Nat} {l : List Pr} {k : BitVec 64} {i j : Nat} (h : At o l k i j) : ∀ p ∈ l.drop j, num o k < num o p.1 := fun p hp => by
  obtain ⟨t, ht, rfl⟩ := List.getElem_of_mem hp
  rw [List.length_drop] at ht
  rw [List.getElem_drop]
  exact h.high _ (by omega) (by omega)
theorem rises_dropAt {o : Nat} {l : List Pr} {k : BitVec 64} {i j : Nat} (hr : rises o l = true) (h : At o l k i j) : rises o (dropAt l i j) = true :=
  rises_append (rises_take hr i) (rises_drop hr j) fun p hp q hq => Nat.lt_trans (h.take_low p hp) (h.drop_high q hq)
theorem rises_putAt {o p : Nat} {l : List Pr} {x : Pr} {i j : Nat} (hr : rises o l = true) (h : At o l x.1 i j) : rises o (putAt p l x i j) = true := by
  unfold putAt
  refine rises_append (rises_take hr i) ?_ fun a ha q hq => ?_
  · exact rises_append (a := [_]) rfl (rises_drop hr j) fun a ha q hq => by
      simp only [List.mem_singleton] at ha
      subst ha
      exact h.drop_high q hq
  · rcases List.mem_cons.1 hq with rfl | hq
    · exact h.take_low a ha
    · exact Nat.lt_trans (h.take_low a ha) (h.drop_high q hq)
theorem At.len_take {o : Nat} {l : List Pr} {k : BitVec 64} {i j : Nat} (h : At o l k i j) : (l.take i).length = i := by
  have := h.le
  have := h.len
  rw [List.length_take]; omega
theorem At.len_drop {o : Nat} {l : List Pr} {k : BitVec 64} {i j : Nat} (h : At o l k i j) : (dropAt l i j).length + j = l.length + i := by
  have a := h.le
  have b := h.len
  unfold dropAt
  rw [List.length_append, h.len_take, List.length_drop]; omega
theorem At.len_put {o p : Nat} {l : List Pr} {x : Pr} {i j : Nat} (h : At o l x.1 i j) : (putAt p l x i j).length + j = l.length + i + 1 := by
  have a := h.le
  have b := h.len
  unfold putAt
  rw [List.length_append, h.len_take, List.length_cons, List.length_drop]; omega

/-! ### as maps -/
/-- what a key has -/
def got (l : List Pr) (k : BitVec 64) : Option (BitVec 64) := (l.find? fun p => decide (p.1 = k)).map (·.2)
theorem got_append (a b : List Pr) (k : BitVec 64) : got (a ++ b) k = (got a k).or (got b k) := by
  unfold got
  rw [List.find?_append]
  cases a.find? fun p => decide (p.1 = k) <;> simp
theorem got_none {l : List Pr} {k : BitVec 64} (h : ∀ p ∈ l, p.1 ≠ k) : got l k = none := by
  unfold got
  rw [List.find?_eq_none.2 (fun p hp => by simpa using h p hp)]; rfl
theorem got_cons (p : Pr) (l : List Pr) (k : BitVec 64) : got (p :: l) k = if p.1 = k then some p.2 else got l k := by
  unfold got
  by_cases h : p.1 = k <;> simp [h]
theorem ne_of_num {o : Nat} {a b : BitVec 64} (h : num o a < num o b) : a ≠ b := fun e => by subst e; omega
/-- the parts of a row about a key -/
theorem At.parts {o : Nat} {l : List Pr} {k : BitVec 64} {i j : Nat} (h : At o l k i j) : (i < j ∧ ∃ v, (l.getD i (0#64, 0#64)) = (k, v) ∧ l = l.take i ++ (k, v) :: l.drop j) ∨ (¬ i < j ∧ l = l.take i ++ l.drop j) := by
  have a := h.le
  have b := h.len
  have c := h.one
  rcases Nat.lt_or_ge i j with hij | hij
  · have hi : i < l.length := by omega
    have hk := h.mid hi hij
    obtain rfl : j = i + 1 := by omega
    refine .inl ⟨hij, l[i].2, ?_, ?_⟩
    · rw [getD_at l i hi, ← hk]
    · have e : (k, l[i].2) = l[i] := by rw [← hk]
      rw [e]
      have := List.take_append_drop i l
      rw [List.drop_eq_getElem_cons hi] at this
      exact this.symm
  · obtain rfl : i = j := by omega
    exact .inr ⟨by omega, (List.take_append_drop i l).symm⟩
theorem At.got {o : Nat} {l : List Pr} {k : BitVec 64} {i j : Nat} (h : At o l k i j) : got l k = if i < j then some (valAt l i j) else none := by
  have n1 : Rowm.got (l.take i) k = none := got_none fun p hp => ne_of_num (h.take_low p hp)
  have n2 : Rowm.got (l.drop j) k = none := got_none fun p hp e => by have := h.drop_high p hp; rw [e] at this; omega
  rcases h.parts with ⟨hij, v, hv, e⟩ | ⟨hij, e⟩
  · rw [if_pos hij]
    conv => lhs; rw [e]
    rw [got_append, n1, got_cons, if_pos rfl]
    unfold valAt
    rw [if_pos hij, hv]; rfl
  · rw [if_neg hij]
    conv => lhs; rw [e]
    rw [got_append, n1, n2]; rfl
theorem got_drop_same {o : Nat} {l : List Pr} {k : BitVec 64} {i j : Nat} (h : At o l k i j) : got (dropAt l i j) k = none := by
  have n1 : Rowm.got (l.take i) k = none := got_none fun p hp => ne_of_num (h.take_low p hp)
  have n2 : Rowm.got (l.drop j) k = none := got_none fun p hp e => by have := h.drop_high p hp; rw [e] at this; omega
  unfold dropAt
  rw [got_append, n1, n2]; rfl
theorem got_drop_other {o : Nat} {l : List Pr} {k q : BitVec 64} {i j : Nat} (h : At o l k i j) (hq : k ≠ q) : got (dropAt l i j) q = got l q := by
  unfold dropAt
  rcases h.parts with ⟨hij, v, hv, e⟩ | ⟨hij, e⟩
  · conv => rhs; rw [e]
    rw [got_append, got_append, got_cons, if_neg hq]
  · conv => rhs; rw [e]
theorem got_put_same {o p : Nat} {l : List Pr} {x : Pr} {i j : Nat} (h : At o l x.1 i j) : got (putAt p l x i j) x.1 = some (if i < j then Foldm.cmb p (valAt l i j) x.2 else x.2) := by
  have n1 : Rowm.got (l.take i) x.1 = none := got_none fun p hp => ne_of_num (h.take_low p hp)
  unfold putAt
  rw [got_append, n1, got_cons, if_pos rfl]
  unfold valAt
  by_cases hij : i < j <;> simp [hij]
theorem got_put_other {o p : Nat} {l : List Pr} {x : Pr} {q : BitVec 64} {i j : Nat} (h : At o l x.1 i j) (hq : x.1 ≠ q) : got (putAt p l x i j) q = got l q := by
  unfold putAt
  rcases h.parts with ⟨hij, v, hv, e⟩ | ⟨hij, e⟩
  · conv => rhs; rw [e]
    rw [got_append, got_append, got_cons, if_neg hq, got_cons, if_neg hq]
  · conv => rhs; rw [e]
    rw [got_append, got_append, got_cons, if_neg hq]
end Go.Proofs.Rowm
