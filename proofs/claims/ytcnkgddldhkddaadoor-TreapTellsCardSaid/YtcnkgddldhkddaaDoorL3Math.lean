/- The plain mathematics of layer 3: policies, what comes of many values, sums. No program. -/
namespace Go.Proofs.Foldm

abbrev Word := BitVec 64

/-- what comes of two values, by a policy -/
def cmb (p : Nat) (a b : Word) : Word := if p = 1 then a else if p = 2 then b else a + b
/-- what comes of values, one behind the other -/
def run (p : Nat) : List Word → Word
  | [] => 0#64
  | x :: r => r.foldl (cmb p) x
def sum (l : List Word) : Word := l.foldl (· + ·) 0#64
def sums (l : List Word) : List Word := (List.range l.length).map fun i => sum (l.take (i + 1))

theorem cmb_assoc (p : Nat) (a b c : Word) : cmb p (cmb p a b) c = cmb p a (cmb p b c) := by
  unfold cmb
  split
  · rfl
  · split
    · rfl
    · exact BitVec.add_assoc a b c
theorem foldl_cmb (p : Nat) (l : List Word) (a b : Word) : l.foldl (cmb p) (cmb p a b) = cmb p a (l.foldl (cmb p) b) := by
  induction l generalizing b with
  | nil => rfl
  | cons x r ih => rw [List.foldl_cons, List.foldl_cons, cmb_assoc, ih]
theorem run_append (p : Nat) (a b : List Word) (ha : a ≠ []) (hb : b ≠ []) : run p (a ++ b) = cmb p (run p a) (run p b) := by
  match a, b, ha, hb with
  | x :: a, y :: b, _, _ =>
    show (a ++ y :: b).foldl (cmb p) x = _
    rw [List.foldl_append, List.foldl_cons, foldl_cmb]
    rfl
theorem sum_nil : sum [] = 0#64 := rfl
theorem foldl_add (l : List Word) (a : Word) : l.foldl (· + ·) a = a + sum l := by
  unfold sum
  induction l generalizing a with
  | nil => simp
  | cons x r ih => rw [List.foldl_cons, List.foldl_cons, ih, ih (0#64 + x), BitVec.zero_add, BitVec.add_assoc]
theorem sum_append (a b : List Word) : sum (a ++ b) = sum a + sum b := by
  show (a ++ b).foldl (· + ·) 0#64 = _
  rw [List.foldl_append, foldl_add]; rfl
theorem sum_snoc (l : List Word) (x : Word) : sum (l ++ [x]) = sum l + x := by
  rw [sum_append]; simp [sum]
theorem sum_take (l : List Word) (k : Nat) (h : k < l.length) : sum (l.take (k + 1)) = sum (l.take k) + l[k] := by
  rw [List.take_succ_eq_append_getElem h, sum_snoc]
theorem run_take (p : Nat) (l : List Word) (k : Nat) (h0 : 0 < k) (h : k < l.length) : run p (l.take (k + 1)) = cmb p (run p (l.take k)) l[k] := by
  rw [List.take_succ_eq_append_getElem h, run_append p _ _ (by intro e; have := congrArg List.length e; rw [List.length_take, List.length_nil] at this; omega) (by simp)]
  rfl
theorem run_one (p : Nat) (l : List Word) (h : 0 < l.length) : run p (l.take 1) = l[0] := by
  match l, h with
  | x :: r, _ => rfl
theorem run_sum (l : List Word) (h : l ≠ []) : run 3 l = sum l := by
  match l, h with
  | x :: r, _ =>
    show r.foldl (cmb 3) x = (x :: r).foldl (· + ·) 0#64
    rw [List.foldl_cons, BitVec.zero_add]
    rfl
theorem run_left (l : List Word) (h : 0 < l.length) : run 1 l = l[0] := by
  match l, h with
  | x :: r, _ =>
    show r.foldl (cmb 1) x = x
    induction r generalizing x with
    | nil => rfl
    | cons y r ih => rw [List.foldl_cons]; exact ih x (by simp)
theorem run_right (l : List Word) (h : 0 < l.length) : run 2 l = l[l.length - 1] := by
  rcases List.eq_nil_or_concat l with e | ⟨r, x, e⟩
  · subst e; simp at h
  · subst e
    simp
    rcases r with _ | ⟨y, r⟩
    · rfl
    · rw [run_append 2 _ _ (by simp) (by simp)]; rfl

theorem sums_length (l : List Word) : (sums l).length = l.length := by simp [sums]
theorem sums_at (l : List Word) (k : Nat) (h : k < l.length) : (sums l)[k]? = some (sum (l.take (k + 1))) := by
  simp [sums, h]

/-- the sum of values of which one is another one -/
theorem sum_set (l : List Word) (k : Nat) (v : Word) (h : k < l.length) : sum (l.set k v) = sum l - l[k] + v := by
  induction l generalizing k with
  | nil => simp at h
  | cons x r ih =>
    have hs : ∀ (y : Word) (m : List Word), sum (y :: m) = y + sum m := fun y m => sum_append [y] m |>.trans (by simp [sum])
    match k with
    | 0 => rw [List.set_cons_zero, hs, hs]; simp only [List.getElem_cons_zero]; rw [BitVec.add_comm x, BitVec.add_sub_cancel, BitVec.add_comm]
    | k + 1 =>
      rw [List.set_cons_succ, hs, hs, ih k (by simpa using h)]
      simp only [List.getElem_cons_succ]
      generalize r[k]'(by simpa using h) = z
      rw [BitVec.sub_eq_add_neg, BitVec.sub_eq_add_neg]
      ac_rfl
/-- by sums the order of values says nothing: two change places -/
theorem sum_swap (l : List Word) (x y : Nat) (hx : x < l.length) (hy : y < l.length) : sum ((l.set x l[y]).set y l[x]) = sum l := by
  rw [sum_set _ y _ (by simpa using hy), sum_set l x _ hx]
  have : (l.set x l[y])[y]'(by simpa using hy) = if x = y then l[y] else l[y] := by
    rw [List.getElem_set]
  rw [this]
  have e : (if x = y then l[y] else l[y]) = l[y] := by split <;> rfl
  rw [e]
  generalize l[x] = a
  generalize l[y] = b
  generalize sum l = s
  rw [BitVec.sub_eq_add_neg, BitVec.sub_eq_add_neg]
  have h1 : s + -a + b + -b + a = s + (-a + a) + (b + -b) := by ac_rfl
  rw [h1, BitVec.add_right_neg, BitVec.add_comm (-a), BitVec.add_right_neg]; simp
end Go.Proofs.Foldm
