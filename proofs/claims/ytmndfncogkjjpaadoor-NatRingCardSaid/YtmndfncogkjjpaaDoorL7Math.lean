/- The plain mathematics of package nat: digits of a number to a base; no program in it. -/
import Derived.Lib.Hide
namespace Go.Proofs.Natm

/-- the first i digits of v to the base B -/
def digs (B v i : Nat) : List Nat := (List.range i).map fun j => v / B ^ j % B
/-- how many digits it has -/
def size (B v : Nat) : Nat := if h : 2 ≤ B ∧ v ≠ 0 then size B (v / B) + 1 else 0
termination_by v
decreasing_by exact Nat.div_lt_self (Nat.pos_of_ne_zero h.2) (by omega)
/-- its digits, the lowest one first, with no nought at the end -/
def dig (B v : Nat) : List Nat := digs B v (size B v)
/-- the number of digits -/
def val (B : Nat) : List Nat → Nat
  | [] => 0
  | d :: r => d + B * val B r

theorem digs_len (B v i : Nat) : (digs B v i).length = i := by simp [digs]
theorem digs_get (B v i j : Nat) (h : j < i) : (digs B v i)[j]? = some (v / B ^ j % B) := by simp [digs, h]
theorem digs_next (B v i : Nat) : digs B v (i + 1) = digs B v i ++ [v / B ^ i % B] := by simp [digs, List.range_succ]
theorem digs_take (B v i k : Nat) (h : k ≤ i) : (digs B v i).take k = digs B v k := by
  unfold digs
  rw [← List.map_take, List.take_range, Nat.min_eq_left h]
theorem digs_lt {B v i d : Nat} (hB : 2 ≤ B) (h : d ∈ digs B v i) : d < B := by
  simp only [digs, List.mem_map] at h
  obtain ⟨j, _, rfl⟩ := h
  exact Nat.mod_lt _ (by omega)
theorem size_zero (B : Nat) : size B 0 = 0 := by unfold size; simp
theorem val_lt {B : Nat} {l : List Nat} (h : ∀ d ∈ l, d < B) : val B l < B ^ l.length := by
  induction l with
  | nil => simp [val]
  | cons d r ih =>
    have h1 := ih fun x hx => h x (List.mem_cons_of_mem _ hx)
    have h2 := h d List.mem_cons_self
    simp only [val, List.length_cons, Nat.pow_succ]
    have h3 : B * val B r + B ≤ B * B ^ r.length := by rw [← Nat.mul_succ]; exact Nat.mul_le_mul_left _ h1
    have h4 : B ^ r.length * B = B * B ^ r.length := Nat.mul_comm _ _
    omega
theorem val_digs {B : Nat} (v : Nat) : ∀ i, val B (digs B v i) = v % B ^ i := by
  intro i
  induction i generalizing v with
  | zero => simp [digs, val, Nat.mod_one]
  | succ i ih =>
    have e : digs B v (i + 1) = v % B :: digs B (v / B) i := by
      simp only [digs, List.range_succ_eq_map, List.map_cons, List.map_map, Nat.pow_zero, Nat.div_one]
      congr 1
      refine List.map_congr_left fun j _ => ?_
      show v / B ^ (j + 1) % B = v / B / B ^ j % B
      rw [Nat.div_div_eq_div_mul, Nat.pow_succ, Nat.mul_comm (B ^ j) B]
    rw [e]
    simp only [val]
    rw [ih, Nat.pow_succ, Nat.mul_comm (B ^ i) B, Nat.mod_mul]
section
variable {B : Nat} (hB : 2 ≤ B)
include hB
theorem size_pos {v : Nat} (h : v ≠ 0) : size B v = size B (v / B) + 1 := by
  rw [size]
  exact dif_pos ⟨hB, h⟩
theorem lt_size (v : Nat) : v < B ^ size B v := by
  induction v using Nat.strongRecOn with
  | _ v ih =>
    by_cases h : v = 0
    · subst h; rw [size_zero B]; simp
    · rw [size_pos hB h, Nat.pow_succ]
      exact (Nat.div_lt_iff_lt_mul (by omega)).1 (ih _ (Nat.div_lt_self (Nat.pos_of_ne_zero h) (by omega)))
theorem size_le {v k : Nat} (h : v < B ^ k) : size B v ≤ k := by
  induction k generalizing v with
  | zero => obtain rfl : v = 0 := by simpa using h
            rw [size_zero B]; exact Nat.le_refl _
  | succ k ih =>
    by_cases h0 : v = 0
    · subst h0; rw [size_zero B]; exact Nat.zero_le _
    · rw [size_pos hB h0]
      have := ih (v := v / B) ((Nat.div_lt_iff_lt_mul (by omega)).2 (by rw [← Nat.pow_succ]; exact h))
      omega
theorem size_iff {v k : Nat} : size B v ≤ k ↔ v < B ^ k :=
  ⟨fun h => Nat.lt_of_lt_of_le (lt_size hB v) (Nat.pow_le_pow_right (by omega) h), size_le hB⟩
/-- the last digit is no nought -/
theorem top {v k : Nat} (h : size B v = k + 1) : v / B ^ k % B ≠ 0 := by
  have h1 := lt_size hB v
  rw [h, Nat.pow_succ] at h1
  have h2 : ¬ v < B ^ k := fun hh => by have := size_le hB hh; omega
  have hp : 0 < B ^ k := Nat.pow_pos (by omega)
  have h3 : v / B ^ k < B := (Nat.div_lt_iff_lt_mul hp).2 (by rw [Nat.mul_comm]; exact h1)
  have h4 : 0 < v / B ^ k := Nat.div_pos (by omega) hp
  rw [Nat.mod_eq_of_lt h3]
  omega
/-- beyond the last digit there are noughts -/
theorem beyond {v j : Nat} (h : size B v ≤ j) : v / B ^ j = 0 := Nat.div_eq_of_lt ((size_iff hB).1 h)
theorem digs_val {l : List Nat} (h : ∀ d ∈ l, d < B) : digs B (val B l) l.length = l := by
  induction l with
  | nil => rfl
  | cons d r ih =>
    have h1 := ih fun x hx => h x (List.mem_cons_of_mem _ hx)
    have h2 := h d List.mem_cons_self
    have h3 : (d + B * val B r) / B = val B r := by rw [Nat.add_mul_div_left _ _ (by omega), Nat.div_eq_of_lt h2, Nat.zero_add]
    simp only [val, List.length_cons, digs, List.range_succ_eq_map, List.map_cons, List.map_map]
    congr 1
    · rw [Nat.pow_zero, Nat.div_one, Nat.add_mul_mod_self_left, Nat.mod_eq_of_lt h2]
    · refine Eq.trans ?_ h1
      simp only [digs]
      refine List.map_congr_left fun j _ => ?_
      show (d + B * val B r) / B ^ (j + 1) % B = _
      rw [Nat.pow_succ, Nat.mul_comm (B ^ j) B, ← Nat.div_div_eq_div_mul, h3]
/-- a row of digits with no nought at the end is that of its number -/
theorem dig_val {l : List Nat} (h : ∀ d ∈ l, d < B) (ht : ∀ d, l.getLast? = some d → d ≠ 0) : dig B (val B l) = l := by
  have hs : size B (val B l) = l.length := by
    refine Nat.le_antisymm (size_le hB (val_lt h)) ?_
    cases l with
    | nil => exact Nat.zero_le _
    | cons d r =>
      have h1 : ¬ size B (val B (d :: r)) ≤ r.length := fun hh => by
        have h2 := beyond hB hh
        have h3 := digs_get B (val B (d :: r)) (r.length + 1) r.length (Nat.lt_succ_self _)
        have h4 := digs_val hB h
        rw [List.length_cons] at h4
        rw [h4, h2, Nat.zero_mod] at h3
        exact ht 0 (by rw [List.getLast?_eq_getElem?]; exact h3) rfl
      simp only [List.length_cons]
      omega
  unfold dig
  rw [hs]
  exact digs_val hB h
theorem dig_last (v d : Nat) (h : (dig B v).getLast? = some d) : d ≠ 0 := by
  unfold dig at h
  cases hs : size B v with
  | zero => rw [hs] at h; simp [digs] at h
  | succ k =>
    rw [hs, digs_next] at h
    simp at h
    subst h
    exact top hB hs
theorem val_dig (v : Nat) : val B (dig B v) = v := by
  unfold dig
  rw [val_digs, Nat.mod_eq_of_lt (lt_size hB v)]
theorem dig_inj {u v : Nat} (h : dig B u = dig B v) : u = v := by rw [← val_dig hB u, h, val_dig hB v]
end
theorem dig_len (B v : Nat) : (dig B v).length = size B v := digs_len _ _ _

/-- the base of the words, and of the document's bytes -/
abbrev Wd : Nat := 4294967296
/-- the bound of numbers -/
def Top : Nat := Wd ^ 128
theorem words_bytes (k : Nat) : Wd ^ k = 256 ^ (4 * k) := by
  rw [Nat.pow_mul]
/-- which words may be a number -/
def mayL (l : List Nat) : Bool := decide (l.length ≤ 128) && (decide (l.length = 0) || decide (l.getLast? ≠ some 0))
/-- what a number comes to, if it fits -/
def fitL (v : Nat) : List Nat := if v < Top then dig Wd v else []
def fitE (v : Nat) : Int := if v < Top then 0 else 5
def cmpN (a b : Nat) : Int := if a < b then -1 else if b < a then 1 else 0
/-- the decimal digits -/
def ten (v : Nat) : List Nat := if v = 0 then [0] else dig 10 v
def fib : Nat → Nat
  | 0 => 0
  | 1 => 1
  | n + 2 => fib (n + 1) + fib n
theorem may_dig {l : List Nat} (h : mayL l = true) (hw : ∀ d ∈ l, d < Wd) : dig Wd (val Wd l) = l ∧ val Wd l < Top := by
  simp only [mayL, Bool.and_eq_true, Bool.or_eq_true, decide_eq_true_eq] at h
  refine ⟨dig_val (by decide) hw fun d hd h0 => ?_, Nat.lt_of_lt_of_le (val_lt hw) (Nat.pow_le_pow_right (by decide) h.1)⟩
  subst h0
  rcases h.2 with h2 | h2
  · rw [List.eq_nil_of_length_eq_zero h2] at hd; cases hd
  · exact h2 hd
theorem dig_may {v : Nat} (h : v < Top) : mayL (dig Wd v) = true := by
  simp only [mayL, Bool.and_eq_true, Bool.or_eq_true, decide_eq_true_eq]
  exact ⟨by rw [dig_len]; exact size_le (by decide) h, .inr fun e => dig_last (by decide) v 0 e rfl⟩
theorem dig_words (v : Nat) : ∀ d ∈ dig Wd v, d < Wd := fun _ h => digs_lt (by decide) h
theorem fib_le : ∀ n, fib n ≤ 2 ^ n ∧ fib (n + 1) ≤ 2 ^ (n + 1)
  | 0 => ⟨by decide, by decide⟩
  | n + 1 => by
    obtain ⟨h1, h2⟩ := fib_le n
    refine ⟨h2, ?_⟩
    show fib (n + 1) + fib n ≤ _
    rw [Nat.pow_succ 2 (n + 1)]
    have : 2 ^ n ≤ 2 ^ (n + 1) := Nat.pow_le_pow_right (by decide) (Nat.le_succ _)
    omega
end Go.Proofs.Natm
