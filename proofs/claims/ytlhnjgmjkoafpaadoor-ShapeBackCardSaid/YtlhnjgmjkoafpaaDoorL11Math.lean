/- The plain mathematics of layer 11: trees as lines, byte by byte, and lines read; no program in it. -/
import Derived.Test.YtlhnjgmjkoafpaaDoorL10Math
import Derived.Lib.ItoaNum
import Derived.Lib.ParseIntBCases
namespace Go.Proofs.Treem
open Go.Lib

/-- a number's numeral, a tag's -/
def num (b : BitVec 64) : List UInt8 := itoa b.toInt
def unum (b : BitVec 64) : List UInt8 := decDigits b.toNat
/-- what stands behind the value -/
def tagL (g : BitVec 64) : List UInt8 := if g = 0#64 then [] else 35 :: unum g
/-- a tree's line -/
def Tr.line : Tr → List UInt8
  | .e => [46]
  | .n l k v g r => 40 :: (l.line ++ 32 :: (num k ++ 58 :: (num v ++ (tagL g ++ 32 :: (r.line ++ [41])))))
/-- bytes of a numeral -/
def isW (c : UInt8) : Bool := c == 45 || (decide (48 ≤ c.toNat) && decide (c.toNat ≤ 57))
def wordL (s : List UInt8) : List UInt8 := s.takeWhile isW
/-- what is read of a numeral, be it one or not -/
def pI (s : List UInt8) : BitVec 64 := match parseIntB 64 s with
  | .ok v => BitVec.ofInt 64 v
  | .syntax => 0#64
  | .range => BitVec.ofInt 64 (intSat 64 s)
def pU (s : List UInt8) : BitVec 64 := match parseUintB 64 s with
  | .ok v => BitVec.ofNat 64 v
  | .syntax => 0#64
  | .range => BitVec.ofNat 64 18446744073709551615
/-- a tag, and what stands behind it -/
def tagOf : List UInt8 → List UInt8 × List UInt8
  | 35 :: r => (wordL r, r.drop (wordL r).length)
  | r => ([48], r)
/-- behind what is right: the closing bracket -/
def tk4 (a : Tr) (k v g : List UInt8) (b : Tr) (rb : List UInt8) : Option (Tr × List UInt8) := match rb with
  | [] => none
  | x :: e => if x = 41 then some (.n a (pI k) (pI v) (pU g) b, e) else none
/-- the steps of reading a node, one by one; rec: how a side is read -/
def tk3 (rec : List UInt8 → Option (Tr × List UInt8)) (a : Tr) (k v g : List UInt8) (r5 : List UInt8) : Option (Tr × List UInt8) := match r5 with
  | [] => none
  | u :: r6 => if u = 32 then match rec r6 with
      | none => none
      | some (b, rb) => tk4 a k v g b rb
    else none
def tk2 (rec : List UInt8 → Option (Tr × List UInt8)) (a : Tr) (k : List UInt8) (r2 : List UInt8) : Option (Tr × List UInt8) := match r2 with
  | [] => none
  | y :: r3 => if y = 58 then tk3 rec a k (wordL r3) (tagOf (r3.drop (wordL r3).length)).1 (tagOf (r3.drop (wordL r3).length)).2 else none
def tk1 (rec : List UInt8 → Option (Tr × List UInt8)) (a : Tr) (ra : List UInt8) : Option (Tr × List UInt8) := match ra with
  | [] => none
  | x :: r1 => if x = 32 then tk2 rec a (wordL r1) (r1.drop (wordL r1).length) else none
def tk0 (rec : List UInt8 → Option (Tr × List UInt8)) (o : Option (Tr × List UInt8)) : Option (Tr × List UInt8) := match o with
  | none => none
  | some (a, ra) => tk1 rec a ra
/-- a line at the front of a text, no deeper than that, and what stands behind it -/
def tk : Nat → List UInt8 → Option (Tr × List UInt8)
  | _, [] => none
  | 0, c :: s => if c = 46 then some (.e, s) else none
  | d + 1, c :: s =>
    if c = 46 then some (.e, s)
    else if c = 40 then tk0 (tk d) (tk d s)
    else none
theorem tk_dot (d : Nat) (s : List UInt8) : tk d (46 :: s) = some (.e, s) := by cases d <;> simp [tk]
theorem tk_deep (d : Nat) (s : List UInt8) : tk (d + 1) (40 :: s) = tk0 (tk d) (tk d s) := by
  rw [tk, if_neg (by decide), if_pos rfl]
theorem tagOf_len (l : List UInt8) : (tagOf l).2.length ≤ l.length := by
  unfold tagOf
  split
  · simp only [List.length_drop, List.length_cons]; omega
  · exact Nat.le_refl _
theorem tk_no (d : Nat) (c : UInt8) (s : List UInt8) (h1 : c ≠ 46) (h2 : c ≠ 40) : tk d (c :: s) = none := by
  cases d with
  | zero => rw [tk, if_neg h1]
  | succ d => rw [tk, if_neg h1, if_neg h2]
theorem dec_pos (u : Nat) : decDigits u ≠ [] := fun h => by
  have := decDigits_length u
  rw [h] at this
  have := nDigits_pos u
  simp at *; omega
theorem digit_nat {d : Nat} (h : d < 10) : (UInt8.ofNat (48 + d)).toNat = 48 + d := by
  rw [UInt8.toNat_ofNat']; omega
theorem parse_dec (M : Nat) (hM : M ≤ 18446744073709551615) (u : Nat) : u ≤ M → ∀ l, parseUintM M 0 (decDigits u ++ l) = parseUintM M u l := by
  induction u using Nat.strongRecOn with
  | _ u ih =>
    intro hu l
    by_cases h : u < 10
    · rw [decDigits_one h]
      show parseUintM M 0 (UInt8.ofNat (48 + u) :: l) = _
      rw [parseUintM, digit_nat h, if_pos (by omega), if_neg (by omega), if_neg (by omega)]
      congr 1; omega
    · rw [decDigits, dif_neg h, List.append_assoc, ih (u / 10) (by omega) (by omega)]
      show parseUintM M (u / 10) (UInt8.ofNat (48 + u % 10) :: l) = _
      rw [parseUintM, digit_nat (by omega), if_pos (by omega), if_neg (by omega), if_neg (by omega)]
      congr 1; omega
theorem parseU_dec (u : Nat) (h : u ≤ 18446744073709551615) : parseUintB 64 (decDigits u) = .ok u := by
  have := parse_dec (2 ^ 64 - 1) (by decide) u (by simpa using h) []
  rw [List.append_nil] at this
  rw [parseUintB, if_neg (dec_pos u), this]; rfl
theorem dec_head (u : Nat) : ∃ c r, decDigits u = c :: r ∧ 48 ≤ c.toNat ∧ c.toNat ≤ 57 := by
  induction u using Nat.strongRecOn with
  | _ u ih =>
    by_cases h : u < 10
    · exact ⟨_, [], decDigits_one h, by rw [digit_nat h]; omega, by rw [digit_nat h]; omega⟩
    · obtain ⟨c, r, h1, h2, h3⟩ := ih (u / 10) (by omega)
      exact ⟨c, r ++ [UInt8.ofNat (48 + u % 10)], by rw [decDigits, dif_neg h, h1]; rfl, h2, h3⟩
theorem parseI_num (n : Int) (h0 : -9223372036854775808 ≤ n) (h1 : n ≤ 9223372036854775807) : parseIntB 64 (itoa n) = .ok n := by
  by_cases hn : n < 0
  · rw [itoa, if_pos hn, parseIntB_minus, parseU_dec _ (by omega), signedC, if_neg (by simp; omega)]
    congr 1; omega
  · obtain ⟨c, r, h2, h3, h4⟩ := dec_head n.toNat
    rw [itoa, if_neg hn, h2, parseIntB_plain 64 c r (by omega) (by omega), ← h2, parseU_dec _ (by omega), signlessC, if_neg (by simp; omega)]
    congr 1; omega
theorem pI_num (b : BitVec 64) : pI (num b) = b := by
  have h1 : -9223372036854775808 ≤ b.toInt := by simpa using BitVec.le_toInt (x := b)
  have h2 : b.toInt < 9223372036854775808 := by simpa using BitVec.toInt_lt (x := b)
  rw [pI, num, parseI_num _ h1 (by omega)]
  exact BitVec.ofInt_toInt
theorem pU_num (b : BitVec 64) : pU (unum b) = b := by
  have h2 := b.isLt
  rw [pU, unum, parseU_dec _ (by omega)]
  show BitVec.ofNat 64 b.toNat = b
  simp
theorem dec_isW (u : Nat) : ∀ c ∈ decDigits u, isW c = true := by
  induction u using Nat.strongRecOn with
  | _ u ih =>
    intro c hc
    have hd : ∀ d, d < 10 → isW (UInt8.ofNat (48 + d)) = true := fun d hd => by
      simp only [isW, digit_nat hd, Bool.or_eq_true, Bool.and_eq_true, decide_eq_true_eq]
      right; omega
    by_cases h : u < 10
    · rw [decDigits_one h] at hc
      rw [List.mem_singleton.1 hc]; exact hd u h
    · rw [decDigits, dif_neg h, List.mem_append] at hc
      rcases hc with hc | hc
      · exact ih (u / 10) (by omega) c hc
      · rw [List.mem_singleton.1 hc]; exact hd _ (by omega)
theorem num_isW (b : BitVec 64) : ∀ c ∈ num b, isW c = true := by
  intro c hc
  simp only [num, itoa] at hc
  split at hc
  · rcases List.mem_cons.1 hc with rfl | hc
    · rfl
    · exact dec_isW _ c hc
  · exact dec_isW _ c hc
theorem word_of {a : List UInt8} (h : ∀ c ∈ a, isW c = true) {c : UInt8} (hc : isW c = false) (r : List UInt8) : wordL (a ++ c :: r) = a := by
  induction a with
  | nil => simp [wordL, hc]
  | cons x a ih =>
    have h1 := h x (List.mem_cons_self ..)
    have h2 := ih (fun y hy => h y (List.mem_cons_of_mem _ hy))
    simp only [wordL, List.cons_append, List.takeWhile_cons, h1, if_true] at h2 ⊢
    rw [h2]
theorem tag_of (g : BitVec 64) (r : List UInt8) : (tagOf (tagL g ++ 32 :: r)).2 = 32 :: r ∧ pU (tagOf (tagL g ++ 32 :: r)).1 = g := by
  by_cases h : g = 0#64
  · rw [tagL, if_pos h, h]
    refine ⟨rfl, ?_⟩
    show pU [48] = 0#64
    decide
  · rw [tagL, if_neg h]
    have hw : wordL (unum g ++ 32 :: r) = unum g := word_of (dec_isW _) rfl r
    simp only [List.cons_append, tagOf, hw, List.drop_left]
    exact ⟨trivial, pU_num g⟩
/-- a line is read as the tree that it is of -/
theorem tk_line : ∀ (t : Tr) (d : Nat) (rest : List UInt8), t.high ≤ d → tk d (t.line ++ rest) = some (t, rest)
  | .e, 0, _, _ => rfl
  | .e, _ + 1, _, _ => rfl
  | .n l k v g r, 0, _, h => by simp [Tr.high] at h
  | .n l k v g r, d + 1, rest, h => by
    rw [Tr.high] at h
    have hl := tk_line l d (32 :: (num k ++ 58 :: (num v ++ (tagL g ++ 32 :: (r.line ++ 41 :: rest))))) (by omega)
    have hr := tk_line r d (41 :: rest) (by omega)
    have e0 : (Tr.n l k v g r).line ++ rest = 40 :: (l.line ++ 32 :: (num k ++ 58 :: (num v ++ (tagL g ++ 32 :: (r.line ++ 41 :: rest))))) := by
      simp only [Tr.line, List.cons_append, List.append_assoc, List.nil_append]
    have hk : wordL (num k ++ 58 :: (num v ++ (tagL g ++ 32 :: (r.line ++ 41 :: rest)))) = num k := word_of (num_isW k) rfl _
    have hv : wordL (num v ++ (tagL g ++ 32 :: (r.line ++ 41 :: rest))) = num v := by
      by_cases hg : g = 0#64
      · rw [tagL, if_pos hg]; exact word_of (num_isW v) rfl _
      · rw [tagL, if_neg hg]; exact word_of (num_isW v) rfl _
    obtain ⟨t1, t2⟩ := tag_of g (r.line ++ 41 :: rest)
    rw [e0, tk_deep d, hl]
    simp only [tk0, tk1, if_true, hk, List.drop_left, tk2, hv, t1, tk3, hr, tk4, t2, pI_num]
/-- what is read is no deeper than asked -/
theorem tk_parts {d : Nat} {s : List UInt8} {t : Tr} {rest : List UInt8} (h : tk d s = some (t, rest)) :
    (t = .e ∧ s.length = rest.length + 1) ∨ ∃ d', d = d' + 1 ∧ ∃ c s1 a ra b r6 k v g, s = c :: s1 ∧ tk d' s1 = some (a, ra) ∧ tk d' r6 = some (b, 41 :: rest) ∧ r6.length < ra.length ∧ t = .n a k v g b := by
  cases s with
  | nil => cases d <;> cases h
  | cons c s =>
    by_cases h1 : c = 46
    · rw [h1, tk_dot] at h
      cases h
      exact .inl ⟨rfl, by simp⟩
    · by_cases h2 : c = 40
      · cases d with
        | zero => rw [tk, if_neg h1] at h; cases h
        | succ d =>
          refine .inr ⟨d, rfl, c, s, ?_⟩
          cases ho : tk d s with
          | none => rw [h2, tk_deep d, ho] at h; cases h
          | some p =>
            obtain ⟨a, ra⟩ := p
            rw [h2, tk_deep d, ho] at h
            simp only [tk0, tk1] at h
            cases ra with
            | nil => cases h
            | cons x r1 =>
              simp only at h
              split at h
              · simp only [tk2] at h
                cases hr2 : r1.drop (wordL r1).length with
                | nil => rw [hr2] at h; cases h
                | cons y r3 =>
                  rw [hr2] at h
                  simp only at h
                  split at h
                  · simp only [tk3] at h
                    have hlen := tagOf_len (r3.drop (wordL r3).length)
                    cases hr5 : (tagOf (r3.drop (wordL r3).length)).2 with
                    | nil => rw [hr5] at h; cases h
                    | cons u r6 =>
                      rw [hr5] at h hlen
                      simp only at h
                      split at h
                      · cases hb : tk d r6 with
                        | none => rw [hb] at h; cases h
                        | some q =>
                          obtain ⟨b, rb⟩ := q
                          rw [hb] at h
                          simp only [tk4] at h
                          cases rb with
                          | nil => cases h
                          | cons x e =>
                            simp only at h
                            split at h
                            · rename_i hx
                              cases h
                              refine ⟨a, _, b, r6, _, _, _, rfl, rfl, by rw [hb, hx], ?_, rfl⟩
                              have h3 := congrArg List.length hr2
                              simp only [List.length_drop, List.length_cons] at h3 hlen ⊢
                              omega
                            · cases h
                      · cases h
                  · cases h
              · cases h
      · rw [tk_no d c s h1 h2] at h; cases h
theorem tk_high : ∀ (d : Nat) (s : List UInt8) (t : Tr) (rest : List UInt8), tk d s = some (t, rest) → t.high ≤ d := by
  intro d
  induction d with
  | zero =>
    intro s t rest h
    rcases tk_parts h with ⟨rfl, _⟩ | ⟨d', h1, _⟩
    · exact Nat.le_refl _
    · omega
  | succ d ih =>
    intro s t rest h
    rcases tk_parts h with ⟨rfl, _⟩ | ⟨d', h1, c, s1, a, ra, b, r6, k, v, g, _, h2, h3, _, rfl⟩
    · exact Nat.zero_le _
    · obtain rfl : d' = d := by omega
      have e1 := ih _ _ _ h2
      have e2 := ih _ _ _ h3
      rw [Tr.high]; omega
/-- what is read of a whole text: the tree whose line it is -/
def readL (s : List UInt8) : Option Tr := match tk 4096 s with
  | some (t, []) => if t.size ≤ 65536 ∧ t.line = s then some t else none
  | _ => none
theorem readL_is (s : List UInt8) (t : Tr) : readL s = some t ↔ t.line = s ∧ t.high ≤ 4096 ∧ t.size ≤ 65536 := by
  constructor
  · intro h
    unfold readL at h
    split at h
    · rename_i u hu
      split at h
      · rename_i hc
        cases h
        exact ⟨hc.2, tk_high _ _ _ _ hu, hc.1⟩
      · cases h
    · cases h
  · rintro ⟨h1, h2, h3⟩
    have h4 := tk_line t 4096 [] h2
    rw [List.append_nil, h1] at h4
    unfold readL
    rw [h4]
    exact if_pos ⟨h3, h1⟩
/-- lines tell trees apart -/
theorem line_inj {t u : Tr} (h : t.line = u.line) : t = u := by
  have h1 := tk_line t (max t.high u.high) [] (Nat.le_max_left _ _)
  have h2 := tk_line u (max t.high u.high) [] (Nat.le_max_right _ _)
  rw [h, h2] at h1
  cases h1; rfl
/-- how long a line may be -/
theorem digits_le : ∀ (k u : Nat), u < 10 ^ (k + 1) → nDigits u ≤ k + 1
  | 0, u, h => by rw [nDigits_small (by simpa using h)]; exact Nat.le_refl _
  | k + 1, u, h => by
    by_cases h1 : u < 10
    · rw [nDigits_small h1]; omega
    · rw [nDigits_big h1]
      have := digits_le k (u / 10) (by rw [Nat.pow_succ] at h; omega)
      omega
theorem dec_len (u : Nat) (h : u < 100000000000000000000) : (decDigits u).length ≤ 20 := by
  rw [decDigits_length]; exact digits_le 19 u (by simpa using h)
theorem num_len (b : BitVec 64) : (num b).length ≤ 21 := by
  have h1 : -9223372036854775808 ≤ b.toInt := by simpa using BitVec.le_toInt (x := b)
  have h2 : b.toInt < 9223372036854775808 := by simpa using BitVec.toInt_lt (x := b)
  rw [num, itoa]
  split
  · rw [List.length_cons]; have := dec_len b.toInt.natAbs (by omega); omega
  · have := dec_len b.toInt.toNat (by omega); omega
theorem unum_len (b : BitVec 64) : (unum b).length ≤ 20 := dec_len _ (by have := b.isLt; omega)
theorem tagL_len (g : BitVec 64) : (tagL g).length ≤ 21 := by
  rw [tagL]
  split
  · simp
  · rw [List.length_cons]; have := unum_len g; omega
theorem line_len : ∀ t : Tr, t.line.length ≤ 80 * t.size + 1
  | .e => by simp [Tr.line, Tr.size]
  | .n l k v g r => by
    have h1 := line_len l
    have h2 := line_len r
    have h3 := num_len k
    have h4 := num_len v
    have h5 := tagL_len g
    simp only [Tr.line, Tr.size, List.length_cons, List.length_append, List.length_nil]; omega
/-- what is read is no larger than the text -/
theorem tk_size : ∀ (d : Nat) (s : List UInt8) (t : Tr) (rest : List UInt8), tk d s = some (t, rest) → t.size + rest.length ≤ s.length := by
  intro d
  induction d with
  | zero =>
    intro s t rest h
    rcases tk_parts h with ⟨rfl, h1⟩ | ⟨d', h1, _⟩
    · rw [Tr.size]; omega
    · omega
  | succ d ih =>
    intro s t rest h
    rcases tk_parts h with ⟨rfl, h1⟩ | ⟨d', h1, c, s1, a, ra, b, r6, k, v, g, rfl, h2, h3, h4, rfl⟩
    · rw [Tr.size]; omega
    · obtain rfl : d' = d := by omega
      have e1 := ih _ _ _ h2
      have e2 := ih _ _ _ h3
      rw [Tr.size]
      simp only [List.length_cons] at e1 e2 ⊢; omega
end Go.Proofs.Treem
