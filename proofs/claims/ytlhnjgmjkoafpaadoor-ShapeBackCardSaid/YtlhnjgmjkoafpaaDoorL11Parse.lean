/- The plain mathematics of layer 11: beads read one by one, a tree at their front; no program in it. -/
import Derived.Test.YtlhnjgmjkoafpaaDoorL10Math
namespace Go.Proofs.Treem

/-- behind what is left: what is right; and the node -/
def bld2 (a : Tr) (s : St) (o : Option (Tr × List St)) : Option (Tr × List St) := match o with
  | none => none
  | some (b, r2) => some (.n a s.key s.val s.tag b, r2)
def bld1 (rec : List St → Option (Tr × List St)) (s : St) (o : Option (Tr × List St)) : Option (Tr × List St) := match o with
  | none => none
  | some (a, r1) => bld2 a s (if s.right then rec r1 else some (.e, r1))
/-- the tree whose beads stand in front, no deeper than that, and what stands behind them -/
def bld : Nat → List St → Option (Tr × List St)
  | 0, _ => none
  | _ + 1, [] => none
  | d + 1, s :: rest => bld1 (bld d) s (if s.left then bld d rest else some (.e, rest))
theorem side_some {d : Nat} (ih : ∀ (s : List St) (t : Tr) (r : List St), bld d s = some (t, r) → t.is = true ∧ s = t.pre ++ r ∧ t.high ≤ d) {b : Bool} {s : List St} {t : Tr} {r : List St}
    (h : (if b then bld d s else some (.e, s)) = some (t, r)) : t.is = b ∧ s = t.pre ++ r ∧ t.high ≤ d := by
  cases b with
  | true => exact ih s t r (by simpa using h)
  | false =>
    simp at h
    obtain ⟨rfl, rfl⟩ := h
    exact ⟨rfl, rfl, Nat.zero_le _⟩
theorem bld_some : ∀ (d : Nat) (s : List St) (t : Tr) (r : List St), bld d s = some (t, r) → t.is = true ∧ s = t.pre ++ r ∧ t.high ≤ d
  | 0, s, t, r, h => by simp [bld] at h
  | d + 1, [], t, r, h => by simp [bld] at h
  | d + 1, s :: rest, t, r, h => by
    rw [bld] at h
    cases h1 : (if s.left then bld d rest else some (.e, rest)) with
    | none => rw [h1] at h; simp [bld1] at h
    | some p =>
      obtain ⟨a, r1⟩ := p
      rw [h1, bld1] at h
      cases h2 : (if s.right then bld d r1 else some (.e, r1)) with
      | none => rw [h2] at h; simp [bld2] at h
      | some q =>
        obtain ⟨b, r2⟩ := q
        rw [h2, bld2] at h
        simp only [Option.some.injEq, Prod.mk.injEq] at h
        obtain ⟨rfl, rfl⟩ := h
        obtain ⟨i1, e1, g1⟩ := side_some (bld_some d) h1
        obtain ⟨i2, e2, g2⟩ := side_some (bld_some d) h2
        refine ⟨rfl, ?_, ?_⟩
        · rw [e1, e2]
          simp only [Tr.pre, List.cons_append, List.append_assoc, i1, i2]
        · simp only [Tr.high]; omega
theorem bld_pre : ∀ (t : Tr) (d : Nat) (r : List St), t.is = true → t.high ≤ d → bld d (t.pre ++ r) = some (t, r)
  | .e, _, _, h, _ => by cases h
  | .n a k v g b, 0, r, _, h => by simp [Tr.high] at h
  | .n a k v g b, d + 1, r, _, h => by
    have g1 : a.high ≤ d := by simp only [Tr.high] at h; omega
    have g2 : b.high ≤ d := by simp only [Tr.high] at h; omega
    have s1 : (if a.is then bld d (a.pre ++ (b.pre ++ r)) else some (.e, a.pre ++ (b.pre ++ r))) = some (a, b.pre ++ r) := by
      cases ha : a.is with
      | true => simpa using bld_pre a d (b.pre ++ r) ha g1
      | false => rw [not_is ha]; rfl
    have s2 : (if b.is then bld d (b.pre ++ r) else some (.e, b.pre ++ r)) = some (b, r) := by
      cases hb : b.is with
      | true => simpa using bld_pre b d r hb g2
      | false => rw [not_is hb]; rfl
    simp only [Tr.pre, List.cons_append, List.append_assoc, bld, s1, bld1, s2, bld2]
/-- which tree beads are, reckoned -/
def madeOf (s : List St) : Option Tr := match s with
  | [] => some .e
  | x :: r => match bld 4096 (x :: r) with
    | some (t, []) => some t
    | _ => none
theorem made_is (s : List St) (t : Tr) : madeOf s = some t ↔ t.pre = s ∧ t.high ≤ 4096 := by
  cases s with
  | nil =>
    constructor
    · intro h
      simp only [madeOf, Option.some.injEq] at h
      subst h
      exact ⟨rfl, by simp [Tr.high]⟩
    · rintro ⟨h, _⟩
      cases t with
      | e => rfl
      | n l k v g r => simp [Tr.pre] at h
  | cons x r =>
    constructor
    · intro h
      rw [madeOf] at h
      split at h
      · next hb =>
        obtain rfl := Option.some.inj h
        obtain ⟨_, e, g⟩ := bld_some _ _ _ _ hb
        exact ⟨by rw [e, List.append_nil], g⟩
      · cases h
    · rintro ⟨h, g⟩
      have hi : t.is = true := by
        cases t with
        | e => simp [Tr.pre] at h
        | n l k v g r => rfl
      have hb := bld_pre t 4096 [] hi g
      rw [List.append_nil, h] at hb
      rw [madeOf, hb]
theorem made_none {s : List St} (hs : s ≠ []) (h : bld 4096 s = none) : madeOf s = none := by
  cases s with
  | nil => exact absurd rfl hs
  | cons x r => rw [madeOf, h]
theorem made_whole {s : List St} {t : Tr} (hs : s ≠ []) (h : bld 4096 s = some (t, [])) : madeOf s = some t := by
  cases s with
  | nil => exact absurd rfl hs
  | cons x r => rw [madeOf, h]
theorem made_more {s : List St} {t : Tr} {y : St} {q : List St} (hs : s ≠ []) (h : bld 4096 s = some (t, y :: q)) : madeOf s = none := by
  cases s with
  | nil => exact absurd rfl hs
  | cons x r => rw [madeOf, h]
end Go.Proofs.Treem
