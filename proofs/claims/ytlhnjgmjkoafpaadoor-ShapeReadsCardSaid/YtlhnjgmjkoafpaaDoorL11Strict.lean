/- The plain mathematics of layer 11: a line read byte by byte, and nothing let pass that is not written so; no program in it. -/
import Derived.Test.YtlhnjgmjkoafpaaDoorL11Math
namespace Go.Proofs.Treem
open Go.Lib

/-- a byte that must be next -/
def byteT (c : UInt8) : List UInt8 → Option (List UInt8)
  | [] => none
  | x :: r => if x = c then some r else none
/-- a number, written as its numeral is; a tag, or none -/
def numT (s : List UInt8) : Option (BitVec 64 × List UInt8) := if num (pI (wordL s)) = wordL s then some (pI (wordL s), s.drop (wordL s).length) else none
def tagT : List UInt8 → Option (BitVec 64 × List UInt8)
  | [] => some (0#64, [])
  | x :: r => if x = 35 then (if unum (pU (wordL r)) = wordL r ∧ pU (wordL r) ≠ 0#64 then some (pU (wordL r), r.drop (wordL r).length) else none) else some (0#64, x :: r)
/-- the tree whose line stands in front, no deeper than that, and what stands behind it -/
def sp : Nat → List UInt8 → Option (Tr × List UInt8)
  | _, [] => none
  | 0, c :: s => if c = 46 then some (.e, s) else none
  | d + 1, c :: s =>
    if c = 46 then some (.e, s)
    else if c = 40 then
      (sp d s).bind fun (a, s1) => (byteT 32 s1).bind fun s2 => (numT s2).bind fun (k, s3) => (byteT 58 s3).bind fun s4 => (numT s4).bind fun (v, s5) =>
      (tagT s5).bind fun (g, s6) => (byteT 32 s6).bind fun s7 => (sp d s7).bind fun (b, s8) => (byteT 41 s8).bind fun s9 => some (.n a k v g b, s9)
    else none
theorem byteT_some {c : UInt8} {s r : List UInt8} (h : byteT c s = some r) : s = c :: r := by
  cases s with
  | nil => cases h
  | cons x q =>
    rw [byteT] at h
    split at h
    · rename_i e
      rw [e, Option.some.inj h]
    · cases h
theorem byteT_of (c : UInt8) (r : List UInt8) : byteT c (c :: r) = some r := by rw [byteT, if_pos rfl]
theorem word_split (s : List UInt8) : wordL s ++ s.drop (wordL s).length = s := by
  have h := List.takeWhile_append_dropWhile (p := isW) (l := s)
  have e : s.drop (wordL s).length = s.dropWhile isW := by
    have h2 := congrArg (List.drop (wordL s).length) h
    rw [show s.takeWhile isW = wordL s from rfl, List.drop_left] at h2
    exact h2.symm
  rw [e]
  exact h
theorem numT_some {s r : List UInt8} {k : BitVec 64} (h : numT s = some (k, r)) : s = num k ++ r := by
  rw [numT] at h
  split at h
  · rename_i e
    simp only [Option.some.injEq, Prod.mk.injEq] at h
    obtain ⟨rfl, rfl⟩ := h
    rw [e, word_split]
  · cases h
theorem numT_of (k : BitVec 64) {c : UInt8} (hc : isW c = false) (r : List UInt8) : numT (num k ++ c :: r) = some (k, c :: r) := by
  have h := word_of (num_isW k) hc r
  rw [numT, h, pI_num, if_pos rfl, List.drop_left]
theorem tagT_some {s r : List UInt8} {g : BitVec 64} (h : tagT s = some (g, r)) : s = tagL g ++ r := by
  cases s with
  | nil =>
    simp only [tagT, Option.some.injEq, Prod.mk.injEq] at h
    obtain ⟨rfl, rfl⟩ := h
    rw [tagL, if_pos rfl]; rfl
  | cons x q =>
    rw [tagT] at h
    split at h
    · rename_i e
      split at h
      · rename_i e2
        simp only [Option.some.injEq, Prod.mk.injEq] at h
        obtain ⟨rfl, rfl⟩ := h
        rw [tagL, if_neg e2.2, e2.1, List.cons_append, word_split, e]
      · cases h
    · simp only [Option.some.injEq, Prod.mk.injEq] at h
      obtain ⟨rfl, rfl⟩ := h
      rw [tagL, if_pos rfl]; rfl
theorem tagT_of (g : BitVec 64) (r : List UInt8) : tagT (tagL g ++ 32 :: r) = some (g, 32 :: r) := by
  by_cases h : g = 0#64
  · rw [tagL, if_pos h, h]; rfl
  · have hw : wordL (unum g ++ 32 :: r) = unum g := word_of (dec_isW _) rfl r
    rw [tagL, if_neg h, List.cons_append, tagT, if_pos rfl, hw, pU_num, if_pos ⟨rfl, h⟩, List.drop_left]
theorem sp_some : ∀ (d : Nat) (s : List UInt8) (t : Tr) (r : List UInt8), sp d s = some (t, r) → s = t.line ++ r ∧ t.high ≤ d
  | 0, [], t, r, h => by cases h
  | _ + 1, [], t, r, h => by cases h
  | 0, c :: s, t, r, h => by
    rw [sp] at h
    split at h
    · rename_i e
      simp only [Option.some.injEq, Prod.mk.injEq] at h
      obtain ⟨rfl, rfl⟩ := h
      exact ⟨by rw [e]; rfl, Nat.le_refl _⟩
    · cases h
  | d + 1, c :: s, t, r, h => by
    rw [sp] at h
    split at h
    · rename_i e
      simp only [Option.some.injEq, Prod.mk.injEq] at h
      obtain ⟨rfl, rfl⟩ := h
      exact ⟨by rw [e]; rfl, Nat.zero_le _⟩
    · split at h
      · rename_i e
        simp only [Option.bind_eq_some_iff, Prod.exists, Option.some.injEq, Prod.mk.injEq] at h
        obtain ⟨a, s1, h1, s2, h2, k, s3, h3, s4, h4, v, s5, h5, g, s6, h6, s7, h7, b, s8, h8, s9, h9, rfl, rfl⟩ := h
        obtain ⟨e1, g1⟩ := sp_some d _ _ _ h1
        obtain ⟨e2, g2⟩ := sp_some d _ _ _ h8
        refine ⟨?_, by rw [Tr.high]; omega⟩
        rw [e, e1, byteT_some h2, numT_some h3, byteT_some h4, numT_some h5, tagT_some h6, byteT_some h7, e2, byteT_some h9]
        simp only [Tr.line, List.cons_append, List.append_assoc, List.nil_append]
      · cases h
theorem sp_line : ∀ (t : Tr) (d : Nat) (rest : List UInt8), t.high ≤ d → sp d (t.line ++ rest) = some (t, rest)
  | .e, 0, _, _ => rfl
  | .e, _ + 1, _, _ => rfl
  | .n l k v g r, 0, _, h => by simp [Tr.high] at h
  | .n l k v g r, d + 1, rest, h => by
    rw [Tr.high] at h
    have hl := sp_line l d (32 :: (num k ++ 58 :: (num v ++ (tagL g ++ 32 :: (r.line ++ 41 :: rest))))) (by omega)
    have hr := sp_line r d (41 :: rest) (by omega)
    have e0 : (Tr.n l k v g r).line ++ rest = 40 :: (l.line ++ 32 :: (num k ++ 58 :: (num v ++ (tagL g ++ 32 :: (r.line ++ 41 :: rest))))) := by
      simp only [Tr.line, List.cons_append, List.append_assoc, List.nil_append]
    have hk := numT_of k (c := 58) rfl (num v ++ (tagL g ++ 32 :: (r.line ++ 41 :: rest)))
    have hv : numT (num v ++ (tagL g ++ 32 :: (r.line ++ 41 :: rest))) = some (v, tagL g ++ 32 :: (r.line ++ 41 :: rest)) := by
      by_cases hg : g = 0#64
      · rw [tagL, if_pos hg]; exact numT_of v rfl _
      · rw [tagL, if_neg hg]; exact numT_of v rfl _
    have ht := tagT_of g (r.line ++ 41 :: rest)
    rw [e0, sp, if_neg (by decide), if_pos rfl, hl]
    simp only [Option.bind_some, byteT_of, hk, hv, ht, hr]
/-- what is read of a whole text, nothing let pass, is what is read of it by writing it again -/
def readS (s : List UInt8) : Option Tr := match sp 4096 s with
  | some (t, []) => some t
  | _ => none
theorem readS_is (s : List UInt8) (t : Tr) : readS s = some t ↔ t.line = s ∧ t.high ≤ 4096 := by
  constructor
  · intro h
    rw [readS] at h
    split at h
    · next hb =>
      obtain rfl := Option.some.inj h
      obtain ⟨e, g⟩ := sp_some _ _ _ _ hb
      exact ⟨by rw [e, List.append_nil], g⟩
    · cases h
  · rintro ⟨e, g⟩
    have hb := sp_line t 4096 [] g
    rw [List.append_nil, e] at hb
    rw [readS, hb]
end Go.Proofs.Treem
