/- What package shape has to answer (layer 11). -/
import Derived.Test.YtlhnjgmjkoafpaaDoorL11Take
namespace Go.Proofs.YtlhnjgmjkoafpaaDoor
open Go.RowKit Go.Proofs.Treem
variable {Nd : NdP}

/-- which tree beads are, if they are one that may be made -/
def MakeIs (s : List St) : Option Tr → Prop
  | some t => t.pre = s ∧ t.high ≤ 4096
  | none => ∀ t : Tr, t.pre = s → ¬ t.high ≤ 4096
theorem makeIs_some (s : List St) : ∃ o, MakeIs s o := by
  by_cases h : ∃ t : Tr, t.pre = s ∧ t.high ≤ 4096
  · obtain ⟨t, ht⟩ := h
    exact ⟨some t, ht⟩
  · exact ⟨none, fun t h1 h2 => h ⟨t, h1, h2⟩⟩
/-- what is made of beads, or read: a tree, or none and ErrForm -/
def MadeTree (Nd : NdP) (w : World) : Option Tr → Ending → World → Prop
  | some t, e, w' => ∃ p, e = .returned (.tuple #[.pointer p, .int .i64 0]) ∧ TreeAt Nd w' w'.heap.size t p ∧ Below w.heap.size w w'
  | none, e, w' => e = .returned (.tuple #[.pointer none, .int .i64 7]) ∧ Below w.heap.size w w'
/-- the same of the document's own answer -/
def MadeBeads (w : World) : Option Tr → Ending → World → Prop
  | some t, e, w' => ∃ A c, e = .returned (.tuple #[.slice A t.size c, .int .i64 0]) ∧ LieB w' w'.heap.size A t.size c t.told ∧ Below w.heap.size w w'
  | none, e, w' => e = .returned (.tuple #[.slice none 0 0, .int .i64 7]) ∧ Below w.heap.size w w'
/-- what the functions of package shape have to answer -/
structure ShapeSays (Nd : NdP) (T : World → Prop) : Prop where
  list : ∀ (w : World) (t : Tr) (p : Option Addr), TreeAt Nd w w.heap.size t p → t.size ≤ 5000 →
    Calls Tryd.prog 13 #[.pointer p] w fun e w' => ∃ A c, e = .returned (.slice A t.size c) ∧ LieB w' w'.heap.size A t.size c t.told ∧ Below w.heap.size w w'
  same : ∀ (w : World) (t u : Tr) (p q : Option Addr) (b : Bool), (b = true ↔ t = u) → TreeAt Nd w w.heap.size t p → TreeAt Nd w w.heap.size u q → t.size ≤ 5000 → u.size ≤ 5000 →
    Calls Tryd.prog 16 #[.pointer p, .pointer q] w fun e w' => e = .returned (.bool b) ∧ Below w.heap.size w w'
  line : ∀ (w : World) (t : Tr) (p : Option Addr), T w → TreeAt Nd w w.heap.size t p → t.size ≤ 5000 →
    Calls Tryd.prog 14 #[.pointer p] w fun e w' => e = .returned (sV t.line) ∧ Below w.heap.size w w'
  make : ∀ (w : World) (A : Option Addr) (n c : Nat) (l : List Bd) (o : Option Tr), LieB w w.heap.size A n c l → n ≤ 65536 → MakeIs (l.map strip) o →
    Calls Tryd.prog 17 #[.slice A n c] w (MadeTree Nd w o)
  read : ∀ (w : World) (s : List UInt8), T w → s.length ≤ 400000 → (∀ t : Tr, t.line = s → t.size ≤ 5000) →
    Calls Tryd.prog 20 #[sV s] w (MadeTree Nd w (readL s))
/-- a line has its tree's nodes -/
theorem dec_some (u : Nat) : 1 ≤ (Lib.decDigits u).length := by rw [Lib.decDigits_length]; exact Lib.nDigits_pos u
theorem num_some (b : BitVec 64) : 1 ≤ (num b).length := by
  rw [num, Lib.itoa]
  split
  · simp
  · exact dec_some _
theorem line_more : ∀ t : Tr, 8 * t.size + 1 ≤ t.line.length
  | .e => by simp [Tr.line, Tr.size]
  | .n l k v g r => by
    have h1 := line_more l
    have h2 := line_more r
    have h3 := num_some k
    have h4 := num_some v
    simp only [Tr.line, Tr.size, List.length_cons, List.length_append, List.length_nil]; omega
/-- a short text is no large tree's line -/
theorem few_line {s : List UInt8} (h : s.length ≤ 40000) : ∀ t : Tr, t.line = s → t.size ≤ 5000 := fun t e => by
  have h1 := line_more t
  rw [e] at h1
  omega
theorem pre_two : ∀ (t u : Tr) (a b : List St), t.is = u.is → t.pre ++ a = u.pre ++ b → t = u ∧ a = b
  | .e, .e, a, b, _, h => ⟨rfl, h⟩
  | .e, .n .., _, _, h, _ => by cases h
  | .n .., .e, _, _, h, _ => by cases h
  | .n l k v g r, .n l' k' v' g' r', a, b, _, h => by
    simp only [Tr.pre, List.cons_append, List.cons.injEq, St.mk.injEq, List.append_assoc] at h
    obtain ⟨⟨rfl, rfl, rfl, h1, h2⟩, h3⟩ := h
    obtain ⟨rfl, h4⟩ := pre_two l l' _ _ h1 h3
    obtain ⟨rfl, h5⟩ := pre_two r r' _ _ h2 h4
    exact ⟨rfl, h5⟩
theorem pre_inj {t u : Tr} (h : t.pre = u.pre) : t = u := by
  refine (pre_two t u [] [] ?_ (by rw [h])).1
  cases t <;> cases u <;> first | rfl | (simp [Tr.pre] at h)
theorem told_inj {t u : Tr} (h : t.told = u.told) : t = u := pre_inj (by rw [← told_strip, ← told_strip, h])
end Go.Proofs.YtlhnjgmjkoafpaaDoor
