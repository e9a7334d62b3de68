/- What package nat, and the document's own package, answer of numbers: one form for both. -/
import Derived.Test.YtmndfncogkjjpaaDoorL7Text
import Derived.Test.YtmndfncogkjjpaaDoorN7Tens
namespace Go.Proofs.YtmndfncogkjjpaaDoor
open Go.RowKit Go.Proofs.Natm
set_option maxRecDepth 100000

/-- a call that makes a number -/
def MadeW (W : World) (m : Nat) (l : List Nat) (e : Ending) (w' : World) : Prop :=
  ∃ A c, e = .returned (.slice A m c) ∧ LieW w' A m c l ∧ Below W.heap.size W w'
/-- one that makes a number, and tells whether it could -/
def MadeN (W : World) (m : Nat) (l : List Nat) (x : Int) (e : Ending) (w' : World) : Prop :=
  ∃ A c, e = .returned (.tuple #[.slice A m c, .int .i64 x]) ∧ LieW w' A m c l ∧ Below W.heap.size W w'
/-- eight functions answer as the document says -/
structure Says (Ok : World → Prop) (fFrom fMay fAdd fMul fPow fCmp fText fFib : FuncId) : Prop where
  from_ : ∀ (v m : Nat) (l : List Nat) (W : World), v < 18446744073709551616 → dig Wd v = l → l.length = m → Calls Tryd.prog fFrom #[.int .u64 v] W (MadeW W m l)
  may : ∀ A n c l t W, mayL l = t → LieW W A n c l → Calls Tryd.prog fMay #[.slice A n c] W fun e w' => e = .returned (.bool t) ∧ Below W.heap.size W w'
  add : ∀ A n c a B m d b s k x W, addL a b = s → s.length = k → addE a b = x → LieW W A n c a → LieW W B m d b → Calls Tryd.prog fAdd #[.slice A n c, .slice B m d] W (MadeN W k s x)
  mul : ∀ A n c a B m d b s k x W, mulL a b = s → s.length = k → mulE a b = x → LieW W A n c a → LieW W B m d b → Calls Tryd.prog fMul #[.slice A n c, .slice B m d] W (MadeN W k s x)
  pow : ∀ A n c a (e : Int) s k x W, powL a e = s → s.length = k → powE a e = x → LieW W A n c a → Calls Tryd.prog fPow #[.slice A n c, .int .i64 e] W (MadeN W k s x)
  cmp : ∀ A n c a B m d b t W, cmpL a b = t → LieW W A n c a → LieW W B m d b → Calls Tryd.prog fCmp #[.slice A n c, .slice B m d] W fun e w' => e = .returned (.int .i64 t) ∧ Below W.heap.size W w'
  text : ∀ A n c a t W, textL a = t → Ok W → LieW W A n c a → Calls Tryd.prog fText #[.slice A n c] W fun e w' => e = .returned (.string t) ∧ Below W.heap.size W w'
  fib : ∀ (z : Int) s k x W, fibL z = s → s.length = k → fibE z = x → Calls Tryd.prog fFib #[.int .i64 z] W (MadeN W k s x)
theorem made_n {W w' : World} {m : Nat} {l : List Nat} {x : Int} {e : Ending} (hw : ∀ d ∈ l, d < Wd) (h : MadeVE W m (l.map U) x e w') : MadeN W m l x e w' := by
  obtain ⟨A, c, he, hL, _, hb⟩ := h
  exact ⟨A, c, he, ⟨hL, hw⟩, hb⟩
theorem ite_words {b : Prop} [Decidable b] {v : Nat} : ∀ d ∈ (if b then fitL v else []), d < Wd := fun d h => by
  split at h
  · exact fit_words v d h
  · cases h

theorem ref_says : Says (fun _ => True) 23 17 10 12 14 19 21 25 where
  from_ v m l W hv hl hm := by
    subst hl hm
    refine (refFrom7_any v hv W).mono fun e w' h => ?_
    obtain ⟨A, c, he, hL, _, hb⟩ := h
    exact ⟨A, c, he, ⟨hL, dig_words v⟩, hb⟩
  may A n c l t W ht h := (refMay7_is ht h).mono fun e w' hh => ⟨hh.1, hh.2 ▸ Below.refl _ _⟩
  add A n c a B m d b s k x W h1 h2 h3 hA hB := by subst h1 h2 h3; exact (refAdd7_any A B n c m d a b W hA hB).mono fun _ _ h => made_n ite_words h
  mul A n c a B m d b s k x W h1 h2 h3 hA hB := by subst h1 h2 h3; exact (refMul7_any A B n c m d a b W hA hB).mono fun _ _ h => made_n ite_words h
  pow A n c a e s k x W h1 h2 h3 hA := by subst h1 h2 h3; exact (refPow7_any A n c a e W hA).mono fun _ _ h => made_n ite_words h
  cmp A n c a B m d b t W ht hA hB := by subst ht; exact refCmp7_any A B n c m d a b W hA hB
  text A n c a t W ht _ hA := by subst ht; exact refText7_any A n c a W hA
  fib z s k x W h1 h2 h3 := by subst h1 h2 h3; exact (refFib7_any z W).mono fun _ _ h => made_n ite_words h

/-- package nat does -/
abbrev NatSays : Prop := Says Tens 22 16 9 11 13 18 20 24

theorem dig_is {B v : Nat} {l : List Nat} (hB : 2 ≤ B) (h : val B l = v) (h1 : ∀ d ∈ l, d < B) (h2 : l.getLast? ≠ some 0) : dig B v = l := by
  subst h
  exact dig_val hB h1 fun d hd h0 => h2 (by rw [hd, h0])
theorem fit_is {v : Nat} {l : List Nat} (hv : v < Top) (h : dig Wd v = l) : fitL v = l ∧ fitE v = 0 := by
  unfold fitL fitE; rw [if_pos hv, if_pos hv]; exact ⟨h, rfl⟩
end Go.Proofs.YtmndfncogkjjpaaDoor
