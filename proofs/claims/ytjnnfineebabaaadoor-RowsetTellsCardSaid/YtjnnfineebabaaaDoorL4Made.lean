/- Calls that make rows, and what is got of a row, under names. -/
import Derived.Test.YtjnnfineebabaaaDoorL4Ans
namespace Go.Proofs.YtjnnfineebabaaaDoor
open Go.RowKit Go.Shelf Go.Proofs.Rowm
section
variable {o p : Nat} {key k : BitVec 64} {r s : List Pr} {v x : BitVec 64} {t : Bool} {i j m : Nat}
/-- a call that makes a row, under names -/
def MadeH (W : World) (m : Nat) (l : List Pr) (x : Value) (e : Ending) (w' : World) : Prop :=
  ∃ A c, e = .returned (.tuple #[.slice A m c, x]) ∧ Here w' A m c l ∧ Below W.heap.size W w'
theorem made_here {W w' : World} {m : Nat} {l : List Pr} {x : Value} {e : Ending} (hp : 0 < W.heap.size) (hs : Steps W) (hm : l.length = m) (h9 : m ≤ 900) (h : MadeT W l x e w') : MadeH W m l x e w' := by
  obtain ⟨A, c, he, hc, _, hn, hr, hb⟩ := h
  subst hm
  exact ⟨A, c, he, ⟨rfl, h9, hc, hn, Nat.lt_of_lt_of_le hp hb.size, hs.below hp hb, hr⟩, hb⟩
theorem refPut_named {y : Pr} (p1 : 1 ≤ p) (p3 : p ≤ 3) (hm : mayB o r = true) (hd : putAt p r y (pos o y.1 r) (upto o y.1 r) = s) (hsm : s.length = m) (h9 : m ≤ 900) {A : Option Addr} {n c : Nat} {W : World} (h : Here W A n c r) :
    Calls Tryd.prog 31 #[.int .u8 o, .int .u8 p, .slice A n c, pV y] W (MadeH W m s (.int .i64 0)) := by
  subst hd
  exact (refPut_yes o p p1 p3 A n c r y _ _ hm (at_of (mayB_parts hm).2.2 y.1) h.len h.k h.cap h.nil W h.row).mono fun _ _ hh => made_here h.pos h.steps hsm h9 hh
theorem refGet_named {g : BitVec 64} (hm : mayB o r = true) (ht : decide (pos o k r < upto o k r) = t) (hg : valAt r (pos o k r) (upto o k r) = g) {A : Option Addr} {n c : Nat} {W : World} (h : Here W A n c r) :
    Calls Tryd.prog 36 #[.int .u8 o, .slice A n c, K k] W fun e w' => e = .returned (.tuple #[K g, .bool t]) ∧ Below W.heap.size W w' :=
  hg ▸ refGet_yes o A n c r k _ _ t ht hm (at_of (mayB_parts hm).2.2 k) h.len h.k W h.row
theorem got_at (hm : mayB o r = true) (k : BitVec 64) : (pos o k r < upto o k r ∧ got r k = some (valAt r (pos o k r) (upto o k r))) ∨ (¬ pos o k r < upto o k r ∧ valAt r (pos o k r) (upto o k r) = 0#64 ∧ got r k = none) := by
  have hg := (at_of (mayB_parts hm).2.2 k).got
  by_cases h : pos o k r < upto o k r
  · rw [if_pos h] at hg; exact .inl ⟨h, hg⟩
  · rw [if_neg h] at hg; exact .inr ⟨h, by unfold valAt; rw [if_neg h], hg⟩
theorem refGet_has (hm : mayB o r = true) (hg : got r k = some v) {A : Option Addr} {n c : Nat} {W : World} (h : Here W A n c r) :
    Calls Tryd.prog 36 #[.int .u8 o, .slice A n c, K k] W fun e w' => e = .returned (.tuple #[K v, .bool true]) ∧ Below W.heap.size W w' := by
  rcases got_at hm k with ⟨h1, h2⟩ | ⟨h1, h2, h3⟩
  · rw [hg] at h2
    exact refGet_named hm (decide_eq_true h1) (Option.some.inj h2).symm h
  · rw [hg] at h3; cases h3
theorem refGet_hasnt (hm : mayB o r = true) (hg : got r k = none) {A : Option Addr} {n c : Nat} {W : World} (h : Here W A n c r) :
    Calls Tryd.prog 36 #[.int .u8 o, .slice A n c, K k] W fun e w' => e = .returned (.tuple #[K 0#64, .bool false]) ∧ Below W.heap.size W w' := by
  rcases got_at hm k with ⟨h1, h2⟩ | ⟨h1, h2, h3⟩
  · rw [hg] at h2; cases h2
  · exact refGet_named hm (decide_eq_false h1) h2 h
end
end Go.Proofs.YtjnnfineebabaaaDoor
