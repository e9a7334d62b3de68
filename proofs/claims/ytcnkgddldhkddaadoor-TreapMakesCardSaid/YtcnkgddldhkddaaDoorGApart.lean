/- Blocks of two types are two; a row is no block of another type; the least number that serves a world. No program. -/
import Derived.Test.YtcnkgddldhkddaaDoorGTurns
namespace Go.Proofs.YtcnkgddldhkddaaDoor
open Go.RowKit

section
variable {W : World} {v : Value}
theorem has_not_row {g : Nat} {t e : TypeId} {cs : Array Value} (h : Has W g t cs) (hte : t ≠ e) {base size k : Nat} {xs : List Value} (hr : W.ownsRow base e size v k xs) : some g ≠ v.ownBlock := by
  rcases hr.2 with ⟨rfl, _⟩ | ⟨g', cap, cur, rfl, _, hgb, _⟩
  · simp [Value.ownBlock]
  · intro e'
    obtain rfl : g = g' := by simpa [Value.ownBlock] using e'
    have := (show W.heap[g]? = _ from h).symm.trans hgb
    simp at this
    exact hte this.2
theorem has_apart {g g' : Nat} {t t' : TypeId} {cs cs' : Array Value} (h : Has W g t cs) (h' : Has W g' t' cs') (hne : t ≠ t') : g ≠ g' := fun e => by
  subst e
  have := (show W.heap[g]? = _ from h).symm.trans h'
  simp at this
  exact hne this.2
end
/-- a number for each that is the least one that serves -/
theorem least_of {α : Type} (R : Nat → α → Prop) : ∃ mu : α → Nat, ∀ v m, R m v → R (mu v) v ∧ mu v ≤ m := by
  have h : ∀ v, ∃ k, ∀ m, R m v → R k v ∧ k ≤ m := fun v => by
    have g : ∀ n m, m ≤ n → R m v → ∃ k, R k v ∧ ∀ j, R j v → k ≤ j := by
      intro n
      induction n with
      | zero => intro m hm hr; exact ⟨0, by rw [Nat.le_zero.1 hm] at hr; exact hr, fun _ _ => Nat.zero_le _⟩
      | succ n ih =>
        intro m hm hr
        by_cases hx : ∃ j, j ≤ n ∧ R j v
        · obtain ⟨j, h1, h2⟩ := hx; exact ih j h1 h2
        · refine ⟨m, hr, fun j hj => ?_⟩
          rcases Nat.lt_or_ge n j with h | h
          · omega
          · exact absurd ⟨j, h, hj⟩ hx
    by_cases hx : ∃ m, R m v
    · obtain ⟨m, hm⟩ := hx
      obtain ⟨k, h1, h2⟩ := g m m (Nat.le_refl _) hm
      exact ⟨k, fun j hj => ⟨h1, h2 j hj⟩⟩
    · exact ⟨0, fun m hm => absurd ⟨m, hm⟩ hx⟩
  exact ⟨fun v => (h v).choose, fun v => (h v).choose_spec⟩
/-- a number for each world that is the least one that serves -/
theorem least_there (R : Nat → World → Prop) : ∃ mu : World → Nat, ∀ w m, R m w → R (mu w) w ∧ mu w ≤ m := least_of R
theorem round_any {m m' : Nat} {P : Program} {l : Nat} {args : Array Value} {W : World} {R : Ending → World → Prop} (h : YieldAt Fence.wide m P l args W R) : YieldAt Fence.wide m' P l args W R := by
  obtain ⟨fn, tmps, assign, body, hy, hR⟩ := h
  exact ⟨fn, tmps, assign, body, hy, hR.1, fun c cs _ => hR.2 c cs (room_wide _)⟩
theorem has_turned {gs : Nat} {t : TypeId} {cs : Array Value} {B : Nat} {X Y : World} {row : Option Nat} (h : Has X gs t cs) (hg : X.grownBy Y row) (hr : ∀ r, row = some r → B ≤ r ∧ ∃ o : Obj, X.heap[r]? = some o ∧ o.isCells = false) : Has Y gs t cs :=
  (hg.block gs h.lt (fun e => by obtain ⟨_, o, ho, hc⟩ := hr gs e.symm; rw [show X.heap[gs]? = _ from h] at ho; cases ho; cases hc)).trans h
theorem Turn.of_kf {mine : TypeId → Bool} {B : Nat} {W W' : World} (h : Kf mine B W W') : Turn mine B W W' := ⟨h.os, h.tape, h.output, h.size, fun k o hk ho => by
  rcases ho with ho | ⟨cs, t, fr, rfl, ht⟩
  · exact (h.low k ho).trans hk
  · exact h.mid k cs t fr ht hk⟩
end Go.Proofs.YtcnkgddldhkddaaDoor
