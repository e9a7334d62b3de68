/- The document's own answers of layer 4: Drop, Put. -/
import Derived.Test.YtjnnfineebabaaaDoorL4RefC
import Derived.Test.YtjnnfineebabaaaDoorL4Cat
import Derived.Deep.RegionWith
import Derived.Deep.RegionLaw
namespace Go.Proofs.YtjnnfineebabaaaDoor
open Go.RowKit Go.Proofs.Rowm

/-- what a call returns that makes a row, and tells something beside it -/
def MadeT (w : World) (l : List Pr) (x : Value) (e : Ending) (w' : World) : Prop :=
  ∃ A c, e = .returned (.tuple #[.slice A l.length c, x]) ∧ l.length ≤ c ∧ c ≤ maxLen ∧ (A = none → c = 0) ∧ Row w' w'.heap.size A (flat l) ∧ Below w.heap.size w w'
theorem made_of {w w' : World} {base : Nat} {l : List Pr} {v x : Value} (ho : w'.ownsRow base 42 2 v l.length (flat l)) (hb : Below w.heap.size w w') : MadeT w l x (.returned (.tuple #[v, x])) w' := by
  obtain ⟨A, c, rfl, h1, h2, h3⟩ := own_slice ho
  exact ⟨A, c, rfl, h1, h2, h3, Row.of_own ho, hb⟩
theorem made_none (w w' : World) (x : Value) (hb : Below w.heap.size w w') : MadeT w [] x (.returned (.tuple #[.slice none 0 0, x])) w' :=
  ⟨none, 0, rfl, Nat.le_refl _, Nat.zero_le _, fun _ => rfl, Row.none_ _ _ _, hb⟩

/-- what is kept of the first k pairs, and whether the key was among them -/
def kept (l : List Pr) (key : BitVec 64) (k : Nat) : List Pr := (l.take k).filter fun p => decide (p.1 ≠ key)
theorem kept_next (l : List Pr) (key : BitVec 64) (k : Nat) (h : k < l.length) : kept l key (k + 1) = if l[k].1 = key then kept l key k else kept l key k ++ [l[k]] := by
  unfold kept
  rw [List.take_succ_eq_append_getElem h, List.filter_append]
  by_cases hk : l[k].1 = key <;> simp [hk]
theorem kept_le (l : List Pr) (key : BitVec 64) (k : Nat) : (kept l key k).length ≤ l.length := by
  unfold kept
  exact Nat.le_trans (List.length_filter_le _ _) (by rw [List.length_take]; omega)

end Go.Proofs.YtjnnfineebabaaaDoor
