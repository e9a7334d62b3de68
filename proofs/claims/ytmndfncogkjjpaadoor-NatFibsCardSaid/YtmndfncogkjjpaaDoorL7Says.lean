/- Package nat answers as the document says. -/
import Derived.Test.YtmndfncogkjjpaaDoorN7Text
import Derived.Test.YtmndfncogkjjpaaDoorN7Fib
namespace Go.Proofs.YtmndfncogkjjpaaDoor
open Go.RowKit Go.Proofs.Natm
set_option maxRecDepth 100000

theorem fib_no (z : Int) (h : (decide (0 ≤ z) && decide (z ≤ 200)) = false) (W : World) : Calls Tryd.prog 24 #[.int .i64 z] W (MadeN W 0 [] 2) := by
  by_cases h0 : z < 0
  · have d1 : decide (z < 0) = true := decide_eq_true h0
    clear h
    go_enter Tryd.func24, Tryd.ntmps24
    go_wp2
    go_ret2
    exact ⟨_, _, rfl, ⟨LieV.empty _, fun _ h => by cases h⟩, Below.refl _ _⟩
  · have d1 : decide (z < 0) = false := decide_eq_false h0
    have h2 : 200 < z := by simp at h; omega
    have d2 : decide (200 < z) = true := decide_eq_true h2
    clear h
    go_enter Tryd.func24, Tryd.ntmps24
    go_wp2
    go_ret2
    exact ⟨_, _, rfl, ⟨LieV.empty _, fun _ h => by cases h⟩, Below.refl _ _⟩
theorem natFib_any (z : Int) (s : List Nat) (k : Nat) (x : Int) (W : World) (h1 : fibL z = s) (h2 : s.length = k) (h3 : fibE z = x) : Calls Tryd.prog 24 #[.int .i64 z] W (MadeN W k s x) := by
  cases h : (decide (0 ≤ z) && decide (z ≤ 200)) with
  | false =>
    unfold fibL at h1
    unfold fibE at h3
    rw [h] at h1 h3
    simp at h1 h3
    subst h1 h2 h3
    exact fib_no z h W
  | true =>
    simp only [Bool.and_eq_true, decide_eq_true_eq] at h
    obtain ⟨E, rfl⟩ : ∃ E : Nat, z = E := ⟨z.toNat, by omega⟩
    obtain ⟨e1, e2⟩ := fib_d (k := E) (by omega)
    rw [e1] at h1
    rw [e2] at h3
    subst h1 h2 h3
    exact natFib_yes E (by omega) W
theorem nat_says : NatSays where
  from_ v m l W h1 h2 h3 := natFrom_any v m l W h1 h2 h3
  may _ _ _ _ _ _ h1 h2 := (natMay_is h1 h2).mono fun _ _ h => ⟨h.1, h.2 ▸ Below.refl _ _⟩
  add A n c a B m d b s k x W h1 h2 h3 h4 h5 := natAdd_any A n c a B m d b s k x W h1 h2 h3 h4 h5
  mul A n c a B m d b s k x W h1 h2 h3 h4 h5 := natMul_any A n c a B m d b s k x W h1 h2 h3 h4 h5
  pow A n c a e s k x W h1 h2 h3 h4 := natPow_any A n c a e s k x W h1 h2 h3 h4
  cmp A n c a B m d b t W h1 h2 h3 := natCmp_any A n c a B m d b t W h1 h2 h3
  text A n c a t W h1 hT h2 := natText_any A n c a t W h1 hT h2
  fib z s k x W h1 h2 h3 := natFib_any z s k x W h1 h2 h3
end Go.Proofs.YtmndfncogkjjpaaDoor
