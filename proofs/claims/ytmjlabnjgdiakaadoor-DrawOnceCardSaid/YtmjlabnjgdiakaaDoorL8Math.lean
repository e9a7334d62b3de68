/- The plain mathematics of draws (layer 8); no program in it. -/
import Derived.Test.YtmjlabnjgdiakaaDoorL1Math
namespace Go.Proofs.Drawm
open Go.Proofs.Mixm

/-- a key's own number -/
def own (k : BitVec 64) : BitVec 64 := mix (k + 0x9e3779b97f4a7c15#64)
theorem own_inj (a b : BitVec 64) : own a = own b ↔ a = b := by
  unfold own
  rw [mix_inj]
  exact ⟨fun h => by have := congrArg (· - 0x9e3779b97f4a7c15#64) h; simpa using this, fun h => by rw [h]⟩
/-- the next number -/
def out (k : BitVec 64) : List (BitVec 64) → BitVec 64
  | [] => own k
  | x :: _ => x
/-- as many numbers as there are keys, in order -/
def many : List (BitVec 64) → List (BitVec 64) → List (BitVec 64)
  | [], _ => []
  | k :: ks, l => out k l :: many ks l.tail
theorem many_len : ∀ ks l, (many ks l).length = ks.length
  | [], _ => rfl
  | _ :: ks, l => by rw [many, List.length_cons, many_len ks, List.length_cons]
theorem many_none : ∀ ks, many ks [] = ks.map own
  | [] => rfl
  | _ :: ks => by rw [many, List.tail_nil, many_none ks]; rfl
theorem many_snoc : ∀ ks k l, many (ks ++ [k]) l = many ks l ++ [out k (l.drop ks.length)]
  | [], _, _ => rfl
  | x :: ks, k, l => by
    rw [List.cons_append, many, many_snoc ks k l.tail, many, List.cons_append, List.length_cons]
    cases l <;> simp
theorem many_next (ks l : List (BitVec 64)) (i : Nat) (h : i < ks.length) : many (ks.take (i + 1)) l = many (ks.take i) l ++ [out ks[i] (l.drop i)] := by
  rw [List.take_succ_eq_append_getElem h, many_snoc, List.length_take, Nat.min_eq_left (Nat.le_of_lt h)]
theorem many_app : ∀ a b l, many (a ++ b) l = many a l ++ many b (l.drop a.length)
  | [], _, _ => rfl
  | x :: a, b, l => by
    rw [List.cons_append, many, many_app a b l.tail, many, List.cons_append, List.length_cons]
    cases l <;> simp
theorem out_at (k : BitVec 64) (l : List (BitVec 64)) (i : Nat) (h : i < l.length) : out k (l.drop i) = l[i] := by
  rw [List.drop_eq_getElem_cons h]; rfl
theorem tail_drop (l : List (BitVec 64)) (i : Nat) : (l.drop i).tail = l.drop (i + 1) := by rw [List.tail_drop]
/-- who asks behind all numbers for the same key gets the same -/
theorem same_own (ks : List (BitVec 64)) (i k : Nat) (hi : i < (many ks []).length) (hk : k < (many ks []).length) (hi' : i < ks.length) (hk' : k < ks.length) : decide ((many ks [])[i] = (many ks [])[k]) = decide (ks[i] = ks[k]) := by
  have e : ∀ j (h : j < (many ks []).length) (h' : j < ks.length), (many ks [])[j] = own ks[j] := fun j h h' => by simp [many_none]
  rw [e i hi hi', e k hk hk']
  simp [own_inj]
end Go.Proofs.Drawm
