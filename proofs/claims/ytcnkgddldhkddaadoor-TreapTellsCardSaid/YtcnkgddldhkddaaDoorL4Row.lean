/- What a slice of pairs holds: two cells a pair. -/
import Derived.Test.YtcnkgddldhkddaaDoorL4Math
import Derived.Test.YtcnkgddldhkddaaDoorGCut
import Derived.Test.YtcnkgddldhkddaaDoorGNum
import Derived.Test.YtcnkgddldhkddaaDoorProg
namespace Go.Proofs.YtcnkgddldhkddaaDoor
open Go.RowKit Go.Proofs.Rowm

/-- the cells of pairs -/
def flat (l : List Pr) : List Value := l.flatMap fun p => [K p.1, K p.2]
theorem flat_nil : flat [] = [] := rfl
theorem flat_cons (p : Pr) (l : List Pr) : flat (p :: l) = K p.1 :: K p.2 :: flat l := rfl
theorem flat_append (a b : List Pr) : flat (a ++ b) = flat a ++ flat b := by simp [flat]
theorem flat_length : ∀ l : List Pr, (flat l).length = l.length * 2
  | [] => rfl
  | p :: l => by rw [flat_cons, List.length_cons, List.length_cons, flat_length l, List.length_cons]; omega
theorem flat_take : ∀ (l : List Pr) (k : Nat), flat (l.take k) = (flat l).take (k * 2)
  | [], k => by simp [flat]
  | p :: l, 0 => by simp [flat]
  | p :: l, k + 1 => by
    rw [List.take_succ_cons, flat_cons, flat_cons, flat_take l k, show (k + 1) * 2 = k * 2 + 1 + 1 by omega, List.take_succ_cons, List.take_succ_cons]
theorem flat_drop : ∀ (l : List Pr) (k : Nat), flat (l.drop k) = (flat l).drop (k * 2)
  | [], k => by simp [flat]
  | p :: l, 0 => by simp
  | p :: l, k + 1 => by
    rw [List.drop_succ_cons, flat_cons, flat_drop l k, show (k + 1) * 2 = k * 2 + 1 + 1 by omega, List.drop_succ_cons, List.drop_succ_cons]
theorem flat_key : ∀ (l : List Pr) (k : Nat) (h : k < l.length), (flat l)[k * 2]? = some (K l[k].1)
  | [], k, h => by simp at h
  | p :: l, 0, _ => rfl
  | p :: l, k + 1, h => by
    rw [flat_cons, show (k + 1) * 2 = k * 2 + 1 + 1 by omega, List.getElem?_cons_succ, List.getElem?_cons_succ, flat_key l k (by simpa using h)]; rfl
theorem flat_val : ∀ (l : List Pr) (k : Nat) (h : k < l.length), (flat l)[k * 2 + 1]? = some (K l[k].2)
  | [], k, h => by simp at h
  | p :: l, 0, _ => rfl
  | p :: l, k + 1, h => by
    rw [flat_cons, show (k + 1) * 2 + 1 = k * 2 + 1 + 1 + 1 by omega, List.getElem?_cons_succ, List.getElem?_cons_succ, flat_val l k (by simpa using h)]; rfl
theorem flat_one (l : List Pr) : ∀ u ∈ flat l, u.oneCell' = true := fun u hu => by
  simp only [flat, List.mem_flatMap, List.mem_cons, List.not_mem_nil, or_false] at hu
  obtain ⟨p, _, rfl | rfl⟩ := hu <;> rfl

theorem add_one_is (x : Addr) : x.add 1 = ⟨x.block, x.off + 1, none⟩ := by simp [Addr.add]
/-- a slice of pairs: what the walk reads of its pair number k -/
theorem pair_at {w : World} {B : Nat} {A : Option Addr} {l : List Pr} (h : Row w B A (flat l)) (k : Nat) (hk : k < l.length) :
    ∃ ad, A = some ad ∧ ad.block < B ∧ w.cell? (ad.add (k * 2)) = some (K l[k].1) ∧ w.cell? ⟨(ad.add (k * 2)).block, (ad.add (k * 2)).off + 1, none⟩ = some (K l[k].2) := by
  obtain ⟨ad, e, hb, h0⟩ := h _ _ (flat_key l k hk)
  obtain ⟨ad', e', _, h1⟩ := h _ _ (flat_val l k hk)
  rw [e] at e'
  cases e'
  exact ⟨ad, e, hb, h0, by rw [← add_one_is, add_add]; exact h1⟩
end Go.Proofs.YtcnkgddldhkddaaDoor
