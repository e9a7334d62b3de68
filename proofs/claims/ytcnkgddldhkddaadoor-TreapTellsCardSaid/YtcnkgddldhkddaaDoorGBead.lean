/- Beads, as values and in memory; slices of beads that lie there. -/
import Derived.Test.YtcnkgddldhkddaaDoorL9Math
import Derived.Test.YtcnkgddldhkddaaDoorGApp
import Derived.Test.YtcnkgddldhkddaaDoorGNum
import Derived.Test.YtcnkgddldhkddaaDoorGCut
import Derived.Test.YtcnkgddldhkddaaDoorProg
import Derived.IntWalk
import Derived.Deep.QuietTactic
import Derived.BigQuiet
import Derived.Outline
namespace Go.Proofs.YtcnkgddldhkddaaDoor
open Go.RowKit Go.Proofs.Treem

/-- a number of 64 bits without a sign -/
abbrev G64 (b : BitVec 64) : Value := .int .u64 (b.toNat : Int)
/-- a bead, as a value; its cells -/
abbrev bdV (b : Bd) : Value := .agg #[K b.key, K b.val, K b.sum, K b.size, G64 b.tag, .bool b.left, .bool b.right]
abbrev bdC (b : Bd) : List Value := [K b.key, K b.val, K b.sum, K b.size, G64 b.tag, .bool b.left, .bool b.right]
def flat7 (l : List Bd) : List Value := l.flatMap bdC
theorem flat7_cons (b : Bd) (l : List Bd) : flat7 (b :: l) = bdC b ++ flat7 l := rfl
theorem flat7_append (a b : List Bd) : flat7 (a ++ b) = flat7 a ++ flat7 b := by simp [flat7]
theorem flat7_length : ∀ l : List Bd, (flat7 l).length = l.length * 7
  | [] => rfl
  | b :: l => by rw [flat7_cons, List.length_append, flat7_length l, List.length_cons]; simp only [List.length_cons, List.length_nil]; omega
theorem flat7_take : ∀ (l : List Bd) (k : Nat), flat7 (l.take k) = (flat7 l).take (k * 7)
  | [], k => by simp [flat7]
  | b :: l, 0 => by simp [flat7]
  | b :: l, k + 1 => by
    rw [List.take_succ_cons, flat7_cons, flat7_cons, flat7_take l k, show (k + 1) * 7 = (bdC b).length + k * 7 by simp only [List.length_cons, List.length_nil]; omega, List.take_length_add_append]
theorem flat7_drop : ∀ (l : List Bd) (k : Nat), flat7 (l.drop k) = (flat7 l).drop (k * 7)
  | [], k => by simp [flat7]
  | b :: l, 0 => by simp
  | b :: l, k + 1 => by
    rw [List.drop_succ_cons, flat7_cons, flat7_drop l k, show (k + 1) * 7 = (bdC b).length + k * 7 by simp only [List.length_cons, List.length_nil]; omega, List.drop_length_add_append]
theorem flat7_one (l : List Bd) : ∀ u ∈ flat7 l, u.oneCell' = true := fun u hu => by
  simp only [flat7, List.mem_flatMap, List.mem_cons, List.not_mem_nil, or_false] at hu
  obtain ⟨p, _, rfl | rfl | rfl | rfl | rfl | rfl | rfl⟩ := hu <;> rfl
theorem flat7_at : ∀ (l : List Bd) (k j : Nat) (h : k < l.length), j < 7 → (flat7 l)[k * 7 + j]? = (bdC l[k])[j]?
  | [], k, j, h, _ => by simp at h
  | b :: l, 0, j, _, hj => by rw [flat7_cons, Nat.zero_mul, Nat.zero_add, List.getElem?_append_left (by simpa using hj)]; rfl
  | b :: l, k + 1, j, h, hj => by
    rw [flat7_cons, show (k + 1) * 7 + j = (k * 7 + j) + (bdC b).length by simp only [List.length_cons, List.length_nil]; omega, List.getElem?_append_right (by omega), Nat.add_sub_cancel, flat7_at l k j (by simpa using h) hj]; rfl
/-- a slice of beads that lies there -/
structure LieB (W : World) (B : Nat) (A : Option Addr) (n c : Nat) (l : List Bd) : Prop where
  len : l.length = n
  few : n ≤ 6000
  cap : n ≤ c
  max : c ≤ maxLen
  nil : A = none → c = 0
  row : Row W B A (flat7 l)
theorem LieB.next {W W' : World} {B : Nat} {A : Option Addr} {n c : Nat} {l : List Bd} (h : LieB W B A n c l) (hb : Below B W W') : LieB W' B A n c l := ⟨h.len, h.few, h.cap, h.max, h.nil, h.row.below hb⟩
theorem LieB.more {W : World} {B B' : Nat} {A : Option Addr} {n c : Nat} {l : List Bd} (h : LieB W B A n c l) (hB : B ≤ B') : LieB W B' A n c l := ⟨h.len, h.few, h.cap, h.max, h.nil, h.row.more hB⟩
theorem add_is (x : Addr) (j : Nat) : x.add (j + 1) = ⟨x.block, x.off + (j + 1), none⟩ := by simp [Addr.add]
/-- what the walk reads of bead number k -/
theorem bead_at {w : World} {B : Nat} {A : Option Addr} {n c : Nat} {l : List Bd} (h : LieB w B A n c l) (k : Nat) (hk : k < l.length) :
    ∃ ad, A = some ad ∧ ad.block < B ∧ w.cell? (ad.add (k * 7)) = some (K l[k].key) ∧ w.cell? ⟨(ad.add (k * 7)).block, (ad.add (k * 7)).off + 1, none⟩ = some (K l[k].val) ∧ w.cell? ⟨(ad.add (k * 7)).block, (ad.add (k * 7)).off + 2, none⟩ = some (K l[k].sum) ∧ w.cell? ⟨(ad.add (k * 7)).block, (ad.add (k * 7)).off + 3, none⟩ = some (K l[k].size) ∧ w.cell? ⟨(ad.add (k * 7)).block, (ad.add (k * 7)).off + 4, none⟩ = some (G64 l[k].tag) ∧ w.cell? ⟨(ad.add (k * 7)).block, (ad.add (k * 7)).off + 5, none⟩ = some (.bool l[k].left) ∧ w.cell? ⟨(ad.add (k * 7)).block, (ad.add (k * 7)).off + 6, none⟩ = some (.bool l[k].right) := by
  have hc : ∀ j, j < 7 → ∀ u, (bdC l[k])[j]? = some u → ∃ ad, A = some ad ∧ ad.block < B ∧ w.cell? (ad.add (k * 7 + j)) = some u := fun j hj u hu => h.row _ _ ((flat7_at l k j hk hj).trans hu)
  obtain ⟨ad, rfl, hb, h0⟩ := hc 0 (by omega) _ rfl
  refine ⟨ad, rfl, hb, h0, ?_, ?_, ?_, ?_, ?_, ?_⟩
  all_goals
    rw [← add_is, add_add]
  · obtain ⟨a, e, _, h1⟩ := hc 1 (by omega) _ rfl; cases e; exact h1
  · obtain ⟨a, e, _, h1⟩ := hc 2 (by omega) _ rfl; cases e; exact h1
  · obtain ⟨a, e, _, h1⟩ := hc 3 (by omega) _ rfl; cases e; exact h1
  · obtain ⟨a, e, _, h1⟩ := hc 4 (by omega) _ rfl; cases e; exact h1
  · obtain ⟨a, e, _, h1⟩ := hc 5 (by omega) _ rfl; cases e; exact h1
  · obtain ⟨a, e, _, h1⟩ := hc 6 (by omega) _ rfl; cases e; exact h1
theorem size_bead (W : World) : (sizeOf 52).run Tryd.prog W = .ok 7 W := by kernel_rfl
theorem info_bead : (Tryd.prog.info? 52).map (fun i => (i.zero, i.size, i.bytes)) = some (some (.agg #[.int .i64 0, .int .i64 0, .int .i64 0, .int .i64 0, .int .u64 0, .bool false, .bool false]), 7, 48) := by kernel_rfl
theorem LieB.of_own {W : World} {base n : Nat} {v : Value} {l : List Bd} (hl : l.length = n) (h9 : n ≤ 6000) (h : W.ownsRow base 52 7 v n (flat7 l)) : ∃ A c, v = .slice A n c ∧ LieB W W.heap.size A n c l := by
  obtain ⟨A', c', rfl, k1, k2, k3⟩ := own_slice h
  exact ⟨_, _, rfl, hl, h9, k1, k2, k3, Row.of_own h⟩
end Go.Proofs.YtcnkgddldhkddaaDoor
