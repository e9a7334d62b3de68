/- The plain mathematics of layer 18: weights that are alike, trees in balance by weights, ranks; no program in it. -/
import Derived.Test.YtifhnaelkjfmdaaS14Math
namespace Go.Proofs.Treem

/-- two weights are alike -/
def likeI (a b : Int) : Bool := decide (1 ≤ a ∧ 1 ≤ b ∧ a ≤ 1099511627776 ∧ b ≤ 1099511627776 ∧ 29 * (a + b) ≤ 100 * a ∧ 29 * (a + b) ≤ 100 * b)
theorem like_iff {a b : Int} : likeI a b = true ↔ (1 ≤ a ∧ 1 ≤ b ∧ a ≤ 1099511627776 ∧ b ≤ 1099511627776 ∧ 29 * (a + b) ≤ 100 * a ∧ 29 * (a + b) ≤ 100 * b) := decide_eq_true_iff
theorem like_turn (a b : Int) : likeI a b = likeI b a := decide_eq_decide.2 (by omega)
theorem like_own (a : Int) : likeI a a = decide (1 ≤ a ∧ a ≤ 1099511627776) := decide_eq_decide.2 (by omega)
/-- alike, of trees -/
def likeT (l r : Tr) : Bool := likeI ((l.size + 1 : Nat) : Int) ((r.size + 1 : Nat) : Int)
theorem likeT_iff {l r : Tr} (h1 : l.size ≤ 100000000) (h2 : r.size ≤ 100000000) : likeT l r = true ↔ 29 * (l.size + r.size + 2) ≤ 100 * (l.size + 1) ∧ 29 * (l.size + r.size + 2) ≤ 100 * (r.size + 1) := by
  rw [likeT, like_iff]; omega
/-- what is wrong with a node -/
def rootW : Tr → Nat
  | .e => 0
  | .n l _ _ g r => if g.toNat ≠ 0 then 140 else if likeT l r = true then 0 else 8
def mayW (t : Tr) : Bool := errF rootW t == 0
theorem mayW_iff {t : Tr} : mayW t = true ↔ errF rootW t = 0 := by rw [mayW, beq_iff_eq]
theorem mayW_n {l : Tr} {k v g : BitVec 64} {r : Tr} : mayW (.n l k v g r) = true ↔ (g = 0#64 ∧ likeT l r = true) ∧ mayW l = true ∧ mayW r = true := by
  rw [mayW_iff, mayW_iff, mayW_iff, errF_n, rootW]
  have hg : g.toNat = 0 ↔ g = 0#64 := ⟨fun h => BitVec.eq_of_toNat_eq h, fun h => by rw [h]; rfl⟩
  by_cases h : g.toNat = 0
  · rw [if_neg (by simp [h])]
    cases h2 : likeT l r with
    | true => simp [hg.1 h]
    | false => simp
  · rw [if_pos h]
    constructor
    · rintro ⟨h1, -⟩; cases h1
    · rintro ⟨⟨h1, -⟩, -⟩; exact absurd (hg.2 h1) h
def makeW (l : Tr) (k v : BitVec 64) (r : Tr) : Tr := .n l k v 0#64 r
theorem make_W (l : Tr) (k v : BitVec 64) (r : Tr) : mayW (makeW l k v r) = (mayW l && mayW r && likeT l r) := by
  apply Bool.eq_iff_iff.2
  rw [makeW, mayW_n, Bool.and_eq_true, Bool.and_eq_true]
  constructor
  · rintro ⟨⟨-, h1⟩, h2, h3⟩; exact ⟨⟨h2, h3⟩, h1⟩
  · rintro ⟨⟨h2, h3⟩, h1⟩; exact ⟨⟨rfl, h1⟩, h2, h3⟩
/-- 100 times the weight of a side is at most 71 times the node's -/
theorem side_W {l : Tr} {k v g : BitVec 64} {r : Tr} (h : mayW (.n l k v g r) = true) : 100 * (l.size + 1) ≤ 71 * ((Tr.n l k v g r).size + 1) ∧ 100 * (r.size + 1) ≤ 71 * ((Tr.n l k v g r).size + 1) := by
  obtain ⟨⟨-, h1⟩, -, -⟩ := mayW_n.1 h
  rw [likeT, like_iff] at h1
  rw [Tr.size]
  omega
/-- the least weight of a height -/
def leastW : Nat → Nat
  | 0 => 1
  | h + 1 => (100 * leastW h + 70) / 71
theorem leastW_up (h : Nat) : leastW h ≤ leastW (h + 1) := by rw [leastW]; omega
theorem leastW_le {a b : Nat} (h : a ≤ b) : leastW a ≤ leastW b := by
  induction h with
  | refl => exact Nat.le_refl _
  | step _ ih => exact Nat.le_trans ih (leastW_up _)
theorem weight_least : ∀ t : Tr, mayW t = true → leastW t.high ≤ t.size + 1
  | .e, _ => Nat.le_refl _
  | .n l k v g r, h => by
    obtain ⟨-, h1, h2⟩ := mayW_n.1 h
    have k1 := weight_least l h1
    have k2 := weight_least r h2
    obtain ⟨k3, k4⟩ := side_W h
    rw [Tr.high, Nat.add_comm, leastW]
    rcases Nat.le_total l.high r.high with hc | hc
    · rw [Nat.max_eq_right hc]; omega
    · rw [Nat.max_eq_left hc]; omega
theorem weight_high {t : Tr} (h : mayW t = true) (hs : t.size ≤ 400) : t.high ≤ 16 := by
  have h1 := weight_least t h
  by_cases hc : t.high ≤ 16
  · exact hc
  · have h2 := leastW_le (show 17 ≤ t.high by omega)
    have h3 : 402 ≤ leastW 17 := by decide
    omega
/-- the rank of a tree of so many nodes -/
def rankN (n : Nat) : Nat := Nat.log2 (n + 1)
theorem log_two {w : Nat} (h : 2 ≤ w) : Nat.log2 w = Nat.log2 (w / 2) + 1 := by rw [Nat.log2_def w, if_pos h]
theorem log_one {w : Nat} (h : w ≤ 1) : Nat.log2 w = 0 := by rw [Nat.log2_def w, if_neg (by omega)]
end Go.Proofs.Treem
