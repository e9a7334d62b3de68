/- The document's own answers of layer 9: Of. -/
import Derived.Test.YthhhkcjggfdagaaL9Parts
import Derived.Deep.RegionLaw
namespace Go.Proofs.Ythhhkcjggfdagaa
open Go.RowKit Go.Proofs.Treem

theorem sum_pre : ∀ (t : Tr) (a : BitVec 64), t.pre.foldl (fun s b => s + b.val) a = a + t.sum
  | .e, a => by simp [Tr.pre, Tr.sum]
  | .n l k v g r, a => by
    simp only [Tr.pre, Tr.sum, List.foldl_cons, List.foldl_append, sum_pre l, sum_pre r]
    ac_rfl
theorem sum_strip {l : List Bd} {t : Tr} (h : l.map strip = t.pre) : sumB l = t.sum := by
  have := sum_pre t 0#64
  rw [← h, List.foldl_map] at this
  rw [sumB]
  exact this.trans (by simp)
theorem size_bits {n : Nat} (h : n ≤ 6000) : (BitVec.ofNat 64 n).toInt = (n : Int) := by
  rw [BitVec.toInt_eq_toNat_of_lt (by rw [BitVec.toNat_ofNat]; omega), BitVec.toNat_ofNat]; omega

theorem Has.seven {w : World} {g : Nat} {t : TypeId} {v0 v1 v2 v3 v4 v5 v6 : Value} (h : Has w g t #[v0, v1, v2, v3, v4, v5, v6]) :
    w.cell? ⟨g, 0, none⟩ = some v0 ∧ w.cell? ⟨g, 1, none⟩ = some v1 ∧ w.cell? ⟨g, 2, none⟩ = some v2 ∧ w.cell? ⟨g, 3, none⟩ = some v3 ∧ w.cell? ⟨g, 4, none⟩ = some v4 ∧ w.cell? ⟨g, 5, none⟩ = some v5 ∧ w.cell? ⟨g, 6, none⟩ = some v6 :=
  ⟨h.cell 0, h.cell 1, h.cell 2, h.cell 3, h.cell 4, h.cell 5, h.cell 6⟩

end Go.Proofs.Ythhhkcjggfdagaa
