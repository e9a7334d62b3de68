/- Package wb, as landed: it answers what layer 18's laws lean on. Made by wip/gen/layer18check.py. -/
import Derived.Test.YtifhnaelkjfmdaaS18Check
namespace Go.Proofs.Ytifhnaelkjfmdaa
open Go.RowKit Go.Proofs.Treem
set_option maxRecDepth 100000
variable {Nd : NdP}

theorem nat_eq18 (x : Nat) : ((x : Int) == 0) = (x == 0) := by
  by_cases h : x = 0
  · rw [h]; rfl
  · rw [beq_eq_false_iff_ne.2 h, beq_eq_false_iff_ne]; omega
theorem wbMay_any (hN : NodeSays Nd) (w : World) (t : Tr) (p : Option Addr) (ht : TreeAt Nd w w.heap.size t p) (h5 : t.size ≤ 5000) : Calls Try.prog 20 #[.pointer p] w fun e w' => e = .returned (.bool (mayW t)) ∧ Below w.heap.size w w' := by
  rw [mayW, ← nat_eq18]
  have c1 := Lib.hid (wbCheck_any hN w t p ht h5)
  obtain ⟨f, hf⟩ : ∃ x, errF rootW t = x := ⟨_, rfl⟩
  obtain ⟨x, hx⟩ : ∃ x, placeF rootW t = x := ⟨_, rfl⟩
  rw [hf, hx] at c1
  rw [hf]
  clear hf hx ht hN h5
  go_enter Try.func20, Try.ntmps20
  go_wp2_with fail
  refine c1.out.mono ?_
  rintro e w1 ⟨rfl, hb⟩
  have b1 := Lib.hid hb
  clear hb c1
  go_wp2
  go_ret
  exact ⟨rfl, b1.out⟩
theorem wb_says (hN : NodeSays Nd) : WbSays Nd where
  make := fun w L R k v hl hr => wbMake_any hN w L R k v hl hr
  like := fun w a b a0 a1 b0 b1 => wbLike_any w a b a0 a1 b0 b1
  weight := fun w t p ht h5 => wbWeight_any hN w t p ht h5
  check := fun w t p ht h5 => wbCheck_any hN w t p ht h5
  may := fun w t p ht h5 => wbMay_any hN w t p ht h5
  rank := fun w t p ht h5 => wbRank_any hN w t p ht h5
end Go.Proofs.Ytifhnaelkjfmdaa
