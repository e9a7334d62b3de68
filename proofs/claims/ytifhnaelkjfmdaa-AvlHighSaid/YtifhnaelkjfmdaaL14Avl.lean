/- Package avl, as landed: it answers what layer 14's laws lean on. -/
import Derived.Test.YtifhnaelkjfmdaaS14Check
namespace Go.Proofs.Ytifhnaelkjfmdaa
open Go.RowKit Go.Proofs.Treem
set_option maxRecDepth 100000
variable {Nd : NdP}

theorem root_A (l : Tr) (k v g : BitVec 64) (r : Tr) : rootA (.n l k v g r) = if decide (g.toNat ≠ max l.tag.toNat r.tag.toNat + 1) = true then 140 else if decide (1 < max l.tag.toNat r.tag.toNat - min l.tag.toNat r.tag.toNat) = true then 8 else 0 := by
  rw [rootA, oneA]
  simp only [decide_eq_true_eq]
/-- what the landed Check answers -/
theorem checkA_any (hN : NodeSays Nd) (w : World) (t : Tr) (p : Option Addr) (ht : TreeAt Nd w w.heap.size t p) (h5 : t.size ≤ 5000) : Calls Try.prog 35 #[.pointer p] w fun e w' => e = .returned (.tuple #[nI (placeA t), nI (errA t)]) ∧ Below w.heap.size w w' := by
  have h := check14_any hN rootA (fun t => decide (t.tag.toNat ≠ max (Tr.lt t).tag.toNat (Tr.rt t).tag.toNat + 1)) (fun t => decide (1 < max (Tr.lt t).tag.toNat (Tr.rt t).tag.toNat - min (Tr.lt t).tag.toNat (Tr.rt t).tag.toNat))
    (fun W t p h => missTag_any hN W t p h) (fun W t p h => missGap_any hN W t p h) (fun l k v g r => root_A l k v g r) w t p ht h5
  rw [errF_A, placeF_A] at h
  exact h
theorem may_eq (t : Tr) : mayA t = ((errA t : Int) == 0) := by
  unfold mayA
  by_cases h : errA t = 0
  · rw [h]; rfl
  · rw [beq_eq_false_iff_ne.2 h, beq_eq_false_iff_ne.2 (show ((errA t : Nat) : Int) ≠ 0 by omega)]
theorem avlMay_any (hN : NodeSays Nd) (w : World) (t : Tr) (p : Option Addr) (ht : TreeAt Nd w w.heap.size t p) (h5 : t.size ≤ 5000) : Calls Try.prog 39 #[.pointer p] w fun e w' => e = .returned (.bool (mayA t)) ∧ Below w.heap.size w w' := by
  rw [may_eq]
  have c1 := Lib.hid (checkA_any hN w t p ht h5)
  obtain ⟨f, hf⟩ : ∃ x, errA t = x := ⟨_, rfl⟩
  obtain ⟨x, hx⟩ : ∃ x, placeA t = x := ⟨_, rfl⟩
  rw [hf, hx] at c1
  rw [hf]
  clear hf hx ht hN h5
  go_enter Try.func39, Try.ntmps39
  go_wp2_with fail
  refine c1.out.mono ?_
  rintro e w1 ⟨rfl, hb⟩
  have b1 := Lib.hid hb
  clear hb c1
  go_wp2
  go_ret
  exact ⟨rfl, b1.out⟩
theorem avl_says (hN : NodeSays Nd) : AvlSays Nd where
  make := fun w L R k v hl hr => avlMake_any hN w L R k v hl hr
  check := fun w t p ht h5 => checkA_any hN w t p ht h5
  may := fun w t p ht h5 => avlMay_any hN w t p ht h5
  rank := fun w t p ht => avlRank_any hN w t p ht
  lean := fun w t p ht => avlLean_any hN w t p ht
end Go.Proofs.Ytifhnaelkjfmdaa
