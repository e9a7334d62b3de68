/- Package rb, as landed: Check, Part, May; it answers what layer 16's laws lean on. Made by wip/gen/layer16check.py. -/
import Derived.Test.YtifhnaelkjfmdabS16Check
import Derived.Test.YtifhnaelkjfmdabS16Well
namespace Go.Proofs.Ytifhnaelkjfmdab
open Go.RowKit Go.Proofs.Treem
set_option maxRecDepth 100000
variable {Nd : NdP}

theorem rbFirstR_any (hN : NodeSays Nd) (w : World) (t : Tr) (p : Option Addr) (ht : TreeAt Nd w w.heap.size t p) (h5 : t.size ≤ 5000) : Calls Try.prog 49 #[.pointer p] w fun e w' => e = .returned (.tuple #[nI (placeF rootR t), nI (errF rootR t)]) ∧ Below w.heap.size w w' :=
  rbFirst_any hN rootR (fun W l k v g r p h => rbFault_any hN W l k v g r p h) w t p ht h5
theorem nat_eq0 (x : Nat) : ((x : Int) == 0) = (x == 0) := by
  by_cases h : x = 0
  · rw [h]; rfl
  · rw [beq_eq_false_iff_ne.2 h, beq_eq_false_iff_ne]; omega
set_option maxHeartbeats 4000000 in
theorem rbCheck_any (hN : NodeSays Nd) (w : World) (t : Tr) (p : Option Addr) (ht : TreeAt Nd w w.heap.size t p) (h5 : t.size ≤ 5000) : Calls Try.prog 51 #[.pointer p] w fun e w' => e = .returned (.tuple #[nI (placeR t), nI (errR t)]) ∧ Below w.heap.size w w' := by
  have c1 := Lib.hid (rbFirstR_any hN w t p ht h5)
  have cE := Lib.hid (fun W (h : Below w.heap.size w W) => rbRed_any hN W t p (ht.after hN h))
  unfold placeR errR
  obtain ⟨x, hx⟩ : ∃ x, errF rootR t = x := ⟨_, rfl⟩
  obtain ⟨y, hy⟩ : ∃ x, placeF rootR t = x := ⟨_, rfl⟩
  obtain ⟨r, hr⟩ : ∃ x, redR t = x := ⟨_, rfl⟩
  rw [hx, hy] at c1
  rw [hr] at cE
  rw [hx, hy, hr]
  clear hx hy hr hN ht h5
  by_cases h0 : x = 0
  · subst h0
    cases r with
    | true =>
      rw [if_pos ⟨rfl, rfl⟩, if_pos ⟨rfl, rfl⟩]
      go_enter Try.func51, Try.ntmps51
      go_wp2_with fail
      refine c1.out.mono ?_
      rintro e w1 ⟨rfl, hb⟩
      have b1 := Lib.hid hb
      clear hb c1
      go_wp2_with fail
      refine (cE.out w1 b1.out).mono ?_
      rintro e w2 ⟨rfl, hb⟩
      have b2 := Lib.hid (Below.after b1.out hb)
      clear hb cE b1
      go_wp2
      exact bodyPost_ret (results_tmp2 rfl _ _ _) rfl ⟨rfl, b2.out⟩
    | false =>
      rw [if_neg (by simp), if_neg (by simp)]
      go_enter Try.func51, Try.ntmps51
      go_wp2_with fail
      refine c1.out.mono ?_
      rintro e w1 ⟨rfl, hb⟩
      have b1 := Lib.hid hb
      clear hb c1
      go_wp2_with fail
      refine (cE.out w1 b1.out).mono ?_
      rintro e w2 ⟨rfl, hb⟩
      have b2 := Lib.hid (Below.after b1.out hb)
      clear hb cE b1
      go_wp2
      exact bodyPost_ret (results_tmp2 rfl _ _ _) rfl ⟨rfl, b2.out⟩
  · rw [if_neg (fun h => h0 h.1), if_neg (fun h => h0 h.1)]
    have d1 : ((x : Int) == 0) = false := by rw [beq_eq_false_iff_ne]; omega
    clear cE
    go_enter Try.func51, Try.ntmps51
    go_wp2_with fail
    refine c1.out.mono ?_
    rintro e w1 ⟨rfl, hb⟩
    have b1 := Lib.hid hb
    clear hb c1
    go_wp2
    exact bodyPost_ret (results_tmp2 rfl _ _ _) rfl ⟨rfl, b1.out⟩
theorem rbPart_any (hN : NodeSays Nd) (w : World) (t : Tr) (p : Option Addr) (ht : TreeAt Nd w w.heap.size t p) (h5 : t.size ≤ 5000) : Calls Try.prog 19 #[.pointer p] w fun e w' => e = .returned (.bool (partR t)) ∧ Below w.heap.size w w' := by
  rw [partR, ← nat_eq0]
  have c1 := Lib.hid (rbFirstR_any hN w t p ht h5)
  obtain ⟨f, hf⟩ : ∃ x, errF rootR t = x := ⟨_, rfl⟩
  obtain ⟨x, hx⟩ : ∃ x, placeF rootR t = x := ⟨_, rfl⟩
  rw [hf, hx] at c1
  rw [hf]
  clear hf hx ht hN h5
  go_enter Try.func19, Try.ntmps19
  go_wp2_with fail
  refine c1.out.mono ?_
  rintro e w1 ⟨rfl, hb⟩
  have b1 := Lib.hid hb
  clear hb c1
  go_wp2
  go_ret
  exact ⟨rfl, b1.out⟩
theorem rbMay_any (hN : NodeSays Nd) (w : World) (t : Tr) (p : Option Addr) (ht : TreeAt Nd w w.heap.size t p) (h5 : t.size ≤ 5000) : Calls Try.prog 22 #[.pointer p] w fun e w' => e = .returned (.bool (mayR t)) ∧ Below w.heap.size w w' := by
  rw [mayR, ← nat_eq0]
  have c1 := Lib.hid (rbCheck_any hN w t p ht h5)
  obtain ⟨f, hf⟩ : ∃ x, errR t = x := ⟨_, rfl⟩
  obtain ⟨x, hx⟩ : ∃ x, placeR t = x := ⟨_, rfl⟩
  rw [hf, hx] at c1
  rw [hf]
  clear hf hx ht hN h5
  go_enter Try.func22, Try.ntmps22
  go_wp2_with fail
  refine c1.out.mono ?_
  rintro e w1 ⟨rfl, hb⟩
  have b1 := Lib.hid hb
  clear hb c1
  go_wp2
  go_ret
  exact ⟨rfl, b1.out⟩
theorem rb_says (hN : NodeSays Nd) : RbSays Nd where
  make := fun w L R k v red hl hr => rbMake_any hN w L R k v red hl hr
  red := fun w t p ht => rbRed_any hN w t p ht
  high := fun w t p ht => rbHigh_any' hN w t p ht
  blackNo := fun w T ht hr => rbBlackNo_any hN w T.tr T.ptr ht.tree hr
  blackYes := fun w a x L R ht hr => rbBlackYes_any hN w a x L R ht hr
  check := fun w t p ht h5 => rbCheck_any hN w t p ht h5
  part := fun w t p ht h5 => rbPart_any hN w t p ht h5
  may := fun w t p ht h5 => rbMay_any hN w t p ht h5
  rank := fun w t p ht => rbRank_any hN w t p ht
end Go.Proofs.Ytifhnaelkjfmdab
