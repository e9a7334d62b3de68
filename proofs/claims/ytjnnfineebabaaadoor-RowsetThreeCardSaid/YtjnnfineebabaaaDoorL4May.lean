/- The contract of May of package row. -/
import Derived.Test.YtjnnfineebabaaaDoorL4Sum
import Derived.Test.YtjnnfineebabaaaDoorL2Cmp
namespace Go.Proofs.YtjnnfineebabaaaDoor
open Go.RowKit Go.Shelf Go.Proofs.Rowm
attribute [local go_sem] Oper.semAt_some

theorem nb_at (l : List Pr) (k : Nat) (h : k < (nb l).length) : (nb l)[k] = (l[k]'(by rw [nb_len] at h; omega), l[k + 1]'(by rw [nb_len] at h; omega)) := by simp [nb]
theorem rises_nb {o : Nat} {l : List Pr} (h : ∀ p ∈ nb l, num o p.1.1 < num o p.2.1) : rises o l = true := rises_of o l fun i hi => by
  have hl : i < (nb l).length := by rw [nb_len]; omega
  have := h _ (List.getElem_mem hl)
  rw [nb_at l i hl] at this
  exact this
theorem fallen_nb {o : Nat} {l : List Pr} {p : Pr × Pr} (hp : p ∈ nb l) (h : ¬ num o p.1.1 < num o p.2.1) : mayB o l = false := by
  obtain ⟨i, hi, rfl⟩ := List.getElem_of_mem hp
  rw [nb_at l i hi] at h
  rw [nb_len] at hi
  exact fallen (by omega) h

set_option maxRecDepth 100000 in
set_option maxHeartbeats 2000000 in
theorem rowMay_none (o : Nat) (h : ¬ (1 ≤ (o : Int) ∧ (o : Int) ≤ 7)) (A : Option Addr) (m c : Nat) (w : World) :
    Calls Tryd.prog 25 #[.int .u8 o, .slice A m c] w fun e w' => e = .returned (.bool false) ∧ Below w.heap.size w w' := by
  have h' := Lib.hid h
  clear h
  go_enter Tryd.func25, Tryd.ntmps25
  go_wp2_with fail
  refine (code_none o h'.out 0#64 _).mono ?_
  rintro e w1 ⟨rfl, hb⟩
  have b0 : Below w.heap.size w ((w.alloc (.cells #[.int .u8 o] 5)).alloc (.cells #[.bool false] 4)) := ((Below.refl _ w).alloc (Nat.le_refl _) _).alloc (by simp) _
  have bR := Boxed.new (w.alloc (.cells #[.int .u8 o] 5)) 4 (.bool false)
  rw [World.size_alloc] at bR
  have bR1 := Lib.hid (boxed_below bR hb (by simp))
  have b1 := Lib.hid (Below.after b0 hb)
  have cR := bR1.out.cell
  have fR := bR1.out.frozen
  clear hb b0 bR
  go_wp2
  have d0 := (bR1.out.set (.bool false)).cell
  exact bodyPost_ret (v := .bool false) (by simp [results, Tryd.results25, go_sem, d0]) rfl ⟨rfl, b1.out.setCell (by simp) _⟩
end Go.Proofs.YtjnnfineebabaaaDoor
