/- The contracts of May and Takes of package sift. -/
import Derived.Test.YtjjhmenkgcldeaaL6Take
namespace Go.Proofs.Ytjjhmenkgcldeaa
open Go.RowKit Go.Shelf Go.Proofs.Rowm Go.Proofs.Siftm

set_option maxHeartbeats 1000000 in
theorem may_any (p : Pd) (w : World) : Calls Try.prog 10 #[pdV p] w fun e w' => e = .returned (.bool (may p)) ∧ Below w.heap.size w w' := by
  have b0 := Lib.hid ((Below.refl w.heap.size w).alloc (Nat.le_refl _) (.cells (pdC p) 23))
  go_enter Try.func10, Try.ntmps10
  go_wp2_with fail
  cases hm : may p with
  | false =>
    refine (taker_no p hm _).mono ?_
    rintro e w1 ⟨rfl, hb⟩
    have b1 := Lib.hid (Below.after b0.out hb)
    clear hb
    go_wp2
    go_ret
    exact ⟨by rw [hm]; rfl, b1.out⟩
  | true =>
    refine (taker_yes p hm _).mono ?_
    rintro e w1 ⟨rr, pp, rfl, _, hb⟩
    have b1 := Lib.hid (Below.after b0.out hb)
    clear hb
    go_wp2
    go_ret
    exact ⟨by rw [hm]; rfl, b1.out⟩

set_option maxHeartbeats 1000000 in
theorem takes_any (p : Pd) (x : Pr) (w : World) : Calls Try.prog 12 #[pdV p, pV x] w fun e w' => e = .returned (.bool (takes p x)) ∧ Below w.heap.size w w' := by
  have b0 := Lib.hid (((Below.refl w.heap.size w).alloc (Nat.le_refl _) (.cells (pdC p) 23)).alloc (by simp) (.cells #[K x.1, K x.2] 25))
  have hx := Has.new (w.alloc (.cells (pdC p) 23)) 25 #[K x.1, K x.2]
  rw [World.size_alloc] at hx
  have g0 := Lib.hid hx
  clear hx
  go_enter Try.func12, Try.ntmps12
  go_wp2_with fail
  cases hm : may p with
  | false =>
    have ht := takes_not hm x
    refine (taker_no p hm _).mono ?_
    rintro e w1 ⟨rfl, hb⟩
    have b1 := Lib.hid (Below.after b0.out hb)
    clear hb
    go_wp2
    go_ret
    exact ⟨by rw [ht]; rfl, b1.out⟩
  | true =>
    refine (taker_yes p hm _).mono ?_
    rintro e w1 ⟨rr, pp, rfl, hC, hb⟩
    have b1 := Lib.hid (Below.after b0.out hb)
    have g1 := g0.out.next hb
    have c0 := g1.c0
    have c1 := g1.c1
    have hC' := Lib.hid (hC x w1 (Below.refl _ _))
    clear hb hC g0 g1
    go_wp2_with (go_at_call 21; refine hC'.out.mono ?_; rintro e w2 ⟨rfl, hb⟩; have b2 := Lib.hid (Below.after b1.out hb); clear hb)
    go_ret
    exact ⟨rfl, b2.out⟩
end Go.Proofs.Ytjjhmenkgcldeaa
