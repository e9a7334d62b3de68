/- The contract of Split of package sift. -/
import Derived.Test.YtjjhmenkgcldeaaL6Keep
import Derived.OwnWalk
namespace Go.Proofs.Ytjjhmenkgcldeaa
open Go.RowKit Go.Shelf Go.Proofs.Rowm Go.Proofs.Siftm

/-- a call that makes two slices, and tells whether it could -/
def SplitH (W : World) (m m' : Nat) (l l' : List Pr) (e : Ending) (w' : World) : Prop :=
  ∃ A c A' c', e = .returned (.tuple #[.slice A m c, .slice A' m' c', .int .i64 0]) ∧ Lies w' A m c l ∧ Lies w' A' m' c' l' ∧ Below W.heap.size W w'

set_option maxHeartbeats 1000000 in
theorem split_no (p : Pd) (hm : may p = false) (A : Option Addr) (n c : Nat) (w : World) : Calls Try.prog 9 #[pdV p, .slice A n c] w fun e w' => e = .returned (.tuple #[.slice none 0 0, .slice none 0 0, .int .i64 2]) ∧ Below w.heap.size w w' := by
  have b0 := Lib.hid ((Below.refl w.heap.size w).alloc (Nat.le_refl _) (.cells (pdC p) 23))
  go_enter Try.func9, Try.ntmps9
  go_wp2_with fail
  refine (keep_no p hm A n c _).mono ?_
  rintro e w1 ⟨rfl, hb⟩
  have b1 := Lib.hid (Below.after b0.out hb)
  clear hb
  go_wp2
  go_ret3
  exact ⟨rfl, b1.out⟩

set_option maxHeartbeats 1000000 in
theorem split_yes (p : Pd) (hm : may p = true) (A : Option Addr) (n c : Nat) (l s t : List Pr) (i j : Nat) (hs : keep p l = s) (hsi : s.length = i) (ht : keep (flip p) l = t) (htj : t.length = j) (w : World) (h : Lies w A n c l) : Calls Try.prog 9 #[pdV p, .slice A n c] w (SplitH w i j s t) := by
  have b0 := Lib.hid ((Below.refl w.heap.size w).alloc (Nat.le_refl _) (.cells (pdC p) 23))
  have g0 := Lib.hid (Has.new w 23 (pdC p))
  have h0 := Lib.hid (h.next b0.out)
  have h' := Lib.hid h
  have k1 := Lib.hid (fun A n c W hW => keep_yes p hm A n c l s i hs hsi W hW)
  have k2 := Lib.hid (fun A n c W hW => keep_yes (flip p) hm A n c l t j ht htj W hW)
  clear h hs hsi ht htj
  go_enter Try.func9, Try.ntmps9
  go_wp2_with fail
  refine (k1.out A n c _ h0.out).mono ?_
  rintro e w1 ⟨A1, c1, rfl, hh, ha, hb⟩
  have g1 := g0.out.next hb
  have b1 := Lib.hid (Below.after b0.out hb)
  have x1 := Lib.hid (hh.far (p := ⟨w.heap.size, 3, none⟩) (fun ad e => by have := ha ad e; rw [World.size_alloc] at this; exact this) (.bool !p.n))
  obtain ⟨d0, d1, d2, d3⟩ := pd_cells p _ _ g1
  have f3 := g1.free 3
  have b2 := Lib.hid (b1.out.setCell (p := ⟨w.heap.size, 3, none⟩) (Nat.le_refl _) (.bool !p.n))
  have h2 := Lib.hid (h'.out.next b2.out)
  clear hb hh ha g1 g0 h0 h'
  go_wp2_with fail
  refine (k2.out A n c _ h2.out).mono ?_
  rintro e w2 ⟨A2, c2, rfl, hh, _, hb⟩
  have b3 := Lib.hid (Below.after b2.out hb)
  have x2 := Lib.hid (x1.out.next hb)
  have y2 := Lib.hid hh
  clear hb hh
  go_wp2
  go_ret3
  exact ⟨_, _, _, _, rfl, x2.out, y2.out, b3.out⟩
end Go.Proofs.Ytjjhmenkgcldeaa
