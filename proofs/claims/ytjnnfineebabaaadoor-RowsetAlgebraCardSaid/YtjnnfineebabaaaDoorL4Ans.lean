/- What package row, and the document, answer of any row: the same, under names. -/
import Derived.Test.YtjnnfineebabaaaDoorL4Find
import Derived.Test.YtjnnfineebabaaaDoorL4PutC
namespace Go.Proofs.YtjnnfineebabaaaDoor
open Go.RowKit Go.Shelf Go.Proofs.Rowm

/-- a slice of pairs that lies there, and the table of the steps -/
structure Here (W : World) (A : Option Addr) (n c : Nat) (l : List Pr) : Prop where
  len : l.length = n
  few : n ≤ 900
  cap : n ≤ c
  nil : A = none → c = 0
  pos : 0 < W.heap.size
  steps : Steps W
  row : Row W W.heap.size A (flat l)
theorem Here.next {W W' : World} {A : Option Addr} {n c : Nat} {l : List Pr} (h : Here W A n c l) (hb : Below W.heap.size W W') : Here W' A n c l :=
  ⟨h.len, h.few, h.cap, h.nil, Nat.lt_of_lt_of_le h.pos hb.size, h.steps.below h.pos hb, h.row.next hb⟩
theorem Here.k {W : World} {A : Option Addr} {n c : Nat} {l : List Pr} (h : Here W A n c l) : n ≤ 1000 := Nat.le_trans h.few (by omega)

set_option maxHeartbeats 1000000 in
theorem own4_any (A : Option Addr) (n c : Nat) (l : List Pr) (w : World) (h : Here w A n c l) :
    Calls Tryd.prog 8 #[.slice A n c] w fun e w' => ∃ A' c', e = .returned (.slice A' n c') ∧ Here w' A' n c' l ∧ Below w.heap.size w w' := by
  obtain ⟨i0, hi, hz0, hz1, hz2⟩ := info_parts info_pair
  have h' := Lib.hid h
  have hf := h.few
  clear h
  go_enter Tryd.func8, Tryd.ntmps8
  go_wp2_with (at_builtin; refine wpList_append_row rfl _ _ 22 rfl w.heap.size 42 i0 (.agg #[.int .i64 0, .int .i64 0]) 2 16 Tryd.underlying22 hi hz0 hz1 hz2 rfl (by decide) _ 0 [] rfl (World.ownsRow_nil _ _ _ _) A n c (flat l) rfl h'.out.nil h'.out.cap ?c1 _ h'.out.row (flat_one l) (by unfold maxLen; omega) (by omega) (Nat.le_refl _) ?_)
  case c1 => rw [flat_length, h'.out.len]
  intro v w1 hown hgrow
  have hb := (Below.refl w.heap.size w).grown hgrow (Nat.le_refl _) (fun r e => by simp [Value.ownBlock] at e)
  have ho : w1.ownsRow w.heap.size 42 2 v n (flat l) := by simpa using hown
  obtain ⟨A', c', rfl, k1, k2, k3⟩ := own_slice ho
  have hh := Lib.hid (Here.mk h'.out.len h'.out.few k1 k3 (Nat.lt_of_lt_of_le h'.out.pos hb.size) (h'.out.steps.below h'.out.pos hb) (Row.of_own ho))
  have b1 := Lib.hid hb
  clear hown hgrow hb ho k1 k2 k3
  go_wp2
  go_ret
  exact ⟨_, _, rfl, hh.out, b1.out⟩

end Go.Proofs.YtjnnfineebabaaaDoor
