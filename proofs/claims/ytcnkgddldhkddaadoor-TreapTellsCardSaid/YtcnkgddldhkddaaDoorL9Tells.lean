/- Layer 9: the statement NodeTells, walked; which arguments make trees. -/
import Derived.Test.YtcnkgddldhkddaaDoorL9Rules
namespace Go.Proofs.YtcnkgddldhkddaaDoor
open Go.RowKit Go.Proofs.Treem
set_option maxRecDepth 100000
variable {Nd : NdP}

/-- what Long says of a slice, now and later -/
def LongAt (w : World) (A : Option Addr) (n c : Nat) (b : Bool) : Prop := ∀ W : World, Below w.heap.size w W → Calls Tryd.prog 7 #[.slice A n c] W fun e w' => e = .returned (.bool b) ∧ W = w'
/-- beads that came in and are those of a tree -/
structure TreeIn (w : World) (A : Option Addr) (n c : Nat) (l : List Bd) (t : Tr) : Prop where
  lie : LieB w w.heap.size A n c l
  pre : l.map strip = t.pre
  size : t.size = n
  few : n ≤ 400
theorem long_or {w : World} {A : Option Addr} {n c : Nat} {l : List Bd} (hl : l.length = n) (hn : n ≤ c) (hc : c ≤ maxLen) (hz : A = none → c = 0) (hr : Row w w.heap.size A (flat7 l)) :
    LongAt w A n c true ∨ (LongAt w A n c false ∧ ∃ t, TreeIn w A n c l t) := by
  by_cases h : 400 < n
  · exact .inl fun W _ => long9_many A n c h (Nat.le_trans hn hc) W
  · have hlie : LieB w w.heap.size A n c l := ⟨hl, by omega, hn, hc, hz, hr⟩
    cases hm : mayB (l.map strip) with
    | false => exact .inl fun W hW => long9_few A n c _ l false (by omega) W (hlie.next hW) hm
    | true =>
      obtain ⟨t, ht⟩ := may_tree hm
      refine .inr ⟨fun W hW => long9_few A n c _ l true (by omega) W (hlie.next hW) hm, t, hlie, ht.symm, ?_, by omega⟩
      rw [← pre_len, ht, List.length_map, hl]
/-- Make, Of of what came in, at any later world -/
theorem TreeIn.make {w : World} {A : Option Addr} {n c : Nat} {l : List Bd} {t : Tr} (h : TreeIn w A n c l t) (hN : NodeSays Nd) (W : World) (hW : Below w.heap.size w W) :
    Calls Tryd.prog 9 #[.slice A n c] W fun e w' => ∃ p, e = .returned (.pointer p) ∧ TreeAt Nd w' w'.heap.size t p ∧ Below W.heap.size W w' :=
  make9 hN t A n c w.heap.size l h.pre h.size (Nat.le_trans h.few (by decide)) W hW.size (h.lie.next hW)
theorem TreeIn.of {w : World} {A : Option Addr} {n c : Nat} {l : List Bd} {t : Tr} (h : TreeIn w A n c l t) (W : World) (hW : Below w.heap.size w W) :
    Calls Tryd.prog 26 #[.slice A n c] W fun e w' => ∃ A' c', e = .returned (.slice A' n c') ∧ LieB w' w'.heap.size A' n c' t.told ∧ Below W.heap.size W w' := by
  refine (of9 t A n c w.heap.size l h.pre h.size (Nat.le_trans h.few (by decide)) W hW.size (h.lie.next hW)).mono ?_
  rintro e w' ⟨v, rfl, ho, hb⟩
  have hf := h.few
  obtain ⟨A', c', rfl, k⟩ := LieB.of_own (by rw [told_len, h.size]) (by omega) ho
  exact ⟨A', c', rfl, k, hb⟩
theorem LieB.after {w w' : World} {A : Option Addr} {n c : Nat} {l : List Bd} (h : LieB w w.heap.size A n c l) (hb : Below w.heap.size w w') : LieB w' w'.heap.size A n c l := (h.next hb).more hb.size

end Go.Proofs.YtcnkgddldhkddaaDoor
