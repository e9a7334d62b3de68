/- A node that was made stands; a tree's tag, its left and its right side. -/
import Derived.Test.YtifhnaelkjfmdabL9Stand
import Derived.Test.YtifhnaelkjfmdabL9Steps
import Derived.Test.YtifhnaelkjfmdabL14Math
namespace Go.Proofs.Ytifhnaelkjfmdab
open Go.RowKit Go.Proofs.Treem
set_option maxRecDepth 100000
variable {Nd : NdP}

theorem stood_of_made (hN : NodeSays Nd) {w w' : World} {L R : AT} {k v g : BitVec 64} {e : Ending} (h : Made13 Nd L R k v g w e w') : Stood Nd w L.ptr R.ptr L.tr R.tr k v g e w' := by
  obtain ⟨a, x, rfl, ⟨rfl, rfl, rfl⟩, hs, ha, hb⟩ := h
  obtain ⟨hx, hl, hr, -, -⟩ := hs.lies
  have ht := hs.tree
  obtain ⟨a', pl, pr, e1, h2, h3, h4⟩ := ht
  cases e1
  have hu := hN.uniq hx h2
  have el : pl = L.ptr := by rw [← hl, hu]
  have er : pr = R.ptr := by rw [← hr, hu]
  subst el er
  exact ⟨a, rfl, ha, h2, hs.tree, hb⟩
/-- what a tree's tag is -/
theorem TreeAt.tag (hN : NodeSays Nd) {w : World} : ∀ {t : Tr} {p : Option Addr}, TreeAt Nd w w.heap.size t p → Calls Try.prog 38 #[.pointer p] w fun e w' => e = .returned (G64 t.tag) ∧ Below w.heap.size w w'
  | .e, p, h => by
    obtain rfl : p = none := h
    exact (hN.tag0 w).mono fun e w' h => h
  | .n l k v g r, p, ⟨a, pl, pr, e, h2, h3, h4⟩ => by
    subst e
    exact (hN.tag w _ a _ h2).mono (by rintro e w' ⟨rfl, rfl⟩; exact ⟨rfl, Below.refl _ _⟩)
/-- what lies left of a tree's root, right of it -/
def Tr.lt : Tr → Tr
  | .e => .e
  | .n l .. => l
def Tr.rt : Tr → Tr
  | .e => .e
  | .n _ _ _ _ r => r
theorem TreeAt.leftT (hN : NodeSays Nd) {w : World} : ∀ {t : Tr} {p : Option Addr}, TreeAt Nd w w.heap.size t p → Calls Try.prog 16 #[.pointer p] w fun e w' => ∃ q, e = .returned (.pointer q) ∧ TreeAt Nd w' w'.heap.size (Tr.lt t) q ∧ Below w.heap.size w w'
  | .e, p, h => by
    obtain rfl : p = none := h
    exact (hN.left0 w).mono (by rintro e w' ⟨rfl, hb⟩; exact ⟨none, rfl, rfl, hb⟩)
  | .n l k v g r, p, ⟨a, pl, pr, e, h2, h3, h4⟩ => by
    subst e
    exact (hN.left w _ a _ h2).mono (by rintro e w' ⟨rfl, rfl⟩; exact ⟨pl, rfl, h3, Below.refl _ _⟩)
theorem TreeAt.rightT (hN : NodeSays Nd) {w : World} : ∀ {t : Tr} {p : Option Addr}, TreeAt Nd w w.heap.size t p → Calls Try.prog 17 #[.pointer p] w fun e w' => ∃ q, e = .returned (.pointer q) ∧ TreeAt Nd w' w'.heap.size (Tr.rt t) q ∧ Below w.heap.size w w'
  | .e, p, h => by
    obtain rfl : p = none := h
    exact (hN.right0 w).mono (by rintro e w' ⟨rfl, hb⟩; exact ⟨none, rfl, rfl, hb⟩)
  | .n l k v g r, p, ⟨a, pl, pr, e, h2, h3, h4⟩ => by
    subst e
    exact (hN.right w _ a _ h2).mono (by rintro e w' ⟨rfl, rfl⟩; exact ⟨pr, rfl, h4, Below.refl _ _⟩)
end Go.Proofs.Ytifhnaelkjfmdab
