/- What package rb has to answer (layer 16). -/
import Derived.Test.YtifhnaelkjfmdabL16Math
import Derived.Test.YtifhnaelkjfmdabL14Tag
import Derived.Test.YtifhnaelkjfmdabL9Part
namespace Go.Proofs.Ytifhnaelkjfmdab
open Go.RowKit Go.Proofs.Treem
set_option maxRecDepth 100000
variable {Nd : NdP}

/-- what the functions of package rb have to answer -/
structure RbSays (Nd : NdP) : Prop where
  make : ∀ (w : World) (L R : AT) (k v : BitVec 64) (red : Bool), Stand Nd w L → Stand Nd w R → Calls Try.prog 12 #[.pointer L.ptr, K k, K v, .bool red, .pointer R.ptr] w (Made13 Nd L R k v (tagR L.tr red) w)
  red : ∀ (w : World) (t : Tr) (p : Option Addr), TreeAt Nd w w.heap.size t p → Calls Try.prog 21 #[.pointer p] w fun e w' => e = .returned (.bool (redR t)) ∧ Below w.heap.size w w'
  high : ∀ (w : World) (t : Tr) (p : Option Addr), TreeAt Nd w w.heap.size t p → Calls Try.prog 20 #[.pointer p] w fun e w' => e = .returned (nI (highR t)) ∧ Below w.heap.size w w'
  blackNo : ∀ (w : World) (T : AT), Stand Nd w T → redR T.tr = false → Calls Try.prog 14 #[.pointer T.ptr] w fun e w' => e = .returned (.pointer T.ptr) ∧ Below w.heap.size w w'
  blackYes : ∀ (w : World) (a : Addr) (x : No) (L R : AT), Stand Nd w (.n a x L R) → redR (AT.n a x L R).tr = true → Calls Try.prog 14 #[.pointer (some a)] w (Made13 Nd L R x.k x.v (x.g + 1#64) w)
  check : ∀ (w : World) (t : Tr) (p : Option Addr), TreeAt Nd w w.heap.size t p → t.size ≤ 5000 → Calls Try.prog 51 #[.pointer p] w fun e w' => e = .returned (.tuple #[nI (placeR t), nI (errR t)]) ∧ Below w.heap.size w w'
  part : ∀ (w : World) (t : Tr) (p : Option Addr), TreeAt Nd w w.heap.size t p → t.size ≤ 5000 → Calls Try.prog 19 #[.pointer p] w fun e w' => e = .returned (.bool (partR t)) ∧ Below w.heap.size w w'
  may : ∀ (w : World) (t : Tr) (p : Option Addr), TreeAt Nd w w.heap.size t p → t.size ≤ 5000 → Calls Try.prog 22 #[.pointer p] w fun e w' => e = .returned (.bool (mayR t)) ∧ Below w.heap.size w w'
  rank : ∀ (w : World) (t : Tr) (p : Option Addr), TreeAt Nd w w.heap.size t p → Calls Try.prog 26 #[.pointer p] w fun e w' => e = .returned (K (rankR t)) ∧ Below w.heap.size w w'
/-- what Make makes of any two trees -/
theorem RbSays.makeT (hN : NodeSays Nd) (hS : RbSays Nd) (w : World) (t u : Tr) (p q : Option Addr) (k v : BitVec 64) (red : Bool) (h1 : TreeAt Nd w w.heap.size t p) (h2 : TreeAt Nd w w.heap.size u q) :
    Calls Try.prog 12 #[.pointer p, K k, K v, .bool red, .pointer q] w (Stood Nd w p q t u k v (tagR t red)) := by
  obtain ⟨L, rfl, hL, rfl⟩ := AT.of_tree t p h1
  obtain ⟨R, rfl, hR, rfl⟩ := AT.of_tree u q h2
  exact (hS.make w L R k v red ⟨hL, h1⟩ ⟨hR, h2⟩).mono fun e w' h => stood_of_made hN h
/-- Blacken of a tree that is black -/
theorem RbSays.blackN (hS : RbSays Nd) (w : World) (t : Tr) (p : Option Addr) (h : TreeAt Nd w w.heap.size t p) (hr : redR t = false) :
    Calls Try.prog 14 #[.pointer p] w fun e w' => e = .returned (.pointer p) ∧ Below w.heap.size w w' := by
  obtain ⟨T, rfl, hT, rfl⟩ := AT.of_tree t p h
  exact hS.blackNo w T ⟨hT, h⟩ hr
/-- Blacken of one that is red -/
theorem RbSays.blackY (hN : NodeSays Nd) (hS : RbSays Nd) (w : World) (tl tr : Tr) (k v g : BitVec 64) (a : Addr) (pl pr : Option Addr) (s m : BitVec 64) (hx : Nd w w.heap.size a ⟨pl, pr, k, v, g, s, m⟩) (h : TreeAt Nd w w.heap.size (.n tl k v g tr) (some a)) (hr : redR (.n tl k v g tr) = true) :
    Calls Try.prog 14 #[.pointer (some a)] w (Stood Nd w pl pr tl tr k v (g + 1#64)) := by
  obtain ⟨T, e1, hT, e2⟩ := AT.of_tree _ _ h
  cases T with
  | e => cases e1
  | n b x L R =>
    cases e1
    cases e2
    have hu := hN.uniq hT.1 hx
    have el : pl = L.ptr := by rw [← hT.2.1, hu]
    have er : pr = R.ptr := by rw [← hT.2.2.1, hu]
    subst el er
    exact (hS.blackYes w _ x L R ⟨hT, h⟩ hr).mono fun e w' h => stood_of_made hN h
/-- .. of any tree -/
theorem RbSays.blackT (hN : NodeSays Nd) (hS : RbSays Nd) (w : World) (t : Tr) (p : Option Addr) (h : TreeAt Nd w w.heap.size t p) :
    Calls Try.prog 14 #[.pointer p] w fun e w' => ∃ q, e = .returned (.pointer q) ∧ TreeAt Nd w' w'.heap.size (blackR t) q ∧ Below w.heap.size w w' := by
  cases hr : redR t with
  | false =>
    rw [black_no hr]
    exact (hS.blackN w t p h hr).mono fun e w' ⟨h1, h2⟩ => ⟨p, h1, h.after hN h2, h2⟩
  | true =>
    cases t with
    | e => cases hr
    | n tl k v g tr =>
      rw [black_yes hr]
      obtain ⟨a, pl, pr, rfl, h2, h3, h4⟩ := h
      exact (hS.blackY hN w tl tr k v g a pl pr _ _ h2 ⟨a, pl, pr, rfl, h2, h3, h4⟩ hr).mono fun e w' ⟨b, k1, _, _, k4, k5⟩ => ⟨some b, k1, k4, k5⟩
/-- the example's two trees -/
def exA : Tr := makeR .e 1#64 0#64 false .e
def exB : Tr := makeR .e 1#64 0#64 true .e
end Go.Proofs.Ytifhnaelkjfmdab
