/- Layer 18: what package wb has to answer. Made by wip/gen/layer18laws.py. -/
import Derived.Test.YtifhnaelkjfmdaaL18Ref
import Derived.Test.YtifhnaelkjfmdaaL9Part
namespace Go.Proofs.Ytifhnaelkjfmdaa
open Go.RowKit Go.Proofs.Treem
set_option maxRecDepth 100000
variable {Nd : NdP}

/-- what the functions of package wb have to answer -/
structure WbSays (Nd : NdP) : Prop where
  make : ∀ (w : World) (L R : AT) (k v : BitVec 64), Stand Nd w L → Stand Nd w R → Calls Try.prog 27 #[.pointer L.ptr, K k, K v, .pointer R.ptr] w (Made13 Nd L R k v 0#64 w)
  like : ∀ (w : World) (a b : Int), -9223372036854775808 ≤ a → a ≤ 9223372036854775807 → -9223372036854775808 ≤ b → b ≤ 9223372036854775807 → Calls Try.prog 25 #[.int .i64 a, .int .i64 b] w fun e w' => e = .returned (.bool (likeI a b)) ∧ Below w.heap.size w w'
  weight : ∀ (w : World) (t : Tr) (p : Option Addr), TreeAt Nd w w.heap.size t p → t.size ≤ 5000 → Calls Try.prog 22 #[.pointer p] w fun e w' => e = .returned (nI (t.size + 1)) ∧ Below w.heap.size w w'
  check : ∀ (w : World) (t : Tr) (p : Option Addr), TreeAt Nd w w.heap.size t p → t.size ≤ 5000 → Calls Try.prog 18 #[.pointer p] w fun e w' => e = .returned (.tuple #[nI (placeF rootW t), nI (errF rootW t)]) ∧ Below w.heap.size w w'
  may : ∀ (w : World) (t : Tr) (p : Option Addr), TreeAt Nd w w.heap.size t p → t.size ≤ 5000 → Calls Try.prog 20 #[.pointer p] w fun e w' => e = .returned (.bool (mayW t)) ∧ Below w.heap.size w w'
  rank : ∀ (w : World) (t : Tr) (p : Option Addr), TreeAt Nd w w.heap.size t p → t.size ≤ 5000 → Calls Try.prog 23 #[.pointer p] w fun e w' => e = .returned (nI (rankN t.size)) ∧ Below w.heap.size w w'
/-- what Make makes of any two trees -/
theorem WbSays.makeT (hN : NodeSays Nd) (hS : WbSays Nd) (w : World) (t u : Tr) (p q : Option Addr) (k v : BitVec 64) (h1 : TreeAt Nd w w.heap.size t p) (h2 : TreeAt Nd w w.heap.size u q) :
    Calls Try.prog 27 #[.pointer p, K k, K v, .pointer q] w (Stood Nd w p q t u k v 0#64) := by
  obtain ⟨L, rfl, hL, rfl⟩ := AT.of_tree t p h1
  obtain ⟨R, rfl, hR, rfl⟩ := AT.of_tree u q h2
  exact (hS.make w L R k v ⟨hL, h1⟩ ⟨hR, h2⟩).mono fun e w' h => stood_of_made hN h
/-- the example's trees -/
def exU : Tr := makeW .e 1#64 0#64 .e
def exV : Tr := makeW .e 3#64 0#64 .e
def exX : Tr := makeW exU 2#64 0#64 exV
def exY : Tr := makeW exX 4#64 0#64 exU
def exZ : Tr := makeW exX 4#64 0#64 exX
end Go.Proofs.Ytifhnaelkjfmdaa
