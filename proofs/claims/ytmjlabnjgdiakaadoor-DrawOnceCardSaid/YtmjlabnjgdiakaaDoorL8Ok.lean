/- What package draw has to answer (layer 8): a draws' state lies in blocks of its own (its footprint), and Next turns these alone. -/
import Derived.Test.YtmjlabnjgdiakaaDoorL8Math
import Derived.Test.YtmjlabnjgdiakaaDoorL1Fwd
import Derived.Test.YtmjlabnjgdiakaaDoorGApp
namespace Go.Proofs.YtmjlabnjgdiakaaDoor
open Go.RowKit Go.Proofs.Mixm

/-- all that lies is as it was, but for some blocks -/
structure But (S : Nat → Prop) (w w' : World) : Prop where
  os : w'.os = w.os
  tape : w'.tape = w.tape
  output : w'.output = w.output
  size : w.heap.size ≤ w'.heap.size
  block : ∀ i, i < w.heap.size → ¬ S i → w'.heap[i]? = w.heap[i]?
theorem But.refl (S : Nat → Prop) (w : World) : But S w w := ⟨rfl, rfl, rfl, Nat.le_refl _, fun _ _ _ => rfl⟩
theorem But.of_below {S : Nat → Prop} {w w' : World} (h : Below w.heap.size w w') : But S w w' := ⟨h.os, h.tape, h.output, h.size, fun i hi _ => h.block i hi⟩
theorem But.below {S : Nat → Prop} {w w' : World} {B : Nat} (h : But S w w') (hB : B ≤ w.heap.size) (hS : ∀ i, S i → B ≤ i) : Below B w w' :=
  ⟨h.os, h.tape, h.output, h.size, fun i hi => h.block i (Nat.lt_of_lt_of_le hi hB) fun hs => absurd (hS i hs) (by omega)⟩
theorem But.trans {S S' : Nat → Prop} {w w1 w2 : World} (h : But S w w1) (k : But S' w1 w2) (hS : ∀ i, S' i → S i ∨ w.heap.size ≤ i) : But S w w2 :=
  ⟨k.os.trans h.os, k.tape.trans h.tape, k.output.trans h.output, Nat.le_trans h.size k.size, fun i hi hn => by
    rw [k.block i (Nat.lt_of_lt_of_le hi h.size) fun hs => (hS i hs).elim hn (fun h2 => by omega), h.block i hi hn]⟩
/-- a draws in memory: the blocks that its state lies in, where it lies, what was not taken -/
abbrev DrP := World → (Nat → Prop) → Addr → List (BitVec 64) → Prop
/-- numbers of 64 bits that lie in a slice -/
structure LieU (W : World) (B : Nat) (A : Option Addr) (n c : Nat) (xs : List Value) : Prop where
  len : xs.length = n
  few : n ≤ 3000
  cap : n ≤ c
  max : c ≤ maxLen
  nil : A = none → c = 0
  row : Row W B A xs
/-- a draws that was made -/
def DrawBorn (Dr : DrP) (w : World) (l : List (BitVec 64)) (e : Ending) (w' : World) : Prop :=
  ∃ a S, e = .returned (.pointer (some a)) ∧ (∀ i, S i → w.heap.size ≤ i) ∧ w.heap.size ≤ a.block ∧ Dr w' S a l ∧ Below w.heap.size w w'
/-- what the functions of package draw have to answer -/
structure DrawSays (Dr : DrP) : Prop where
  keep : ∀ {W W' : World} {S : Nat → Prop} {a : Addr} {l : List (BitVec 64)}, Dr W S a l → (∀ i, S i → W'.heap[i]? = W.heap[i]?) → Dr W' S a l
  lt : ∀ {W : World} {S : Nat → Prop} {a : Addr} {l : List (BitVec 64)}, Dr W S a l → ∀ i, S i → i < W.heap.size
  new : ∀ (w : World) (A : Option Addr) (n c : Nat) (l : List (BitVec 64)), LieU w w.heap.size A n c (l.map V) → Calls Tryd.prog 6 #[.slice A n c] w (DrawBorn Dr w l)
  next : ∀ (w : World) (S : Nat → Prop) (a : Addr) (k : BitVec 64) (l : List (BitVec 64)), 0 < w.heap.size → Steps w → ¬ S 0 → l.length ≤ 3000 → Dr w S a l →
    Calls Tryd.prog 9 #[.pointer (some a), K k] w fun e w' => ∃ S', e = .returned (V (Drawm.out k l)) ∧ (∀ i, S' i → S i ∨ w.heap.size ≤ i) ∧ Dr w' S' a l.tail ∧ But S w w'
  next0 : ∀ (w : World) (k : BitVec 64), 0 < w.heap.size → Steps w → Calls Tryd.prog 9 #[.pointer none, K k] w fun e w' => e = .returned (V (Drawm.own k)) ∧ Below w.heap.size w w'
  left : ∀ (w : World) (S : Nat → Prop) (a : Addr) (l : List (BitVec 64)), l.length ≤ 3000 → Dr w S a l → Calls Tryd.prog 11 #[.pointer (some a)] w fun e w' => e = .returned (.int .i64 (l.length : Int)) ∧ Below w.heap.size w w'
  left0 : ∀ (w : World), Calls Tryd.prog 11 #[.pointer none] w fun e w' => e = .returned (.int .i64 0) ∧ Below w.heap.size w w'
  copy : ∀ (w : World) (S : Nat → Prop) (a : Addr) (l : List (BitVec 64)), l.length ≤ 3000 → Dr w S a l → Calls Tryd.prog 12 #[.pointer (some a)] w (DrawBorn Dr w l)
  copy0 : ∀ (w : World), Calls Tryd.prog 12 #[.pointer none] w fun e w' => e = .returned (.pointer none) ∧ Below w.heap.size w w'
  many : ∀ (w : World) (B : Nat) (S : Nat → Prop) (a : Addr) (A : Option Addr) (n c : Nat) (ks l : List (BitVec 64)), B ≤ w.heap.size → (∀ i, S i → B ≤ i) → 0 < B → Steps w → LieU w B A n c (ks.map K) → l.length ≤ 3000 → Dr w S a l →
    Calls Tryd.prog 13 #[.pointer (some a), .slice A n c] w fun e w' => ∃ S' v, e = .returned v ∧ (∀ i, S' i → S i ∨ w.heap.size ≤ i) ∧ Dr w' S' a (l.drop n) ∧ w'.ownsRow w.heap.size 30 1 v n ((Drawm.many ks l).map V) ∧ (∀ i, v.ownBlock = some i → ¬ S' i) ∧ But S w w'
  many0 : ∀ (w : World) (A : Option Addr) (n c : Nat) (ks : List (BitVec 64)), 0 < w.heap.size → Steps w → LieU w w.heap.size A n c (ks.map K) →
    Calls Tryd.prog 13 #[.pointer none, .slice A n c] w fun e w' => ∃ v, e = .returned v ∧ w'.ownsRow w.heap.size 30 1 v n ((ks.map Drawm.own).map V) ∧ Below w.heap.size w w'
end Go.Proofs.YtmjlabnjgdiakaaDoor
