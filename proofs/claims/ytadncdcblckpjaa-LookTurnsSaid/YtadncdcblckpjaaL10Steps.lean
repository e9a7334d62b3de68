/- Layer 10: the steps of the statements: each call's contract in one form, at whatever world. -/
import Derived.Test.YtadncdcblckpjaaL10Col
import Derived.Test.YtadncdcblckpjaaL10Deep
import Derived.Test.YtadncdcblckpjaaL9Tells
namespace Go.Proofs.Ytadncdcblckpjaa
open Go.RowKit Go.Proofs.Rowm Go.Proofs.Treem
variable {Nd : NdP}

/-- a row of pairs that was made -/
def MadeP (W : World) (n : Nat) (l : List Pr) (e : Ending) (w' : World) : Prop := ∃ A c, e = .returned (.slice A n c) ∧ n ≤ c ∧ c ≤ maxLen ∧ (A = none → c = 0) ∧ Row w' w'.heap.size A (flat l) ∧ Below W.heap.size W w'
theorem MadeP.of_own {W w' : World} {base n : Nat} {l : List Pr} {v : Value} (h : w'.ownsRow base 50 2 v n (flat l)) (hb : Below W.heap.size W w') : MadeP W n l (.returned v) w' := by
  obtain ⟨A, c, rfl, h1, h2, h3⟩ := own_slice h
  exact ⟨A, c, rfl, h1, h2, h3, Row.of_own h, hb⟩
/-- a row of keys that was made -/
def MadeK (W : World) (n : Nat) (l : List (BitVec 64)) (e : Ending) (w' : World) : Prop := ∃ A c, e = .returned (.slice A n c) ∧ Row w' w'.heap.size A (l.map K) ∧ Below W.heap.size W w'
theorem MadeK.of_own {W w' : World} {base n : Nat} {l : List (BitVec 64)} {v : Value} (h : w'.ownsRow base 2 1 v n (l.map K)) (hb : Below W.heap.size W w') : MadeK W n l (.returned v) w' := by
  obtain ⟨A, c, rfl, -, -, -⟩ := own_slice h
  exact ⟨A, c, rfl, Row.of_own h, hb⟩
theorem collect_all {B0 : Nat} (v : Value) (ps : List Pr) (n m : Nat) (hn : ps.length = n) (h1 : n ≤ m) (h2 : m ≤ 1000) (W : World) (hg : Goes B0 W v ps) : Calls Try.prog 13 #[v, nI m] W (MadeP W n ps) := by
  refine (collect_any B0 v ps m h2 W hg (by omega)).mono ?_
  rintro e w' ⟨v', rfl, ho, hb⟩
  rw [List.take_of_length_le (by omega), hn] at ho
  exact MadeP.of_own ho hb
theorem collect_some {B0 : Nat} (v : Value) (ps : List Pr) (n m : Nat) (hn : ps.length = n) (h1 : m ≤ n) (h2 : n ≤ 1000) (W : World) (hg : Goes B0 W v ps) : Calls Try.prog 13 #[v, nI m] W (MadeP W m (ps.take m)) := by
  refine (collect_any B0 v ps m (by omega) W hg (by omega)).mono ?_
  rintro e w' ⟨v', rfl, ho, hb⟩
  rw [List.length_take, Nat.min_eq_left (by omega)] at ho
  exact MadeP.of_own ho hb
theorem turned_made (A : Option Addr) (n c : Nat) (l : List Pr) (hl : l.length = n) (hn : n ≤ 1000) (W : World) (hr : Row W W.heap.size A (flat l)) : Calls Try.prog 16 #[.slice A n c] W (MadeP W n l.reverse) :=
  (turned_any A n c l hl hn W hr).mono fun _ _ ⟨_, he, ho, hb⟩ => he ▸ MadeP.of_own ho hb
theorem TreeIn.pairs {w : World} {A : Option Addr} {n c : Nat} {l : List Bd} {t : Tr} (h : TreeIn w A n c l t) (W : World) (hW : Below w.heap.size w W) : Calls Try.prog 9 #[.slice A n c] W (MadeP W n t.pairs) :=
  (refPairs9 t A n c w.heap.size l h.pre h.size (Nat.le_trans h.few (by decide)) W hW.size (h.lie.next hW)).mono fun _ _ ⟨_, he, ho, hb⟩ => he ▸ MadeP.of_own ho hb
theorem TreeIn.keys {w : World} {A : Option Addr} {n c : Nat} {l : List Bd} {t : Tr} (h : TreeIn w A n c l t) (W : World) (hW : Below w.heap.size w W) : Calls Try.prog 20 #[.slice A n c] W (MadeK W n (t.pairs.map (·.1))) :=
  (refKeys10 t A n c w.heap.size l h.pre h.size (Nat.le_trans h.few (by decide)) W hW.size (h.lie.next hW)).mono fun _ _ ⟨_, he, ho, hb⟩ => he ▸ MadeK.of_own (by rw [List.map_map]; exact ho) hb
theorem TreeIn.height {w : World} {A : Option Addr} {n c : Nat} {l : List Bd} {t : Tr} (h : TreeIn w A n c l t) (W : World) (hW : Below w.heap.size w W) : Calls Try.prog 22 #[.slice A n c] W fun e w' => e = .returned (nI t.high) ∧ Below W.heap.size W w' :=
  refHeight9 t A n c w.heap.size l h.pre h.size (Nat.le_trans h.few (by decide)) W hW.size (h.lie.next hW)
theorem TreeIn.deep {w : World} {A : Option Addr} {n c : Nat} {l : List Bd} {t : Tr} (h : TreeIn w A n c l t) (key : BitVec 64) (W : World) (hW : Below w.heap.size w W) : Calls Try.prog 11 #[.slice A n c, K key] W fun e w' => e = .returned (.tuple #[nI (t.deep key), .bool (t.has key)]) ∧ Below W.heap.size W w' :=
  refDeep10 key t A n c w.heap.size l h.pre h.size (Nat.le_trans h.few (by decide)) W hW.size (h.lie.next hW)
theorem TreeIn.has {w : World} {A : Option Addr} {n c : Nat} {l : List Bd} {t : Tr} (h : TreeIn w A n c l t) (key : BitVec 64) (W : World) (hW : Below w.heap.size w W) : Calls Try.prog 25 #[.slice A n c, K key] W fun e w' => e = .returned (.bool (t.has key)) ∧ W = w' := by
  have := refHas_any A n c w.heap.size l key W (h.lie.next hW)
  rw [h.pre, has_pre] at this
  exact this
variable (hS : LookSays Nd) {W : World} {t : Tr} {p : Option Addr}
include hS
theorem look_pairs (n : Nat) (hn : t.size = n) (h5 : n ≤ 1000) (hT : TreeAt Nd W W.heap.size t p) : Calls Try.prog 17 #[.pointer p] W (MadeP W n t.pairs) :=
  (hS.pairs W t p hT (by omega)).mono fun _ _ ⟨_, he, ho, hb⟩ => he ▸ MadeP.of_own (hn ▸ ho) hb
theorem look_keys (n : Nat) (hn : t.size = n) (h5 : n ≤ 1000) (hT : TreeAt Nd W W.heap.size t p) : Calls Try.prog 19 #[.pointer p] W (MadeK W n (t.pairs.map (·.1))) :=
  (hS.keys W t p hT (by omega)).mono fun _ _ ⟨_, he, ho, hb⟩ => he ▸ MadeK.of_own (by rw [List.map_map]; exact hn ▸ ho) hb
end Go.Proofs.Ytadncdcblckpjaa
