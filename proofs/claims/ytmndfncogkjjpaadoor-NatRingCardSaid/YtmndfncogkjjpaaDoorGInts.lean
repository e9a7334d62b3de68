/- Slices of int and of uint32 that lie there, and that a call makes. -/
import Derived.Test.YtmndfncogkjjpaaDoorGApp
import Derived.Test.YtmndfncogkjjpaaDoorGNum
import Derived.Test.YtmndfncogkjjpaaDoorGCut
import Derived.Test.YtmndfncogkjjpaaDoorProg
import Derived.IntWalk
import Derived.Deep.QuietTactic
import Derived.BigQuiet
import Derived.Outline
namespace Go.Proofs.YtmndfncogkjjpaaDoor
open Go.RowKit

/-- a small number as an int, as a word of 32 bits -/
abbrev I (d : Nat) : Value := .int .i64 (d : Int)
abbrev U (d : Nat) : Value := .int .u32 (d : Int)
/-- a slice of one cell an element that lies there -/
structure LieV (W : World) (A : Option Addr) (n c : Nat) (xs : List Value) : Prop where
  len : xs.length = n
  few : n ≤ 3000
  cap : n ≤ c
  max : c ≤ maxLen
  nil : A = none → c = 0
  row : Row W W.heap.size A xs
theorem LieV.next {W W' : World} {A : Option Addr} {n c : Nat} {xs : List Value} (h : LieV W A n c xs) (hb : Below W.heap.size W W') : LieV W' A n c xs := ⟨h.len, h.few, h.cap, h.max, h.nil, h.row.next hb⟩
theorem LieV.of_own {W : World} {base n : Nat} {e : TypeId} {v : Value} {xs : List Value} (hl : xs.length = n) (h9 : n ≤ 3000) (h : W.ownsRow base e 1 v n xs) : ∃ A c, v = .slice A n c ∧ LieV W A n c xs ∧ (∀ ad, A = some ad → base ≤ ad.block) := by
  obtain ⟨A', c', rfl, k1, k2, k3⟩ := own_slice h
  exact ⟨_, _, rfl, ⟨hl, h9, k1, k2, k3, Row.of_own h⟩, fun ad e => (h.lt ad.block (by rw [e]; rfl)).1⟩
theorem LieV.cut {W : World} {A : Option Addr} {n c : Nat} {xs : List Value} (h : LieV W A n c xs) (k : Nat) (hk : k ≤ n) : LieV W A k c (xs.take k) :=
  ⟨by rw [List.length_take, h.len]; omega, Nat.le_trans hk h.few, Nat.le_trans hk h.cap, h.max, h.nil, h.row.take k⟩
theorem LieV.at_ {W : World} {A : Option Addr} {n c : Nat} {xs : List Value} (h : LieV W A n c xs) {k : Nat} {u : Value} (hu : xs[k]? = some u) : ∃ ad, A = some ad ∧ ad.block < W.heap.size ∧ W.cell? (ad.add k) = some u := h.row k u hu
theorem LieV.empty (W : World) : LieV W none 0 0 [] := ⟨rfl, by omega, Nat.le_refl _, Nat.zero_le _, fun _ => rfl, Row.none_ _ _ _⟩
/-- a call that makes a slice -/
def MadeV (W : World) (m : Nat) (xs : List Value) (e : Ending) (w' : World) : Prop :=
  ∃ A c, e = .returned (.slice A m c) ∧ LieV w' A m c xs ∧ (∀ ad, A = some ad → W.heap.size ≤ ad.block) ∧ Below W.heap.size W w'
/-- one that makes a slice, and tells whether it could -/
def MadeVE (W : World) (m : Nat) (xs : List Value) (x : Int) (e : Ending) (w' : World) : Prop :=
  ∃ A c, e = .returned (.tuple #[.slice A m c, .int .i64 x]) ∧ LieV w' A m c xs ∧ (∀ ad, A = some ad → W.heap.size ≤ ad.block) ∧ Below W.heap.size W w'
theorem size_int (W : World) : (sizeOf 3).run Tryd.prog W = .ok 1 W := by kernel_rfl
theorem size_u32 (W : World) : (sizeOf 42).run Tryd.prog W = .ok 1 W := by kernel_rfl
theorem info_int : (Tryd.prog.info? 3).map (fun i => (i.zero, i.size, i.bytes)) = some (some (.int .i64 0), 1, 8) := by kernel_rfl
theorem info_u32 : (Tryd.prog.info? 42).map (fun i => (i.zero, i.size, i.bytes)) = some (some (.int .u32 0), 1, 4) := by kernel_rfl
theorem ints_one (l : List Nat) : ∀ u ∈ l.map I, u.oneCell' = true := fun u hu => by
  simp only [List.mem_map] at hu; obtain ⟨b, _, rfl⟩ := hu; rfl
theorem words_one (l : List Nat) : ∀ u ∈ l.map U, u.oneCell' = true := fun u hu => by
  simp only [List.mem_map] at hu; obtain ⟨b, _, rfl⟩ := hu; rfl
end Go.Proofs.YtmndfncogkjjpaaDoor
