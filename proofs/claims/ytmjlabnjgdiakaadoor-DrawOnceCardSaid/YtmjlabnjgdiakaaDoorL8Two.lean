/- Layer 8: draws of the package and the reference's own, side by side. -/
import Derived.Test.YtmjlabnjgdiakaaDoorL8Nothing
namespace Go.Proofs.YtmjlabnjgdiakaaDoor
open Go.RowKit Go.Proofs.Mixm
variable {Dr : DrP}

theorem rnext_any (S : Nat → Prop) (a : Addr) (k : BitVec 64) (l : List (BitVec 64)) (h3 : l.length ≤ 3000) (w : World) (h : RDr w S a l) : Calls Tryd.prog 10 #[.pointer (some a), K k] w fun e w' => e = .returned (V (Drawm.out k l)) ∧ RDr w' S a l.tail ∧ But S w w' := by
  cases l with
  | nil =>
    refine (rnext_none S a k w h).mono ?_
    rintro e w' ⟨rfl, rfl⟩
    exact ⟨rfl, h, But.refl _ _⟩
  | cons x l =>
    rw [List.length_cons] at h3
    exact rnext_some S a k x l (by omega) w h
/-- the draws of the package and the reference's own live side by side, behind the base w -/
def Two (Dr : DrP) (w : World) (R : Nat → Prop) (a ra : Addr) (ld lr : List (BitVec 64)) (W : World) : Prop :=
  ∃ S, Dr W S a ld ∧ RDr W R ra lr ∧ (∀ i, S i → w.heap.size ≤ i ∧ ¬ R i) ∧ (∀ i, R i → w.heap.size ≤ i ∧ i < W.heap.size) ∧ Below w.heap.size w W
theorem Two.bel {w W : World} {R : Nat → Prop} {a ra : Addr} {ld lr : List (BitVec 64)} (h : Two Dr w R a ra ld lr W) : Below w.heap.size w W := by
  obtain ⟨_, _, _, _, _, h⟩ := h; exact h
theorem Two.next (hD : DrawSays Dr) {w W W' : World} {R : Nat → Prop} {a ra : Addr} {ld lr : List (BitVec 64)} (h : Two Dr w R a ra ld lr W) (hb : Below W.heap.size W W') : Two Dr w R a ra ld lr W' := by
  obtain ⟨S, hd, hr, hS, hR, hB⟩ := h
  exact ⟨S, hD.keep hd (fun i hi => hb.block i (hD.lt hd i hi)), rdr_keep hr (fun i hi => hb.block i (hR i hi).2), hS, fun i hi => ⟨(hR i hi).1, Nat.lt_of_lt_of_le (hR i hi).2 hb.size⟩, Below.after hB hb⟩
theorem two_d (hD : DrawSays Dr) {w W : World} {R : Nat → Prop} {a ra : Addr} {ld lr : List (BitVec 64)} (k : BitVec 64) (h0 : 0 < w.heap.size) (hs : Steps w) (hl : ld.length ≤ 3000) (h : Two Dr w R a ra ld lr W) :
    Calls Tryd.prog 9 #[.pointer (some a), K k] W fun e w' => e = .returned (V (Drawm.out k ld)) ∧ Two Dr w R a ra ld.tail lr w' ∧ W.heap.size ≤ w'.heap.size := by
  obtain ⟨S, hd, hr, hS, hR, hB⟩ := h
  have hBW := hB.size
  refine (hD.next W S a k ld (Nat.lt_of_lt_of_le h0 hBW) (steps_at h0 hs hB) (fun e => absurd (hS _ e).1 (by omega)) hl hd).mono ?_
  rintro e w' ⟨S', he, hS', hd', hbut⟩
  refine ⟨he, ⟨S', hd', rdr_keep hr (fun i hi => hbut.block i (hR i hi).2 (fun hs => (hS i hs).2 hi)), fun i hi => ?_, fun i hi => ⟨(hR i hi).1, Nat.lt_of_lt_of_le (hR i hi).2 hbut.size⟩, hB.trans (hbut.below hBW (fun i hi => (hS i hi).1))⟩, hbut.size⟩
  rcases hS' i hi with h | h
  · exact hS i h
  · exact ⟨Nat.le_trans hBW h, fun hr => by have := (hR i hr).2; omega⟩
theorem two_r (hD : DrawSays Dr) {w W : World} {R : Nat → Prop} {a ra : Addr} {ld lr : List (BitVec 64)} (k : BitVec 64) (hl : lr.length ≤ 3000) (h : Two Dr w R a ra ld lr W) :
    Calls Tryd.prog 10 #[.pointer (some ra), K k] W fun e w' => e = .returned (V (Drawm.out k lr)) ∧ Two Dr w R a ra ld lr.tail w' ∧ W.heap.size ≤ w'.heap.size := by
  obtain ⟨S, hd, hr, hS, hR, hB⟩ := h
  refine (rnext_any R ra k lr hl W hr).mono ?_
  rintro e w' ⟨he, hr', hbut⟩
  exact ⟨he, ⟨S, hD.keep hd (fun i hi => hbut.block i (hD.lt hd i hi) (hS i hi).2), hr', hS, fun i hi => ⟨(hR i hi).1, Nat.lt_of_lt_of_le (hR i hi).2 hbut.size⟩, hB.trans (hbut.below hB.size (fun i hi => (hR i hi).1))⟩, hbut.size⟩
theorem two_left (hD : DrawSays Dr) {w W : World} {R : Nat → Prop} {a ra : Addr} {ld lr : List (BitVec 64)} (hl : ld.length ≤ 3000) (h : Two Dr w R a ra ld lr W) :
    Calls Tryd.prog 11 #[.pointer (some a)] W fun e w' => e = .returned (.int .i64 (ld.length : Int)) ∧ Two Dr w R a ra ld lr w' ∧ Below W.heap.size W w' := by
  have h' := h
  obtain ⟨S, hd, hr, hS, hR, hB⟩ := h
  refine (hD.left W S a ld hl hd).mono ?_
  rintro e w' ⟨he, h2⟩
  exact ⟨he, h'.next hD h2, h2⟩
/-- the reference's field -/
theorem rdr_cell {W : World} {R : Nat → Prop} {g : Nat} {lr : List (BitVec 64)} (h : RDr W R ⟨g, 0, none⟩ lr) : ∃ A n c, W.cell? ⟨g, 0, none⟩ = some (.slice A n c) ∧ lr.length = n := by
  obtain ⟨g', A, n, c, e, hg, hh, hn, _⟩ := h
  cases e
  exact ⟨A, n, c, hh.cell 0, hn⟩
theorem two_cell {w W : World} {R : Nat → Prop} {a : Addr} {g : Nat} {ld lr : List (BitVec 64)} (h : Two Dr w R a ⟨g, 0, none⟩ ld lr W) : ∃ A n c, W.cell? ⟨g, 0, none⟩ = some (.slice A n c) ∧ lr.length = n := by
  obtain ⟨S, _, hr, _⟩ := h
  exact rdr_cell hr
theorem lieu_own {w : World} {base n c : Nat} {A : Option Addr} {t : TypeId} {l : List (BitVec 64)} (hl : l.length = n) (h3 : n ≤ 3000) (h : w.ownsRow base t 1 (.slice A n c) n (l.map V)) : LieU w w.heap.size A n c (l.map V) := by
  obtain ⟨A', c', e, h1, h2, h4⟩ := own_slice h
  cases e
  exact ⟨by rw [List.length_map]; exact hl, h3, h1, h2, h4, Row.of_own h⟩
/-- what is left of a slice behind k numbers -/
theorem LieU.drop {W : World} {B : Nat} {A : Option Addr} {n c : Nat} {l : List (BitVec 64)} {f : BitVec 64 → Value} (h : LieU W B A n c (l.map f)) (k : Nat) (hk : k ≤ n) : LieU W B (if c = k then A else A.map (·.add k)) (n - k) (c - k) ((l.drop k).map f) := by
  have hl := h.len
  refine ⟨by rw [List.length_map, List.length_drop]; rw [List.length_map] at hl; omega, by have := h.few; omega, by have := h.cap; omega, by have := h.max; omega, fun e => ?_, ?_⟩
  · split at e
    · omega
    · have : A = none := by simpa using e
      have := h.nil this
      omega
  · rw [List.map_drop]
    exact h.row.drop k (c := c) (i := k) (size := 1) (by omega) (by rw [hl]; have := h.cap; omega)
theorem size_i64 (W : World) : (sizeOf 2).run Tryd.prog W = .ok 1 W := by kernel_rfl
/-- a row of the call's own stays, where its block does -/
theorem own_block {w w' : World} {base n : Nat} {e : TypeId} {size : Nat} {v : Value} {xs : List Value} (h : w.ownsRow base e size v n xs) (hb : ∀ i, base ≤ i → i < w.heap.size → v.ownBlock = some i → w'.heap[i]? = w.heap[i]?) : w'.ownsRow base e size v n xs := by
  obtain ⟨h1, h2⟩ := h
  refine ⟨h1, h2.imp id ?_⟩
  rintro ⟨g, cap, cur, rfl, hg, hh, rest⟩
  exact ⟨g, cap, cur, rfl, hg, (hb g hg (lt_of_block hh) rfl).trans hh, rest⟩
theorem But.of_base {w w' : World} {B : Nat} (h : Below B w w') : But (fun i => B ≤ i) w w' := ⟨h.os, h.tape, h.output, h.size, fun i _ hn => h.block i (by omega)⟩
/-- a slice of keys, cut at the front -/
theorem keys_from {W : World} {B : Nat} {A : Option Addr} {k q c : Nat} {ks : List (BitVec 64)} (h : LieU W B A (k + q) c (ks.map K)) :
    ∃ A', (∀ W, (Instr.slice 23 (.slice A (k + q) c) (some (.int .i64 (k : Int))) none none).run Tryd.prog W = .ok (.slice A' q (c - k)) W) ∧ LieU W B A' q (c - k) ((ks.drop k).map K) := by
  obtain ⟨A', h1, h2, h3⟩ := cut_from2 (P := Tryd.prog) Tryd.underlying23 size_i64 A (k + q) c k (k : Int) rfl (by omega) h.cap
  have e : k + q - k = q := by omega
  rw [e] at h1
  have hl := h.len
  have hf := h.few
  have hc := h.cap
  have hm := h.max
  refine ⟨A', h1, by rw [List.length_map, List.length_drop]; rw [List.length_map] at hl; omega, by omega, by omega, by omega, fun e => by have := h.nil (h3 e); omega, ?_⟩
  have := h2 W B (ks.map K) h.row (by rw [hl]; omega)
  rw [Nat.mul_one] at this
  rw [List.map_drop]; exact this
end Go.Proofs.YtmjlabnjgdiakaaDoor
