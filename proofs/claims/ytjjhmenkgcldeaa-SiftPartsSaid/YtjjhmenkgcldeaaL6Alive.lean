/- The chapter's examples of layer 6 stand: what each statement of it asks behind all else. -/
import Derived.Test.YtjjhmenkgcldeaaL6Split
import Derived.Test.YtjjhmenkgcldeaaL6RefB
namespace Go.Proofs.Ytjjhmenkgcldeaa
open Go.RowKit Go.Shelf Go.Proofs.Rowm Go.Proofs.Siftm

/-- the predicates of the examples -/
def exP : Pd := ⟨4, 3#64, 2#64, false⟩
def exN : Pd := ⟨4, 3#64, 2#64, true⟩
def exQ : Pd := ⟨5, 3#64, 1#64, false⟩
def exK : Pd := ⟨2, 5#64, 4#64, false⟩
def exB6 : Pd := ⟨5, 1#64, 2#64, false⟩
abbrev pdL (k a b : Int) (n : Bool) : Value := .agg #[.int .u8 k, .int .i64 a, .int .i64 b, .bool n]
abbrev prL (k : Int) : Value := .agg #[.int .i64 k, .int .i64 0]
theorem takes_l {p : Pd} {x : Pr} {t : Bool} {v u : Value} (h : takes p x = t) (hv : pdV p = v) (hu : pV x = u) (w : World) : Calls Try.prog 12 #[v, u] w fun e w' => e = .returned (.bool t) ∧ Below w.heap.size w w' := by
  subst h hv hu
  exact takes_any p x w
theorem may_l {p : Pd} {t : Bool} {v : Value} (h : may p = t) (hv : pdV p = v) (w : World) : Calls Try.prog 10 #[v] w fun e w' => e = .returned (.bool t) ∧ Below w.heap.size w w' := by
  subst h hv
  exact may_any p w
theorem pair_l {k : BitVec 64} {n : Int} (h : k.toInt = n) (w : World) : Calls Try.prog 17 #[.int .i64 n] w fun e w' => e = .returned (prL n) ∧ Below w.heap.size w w' := by
  subst h
  exact pair6_any k w
theorem not_l {p : Pd} {v u : Value} (hv : pdV p = v) (hu : pdV (Siftm.flip p) = u) (w : World) : Calls Try.prog 16 #[v] w fun e w' => e = .returned u ∧ Below w.heap.size w w' := by
  subst hv hu
  exact not_any p w
theorem keep_l (W : World) (g : Nat) (h : Has W g 25 #[.int .i64 4, .int .i64 0, .int .i64 5, .int .i64 0]) : Calls Try.prog 8 #[pdL 2 5 4 false, .slice (some ⟨g, 0, none⟩) 2 2] W (KeptH W 0 []) :=
  keep_yes exK rfl (some ⟨g, 0, none⟩) 2 2 [(4#64, 0#64), (5#64, 0#64)] [] 0 (by decide +kernel) rfl W ⟨rfl, by omega, by omega, (fun e => by cases e), h.row⟩

theorem s8_next {w x y : World} {a b c d e f g i : Addr} {u1 u2 u3 u4 u5 u6 u7 u8 : Value} (h : x.cell? a = some u1 ∧ x.cell? b = some u2 ∧ x.cell? c = some u3 ∧ x.cell? d = some u4 ∧ x.cell? e = some u5 ∧ x.cell? f = some u6 ∧ x.cell? g = some u7 ∧ x.cell? i = some u8 ∧ Below w.heap.size w x) (hb : Below x.heap.size x y) :
    y.cell? a = some u1 ∧ y.cell? b = some u2 ∧ y.cell? c = some u3 ∧ y.cell? d = some u4 ∧ y.cell? e = some u5 ∧ y.cell? f = some u6 ∧ y.cell? g = some u7 ∧ y.cell? i = some u8 ∧ Below w.heap.size w y :=
  ⟨keep_cell hb h.1, keep_cell hb h.2.1, keep_cell hb h.2.2.1, keep_cell hb h.2.2.2.1, keep_cell hb h.2.2.2.2.1, keep_cell hb h.2.2.2.2.2.1, keep_cell hb h.2.2.2.2.2.2.1, keep_cell hb h.2.2.2.2.2.2.2.1, Below.after h.2.2.2.2.2.2.2.2 hb⟩

set_option maxHeartbeats 8000000 in
theorem alive6_any (w : World) : Calls Try.prog 6 #[] w fun e w' => e = .returned (.bool true) ∧ Below w.heap.size w w' := by
  have hP := (Has.new w 23 #[.int .u8 4, .int .i64 3, .int .i64 2, .bool false]).alloc (.cells #[.int .u8 5, .int .i64 3, .int .i64 1, .bool false] 23)
  have hQ := Has.new (w.alloc (.cells #[.int .u8 4, .int .i64 3, .int .i64 2, .bool false] 23)) 23 #[.int .u8 5, .int .i64 3, .int .i64 1, .bool false]
  rw [World.size_alloc] at hQ
  have p0 := Lib.hid hP
  have q0 := Lib.hid hQ
  have k0 := Lib.hid (((Below.refl w.heap.size w).alloc (Nat.le_refl _) (.cells #[.int .u8 4, .int .i64 3, .int .i64 2, .bool false] 23)).alloc (by simp) (.cells #[.int .u8 5, .int .i64 3, .int .i64 1, .bool false] 23))
  have pr4 := Lib.hid (fun W => pair_l (k := 4#64) (n := 4) rfl W)
  have pr5 := Lib.hid (fun W => pair_l (k := 5#64) (n := 5) rfl W)
  have pr0 := Lib.hid (fun W => pair_l (k := 0#64) (n := 0) rfl W)
  have pr3 := Lib.hid (fun W => pair_l (k := 3#64) (n := 3) rfl W)
  have prm1 := Lib.hid (fun W => pair_l (k := 0xffffffffffffffff#64) (n := -1) (by decide +kernel) W)
  have prm3 := Lib.hid (fun W => pair_l (k := 0xfffffffffffffffd#64) (n := -3) (by decide +kernel) W)
  have tm1 := Lib.hid (fun W => takes_l (p := exP) (x := (0xffffffffffffffff#64, 0#64)) (t := true) (v := pdL 4 3 2 false) (u := prL (-1)) (by decide +kernel) rfl (by show pV (0xffffffffffffffff#64, 0#64) = _; simp [prL]) W)
  have t5 := Lib.hid (fun W => takes_l (p := exP) (x := (5#64, 0#64)) (t := true) (v := pdL 4 3 2 false) (u := prL 5) (by decide +kernel) rfl rfl W)
  have t0 := Lib.hid (fun W => takes_l (p := exP) (x := (0#64, 0#64)) (t := false) (v := pdL 4 3 2 false) (u := prL 0) (by decide +kernel) rfl rfl W)
  have n0 := Lib.hid (fun W => takes_l (p := exN) (x := (0#64, 0#64)) (t := true) (v := pdL 4 3 2 true) (u := prL 0) (by decide +kernel) rfl rfl W)
  have qm3 := Lib.hid (fun W => takes_l (p := exQ) (x := (0xfffffffffffffffd#64, 0#64)) (t := true) (v := pdL 5 3 1 false) (u := prL (-3)) (by decide +kernel) rfl (by show pV (0xfffffffffffffffd#64, 0#64) = _; simp [prL]) W)
  have q3 := Lib.hid (fun W => takes_l (p := exQ) (x := (3#64, 0#64)) (t := false) (v := pdL 5 3 1 false) (u := prL 3) (by decide +kernel) rfl rfl W)
  have nt := Lib.hid (fun W => not_l (p := exP) (v := pdL 4 3 2 false) (u := pdL 4 3 2 true) rfl rfl W)
  have mb := Lib.hid (fun W => may_l (p := exB6) (t := false) (v := pdL 5 1 2 false) (by decide +kernel) rfl W)
  clear hP hQ
  go_enter Try.func6, Try.ntmps6
  go_wp2_with fail
  refine (pr4.out _).mono ?_
  rintro e w1 ⟨rfl, hb⟩
  have p1 := Lib.hid (p0.out.next hb)
  have q1 := Lib.hid (q0.out.next hb)
  have k1 := Lib.hid (Below.after k0.out hb)
  clear hb
  go_wp2_with fail
  refine (pr5.out _).mono ?_
  rintro e w2 ⟨rfl, hb⟩
  have p2 := Lib.hid (p1.out.next hb)
  have q2 := Lib.hid (q1.out.next hb)
  have k2 := Lib.hid (Below.after k1.out hb)
  clear hb
  go_wp2_with fail
  refine (keep_l _ _ (Has.new w2 25 #[.int .i64 4, .int .i64 0, .int .i64 5, .int .i64 0])).mono ?_
  rintro e w3 ⟨A, c, rfl, _, _, hb⟩
  have p3 := (p2.out.alloc _).next hb
  have q3' := (q2.out.alloc _).next hb
  have k3 := Lib.hid (Below.after (k2.out.alloc k2.out.size _) hb)
  have c0 : w3.cell? ⟨w.heap.size, 0, none⟩ = some (.int .u8 4) := p3.cell 0
  have c1 : w3.cell? ⟨w.heap.size, 1, none⟩ = some (.int .i64 3) := p3.cell 1
  have c2 : w3.cell? ⟨w.heap.size, 2, none⟩ = some (.int .i64 2) := p3.cell 2
  have c3 : w3.cell? ⟨w.heap.size, 3, none⟩ = some (.bool false) := p3.cell 3
  have d0 : w3.cell? ⟨w.heap.size + 1, 0, none⟩ = some (.int .u8 5) := q3'.cell 0
  have d1 : w3.cell? ⟨w.heap.size + 1, 1, none⟩ = some (.int .i64 3) := q3'.cell 1
  have d2 : w3.cell? ⟨w.heap.size + 1, 2, none⟩ = some (.int .i64 1) := q3'.cell 2
  have d3 : w3.cell? ⟨w.heap.size + 1, 3, none⟩ = some (.bool false) := q3'.cell 3
  clear hb p3 q3' p2 q2 p1 q1 p0 q0 k0 k1 k2
  go_wp2_with fail
  go_region_held3 (fun w' => w'.cell? ⟨w.heap.size, 0, none⟩ = some (.int .u8 4) ∧ w'.cell? ⟨w.heap.size, 1, none⟩ = some (.int .i64 3) ∧ w'.cell? ⟨w.heap.size, 2, none⟩ = some (.int .i64 2) ∧ w'.cell? ⟨w.heap.size, 3, none⟩ = some (.bool false) ∧ w'.cell? ⟨w.heap.size + 1, 0, none⟩ = some (.int .u8 5) ∧ w'.cell? ⟨w.heap.size + 1, 1, none⟩ = some (.int .i64 3) ∧ w'.cell? ⟨w.heap.size + 1, 2, none⟩ = some (.int .i64 1) ∧ w'.cell? ⟨w.heap.size + 1, 3, none⟩ = some (.bool false) ∧ Below w.heap.size w w')
    (first | exact ⟨c0, c1, c2, c3, d0, d1, d2, d3, k3.out.drew⟩ | assumption)
    (first
      | (go_at_call 17; (first | (with_reducible refine (prm1.out _).mono ?_) | (with_reducible refine (pr5.out _).mono ?_) | (with_reducible refine (pr0.out _).mono ?_) | (with_reducible refine (prm3.out _).mono ?_) | (with_reducible refine (pr3.out _).mono ?_)); rintro e w' ⟨rfl, hb⟩; have hS' := s8_next (w := w) (by assumption) hb; clear hb)
      | (go_at_call 12; (first | (with_reducible refine (tm1.out _).mono ?_) | (with_reducible refine (t5.out _).mono ?_) | (with_reducible refine (t0.out _).mono ?_) | (with_reducible refine (n0.out _).mono ?_) | (with_reducible refine (qm3.out _).mono ?_) | (with_reducible refine (q3.out _).mono ?_)); rintro e w' ⟨rfl, hb⟩; have hS' := s8_next (w := w) (by assumption) hb; clear hb)
      | (go_at_call 16; (with_reducible refine (nt.out _).mono ?_); rintro e w' ⟨rfl, hb⟩; have hS' := s8_next (w := w) (by assumption) hb; clear hb)
      | (go_at_call 10; (with_reducible refine (mb.out _).mono ?_); rintro e w' ⟨rfl, hb⟩; have hS' := s8_next (w := w) (by assumption) hb; clear hb))
  all_goals
    go_wp2
    go_ret
    exact ⟨rfl, And.right (And.right (And.right (And.right (And.right (And.right (And.right (And.right (by assumption))))))))⟩
end Go.Proofs.Ytjjhmenkgcldeaa
