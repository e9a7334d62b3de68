/- The examples of chapter 4 stand: what each statement of layer 4 asks ahead of all else. -/
import Derived.Test.YtekggefokoaidaaDoorL4AliveE
namespace Go.Proofs.YtekggefokoaidaaDoor
open Go.RowKit Go.Shelf Go.Proofs.Rowm

/-- what the last region reads, and what it keeps -/
theorem s_next {w x y : World} {a b c d e f : Addr} {u1 u2 u3 u4 u5 u6 : Value} (h : x.cell? a = some u1 ∧ x.cell? b = some u2 ∧ x.cell? c = some u3 ∧ x.cell? d = some u4 ∧ x.cell? e = some u5 ∧ x.cell? f = some u6 ∧ Below w.heap.size w x) (hb : Below x.heap.size x y) :
    y.cell? a = some u1 ∧ y.cell? b = some u2 ∧ y.cell? c = some u3 ∧ y.cell? d = some u4 ∧ y.cell? e = some u5 ∧ y.cell? f = some u6 ∧ Below w.heap.size w y :=
  ⟨keep_cell hb h.1, keep_cell hb h.2.1, keep_cell hb h.2.2.1, keep_cell hb h.2.2.2.1, keep_cell hb h.2.2.2.2.1, keep_cell hb h.2.2.2.2.2.1, Below.after h.2.2.2.2.2.2 hb⟩
theorem below_new (x : World) (o : Obj) : Below x.heap.size x (x.alloc o) := (Below.refl _ x).alloc (Nat.le_refl _) o
theorem below_newd (x : World) (o : Obj) : Below x.heap.size x (x.alloc o).drew := ((Below.refl _ x).alloc (Nat.le_refl _) o).drew

set_option maxRecDepth 100000 in
set_option maxHeartbeats 4000000 in
theorem alive4_any (w : World) (h0 : 0 < w.heap.size) (hs : Steps w) : Calls Tryd.prog 6 #[] w fun e w' => e = .returned (.bool true) ∧ Below w.heap.size w w' := by
  have hs' := Lib.hid hs
  clear hs
  have k0 := Lib.hid (below_new w (.cells #[.int .i64 1, .int .i64 10, .int .i64 3, .int .i64 30] 24))
  have q0 := Lib.hid (Has.new w 24 #[.int .i64 1, .int .i64 10, .int .i64 3, .int .i64 30])
  go_enter Tryd.func6, Tryd.ntmps6
  go_wp2_with fail
  refine (find_e (Nat.lt_of_lt_of_le h0 k0.out.size) (hs'.out.below h0 k0.out) q0.out.row).mono ?_
  rintro e w1 ⟨rfl, hb⟩
  have k1 := Lib.hid (Below.after k0.out hb)
  have q1 := Lib.hid (q0.out.next hb)
  clear hb k0 q0
  go_wp2_with fail
  refine (put_e (Nat.lt_of_lt_of_le h0 k1.out.size) (hs'.out.below h0 k1.out) q1.out.row).mono ?_
  rintro e w2 ⟨Aa, ca, rfl, _, _, _, hra, hb⟩
  have k2 := Lib.hid (Below.after k1.out hb)
  have q2 := Lib.hid (q1.out.next hb)
  have ra := Lib.hid hra
  clear hb k1 q1 hra
  go_wp2_with fail
  refine (drop_e (Nat.lt_of_lt_of_le h0 k2.out.size) (hs'.out.below h0 k2.out) q2.out.row).mono ?_
  rintro e w3 ⟨Ab, cb, rfl, _, _, _, hrb, hb⟩
  have k3 := Lib.hid (Below.after k2.out hb)
  have q3 := Lib.hid (q2.out.next hb)
  have ra3 := Lib.hid (ra.out.next hb)
  have rb := Lib.hid hrb
  clear hb k2 q2 ra hrb
  go_wp2_with fail
  refine (floor_e (Nat.lt_of_lt_of_le h0 k3.out.size) (hs'.out.below h0 k3.out) q3.out.row).mono ?_
  rintro e w4 ⟨rfl, hb⟩
  have hb4 := Below.after hb (below_new w4 (.cells #[.int .i64 1, .int .i64 10] 24))
  have k4 := Lib.hid (Below.after k3.out hb4)
  have q4 := Lib.hid (q3.out.next hb4)
  have ra4 := Lib.hid (ra3.out.next hb4)
  have rb4 := Lib.hid (rb.out.next hb4)
  have x4 := Lib.hid (Has.new w4 24 #[.int .i64 1, .int .i64 10])
  clear hb hb4 k3 q3 ra3 rb
  go_wp2_with fail
  refine (ceil_e (Nat.lt_of_lt_of_le h0 k4.out.size) (hs'.out.below h0 k4.out) q4.out.row).mono ?_
  rintro e w5 ⟨rfl, hb⟩
  have hb5 := Below.after hb (below_new w5 (.cells #[.int .i64 0, .int .i64 0] 24))
  have k5 := Lib.hid (Below.after k4.out hb5)
  have q5 := Lib.hid (q4.out.next hb5)
  have ra5 := Lib.hid (ra4.out.next hb5)
  have rb5 := Lib.hid (rb4.out.next hb5)
  have x5 := Lib.hid (x4.out.next hb5)
  clear hb hb5 k4 q4 ra4 rb4 x4
  go_wp2_with fail
  obtain ⟨W, hW⟩ : ∃ W, w5.alloc (.cells #[.int .i64 0, .int .i64 0] 24) = W := ⟨_, rfl⟩
  rw [hW] at k5 q5 ra5 rb5 x5 ⊢
  clear hW
  have c0 : W.cell? ⟨w4.heap.size, 0, none⟩ = some (.int .i64 1) := x5.out.cell 0
  have c1 : W.cell? ⟨w4.heap.size, 1, none⟩ = some (.int .i64 10) := x5.out.cell 1
  have d0 : W.cell? ⟨w.heap.size, 0, none⟩ = some (.int .i64 1) := q5.out.cell 0
  have d1 : W.cell? ⟨w.heap.size, 1, none⟩ = some (.int .i64 10) := q5.out.cell 1
  have d2 : W.cell? ⟨w.heap.size, 2, none⟩ = some (.int .i64 3) := q5.out.cell 2
  have d3 : W.cell? ⟨w.heap.size, 3, none⟩ = some (.int .i64 30) := q5.out.cell 3
  have rl : Hid (Row W W.heap.size (some ⟨w.heap.size, 2, none⟩) (flat [(3#64, 30#64)])) := by
    have := q5.out.row.drop 2 (c := 2) (i := 1) (size := 2) rfl (by simp)
    exact this
  have bW := Lib.hid (Below.refl W.heap.size W)
  have hcut : ∀ W', (Instr.slice 22 (.slice (some ⟨w.heap.size, 0, none⟩) 2 2) (some (.int .i64 1)) none none).run Tryd.prog W' = .ok (.slice (some ⟨w.heap.size, 2, none⟩) 1 1) W' := fun W' => by
    simp [Instr.slice, run_underlying Tryd.underlying22, Instr.sliceBounds, run_sliceBound, Result.andThen, Addr.add]
  have s1d : Hid (Calls Tryd.prog 22 #[.slice Aa 2 ca, .slice (some ⟨W.heap.size, 0, none⟩) 2 2] (W.alloc (.cells #[.int .i64 1, .int .i64 10, .int .i64 3, .int .i64 35] 24)).drew fun e w' => e = .returned (.bool true) ∧ Below (W.alloc (.cells #[.int .i64 1, .int .i64 10, .int .i64 3, .int .i64 35] 24)).drew.heap.size (W.alloc (.cells #[.int .i64 1, .int .i64 10, .int .i64 3, .int .i64 35] 24)).drew w') :=
    same4_yes Aa _ 2 ca 2 [(1#64, 10#64), (3#64, 35#64)] rfl (by omega) _ (ra5.out.next (below_newd W _)) (((Has.new W 24 #[.int .i64 1, .int .i64 10, .int .i64 3, .int .i64 35]).drewN 1).row)
  have s2 : Hid (∀ x : World, Below W.heap.size W x → Calls Tryd.prog 22 #[.slice Ab 1 cb, .slice (some ⟨w.heap.size, 2, none⟩) 1 1] x fun e w' => e = .returned (.bool true) ∧ Below x.heap.size x w') :=
    fun x hx => same4_yes Ab _ 1 cb 1 [(3#64, 30#64)] rfl (by omega) x (rb5.out.next hx) (rl.out.next hx)
  have m2 : Hid (∀ x : World, Below W.heap.size W (x.alloc (.cells #[.int .i64 3, .int .i64 30, .int .i64 1, .int .i64 10] 24)) → Calls Tryd.prog 20 #[.int .u8 2, .slice (some ⟨x.heap.size, 0, none⟩) 2 2] (x.alloc (.cells #[.int .i64 3, .int .i64 30, .int .i64 1, .int .i64 10] 24)) fun e w' => e = .returned (.bool true) ∧ Below (x.alloc (.cells #[.int .i64 3, .int .i64 30, .int .i64 1, .int .i64 10] 24)).heap.size (x.alloc (.cells #[.int .i64 3, .int .i64 30, .int .i64 1, .int .i64 10] 24)) w') :=
    fun x hx => may_e2 (Nat.lt_of_lt_of_le h0 (Below.after k5.out hx).size) (hs'.out.below h0 (Below.after k5.out hx)) (Has.new x 24 #[.int .i64 3, .int .i64 30, .int .i64 1, .int .i64 10]).row
  have m1 : Hid (∀ x : World, Below W.heap.size W (x.alloc (.cells #[.int .i64 3, .int .i64 30, .int .i64 1, .int .i64 10] 24)) → Calls Tryd.prog 20 #[.int .u8 1, .slice (some ⟨x.heap.size, 0, none⟩) 2 2] (x.alloc (.cells #[.int .i64 3, .int .i64 30, .int .i64 1, .int .i64 10] 24)) fun e w' => e = .returned (.bool false) ∧ Below (x.alloc (.cells #[.int .i64 3, .int .i64 30, .int .i64 1, .int .i64 10] 24)).heap.size (x.alloc (.cells #[.int .i64 3, .int .i64 30, .int .i64 1, .int .i64 10] 24)) w') :=
    fun x hx => may_e1 (Nat.lt_of_lt_of_le h0 (Below.after k5.out hx).size) (hs'.out.below h0 (Below.after k5.out hx)) (Has.new x 24 #[.int .i64 3, .int .i64 30, .int .i64 1, .int .i64 10]).row
  clear ra5 rb5 rl q5 x5
  go_region_held3 (fun w' => w'.cell? ⟨w4.heap.size, 0, none⟩ = some (.int .i64 1) ∧ w'.cell? ⟨w4.heap.size, 1, none⟩ = some (.int .i64 10) ∧ w'.cell? ⟨w.heap.size, 0, none⟩ = some (.int .i64 1) ∧ w'.cell? ⟨w.heap.size, 1, none⟩ = some (.int .i64 10) ∧ w'.cell? ⟨w.heap.size, 2, none⟩ = some (.int .i64 3) ∧ w'.cell? ⟨w.heap.size, 3, none⟩ = some (.int .i64 30) ∧ Below W.heap.size W w')
    (first | exact ⟨c0, c1, d0, d1, d2, d3, bW.out.drew⟩ | assumption | exact s_next (w := W) ⟨c0, c1, d0, d1, d2, d3, bW.out⟩ (below_newd W _) | exact s_next (w := W) (by assumption) (below_new _ _) | exact s_next (w := W) (by assumption) (below_newd _ _))
    (first
      | (go_at_call 22; (first | (with_reducible refine s1d.out.mono ?_) | (with_reducible refine (s2.out _ (And.right (And.right (And.right (And.right (And.right (And.right (by assumption)))))))).mono ?_)); rintro e w' ⟨rfl, hb⟩; have hS' := s_next (w := W) (by assumption) hb; clear hb)
      | (go_at_call 20; (first | (with_reducible refine (m2.out _ (And.right (And.right (And.right (And.right (And.right (And.right (by assumption)))))))).mono ?_) | (with_reducible refine (m1.out _ (And.right (And.right (And.right (And.right (And.right (And.right (by assumption)))))))).mono ?_)); rintro e w' ⟨rfl, hb⟩; have hS' := s_next (w := W) (by assumption) hb; clear hb))
  all_goals
    go_wp2
    go_ret
    exact ⟨rfl, Below.after k5.out (And.right (And.right (And.right (And.right (And.right (And.right (by assumption)))))))⟩
end Go.Proofs.YtekggefokoaidaaDoor
