/- Layer 9: the program's own package node: a node in memory, the getters. -/
import Derived.Test.YtcnkgddldhkddaaDoorL9Steps
import Derived.Laws.StructEq
namespace Go.Proofs.YtcnkgddldhkddaaDoor
open Go.RowKit Go.Proofs.Treem
set_option maxRecDepth 100000

/-- a node in memory -/
def NdS : NdP := fun W B a x => ∃ g, a = ⟨g, 0, none⟩ ∧ g < B ∧ Has W g 68 #[K x.k, K x.v, G64 x.g, K x.size, K x.sum, .pointer x.l, .pointer x.r] ∧ (x.l ≠ none ∨ x.r ≠ none ∨ x.size ≠ 0#64)
/-- nothing, and noughts -/
abbrev noughts : Array Value := #[.int .i64 0, .int .i64 0, .int .u64 0, .int .i64 0, .int .i64 0, .pointer none, .pointer none]
theorem k_zero {b : BitVec 64} (h : b ≠ 0#64) : (b.toInt == 0) = false := by
  rw [beq_eq_false_iff_ne]
  intro e
  exact h (BitVec.eq_of_toInt_eq (by rw [e]; decide))
theorem ptr_some {p : Option Addr} (h : p ≠ none) : ∃ a, p = some a := by
  cases p with
  | none => exact absurd rfl h
  | some a => exact ⟨a, rfl⟩
theorem fields50 : ∃ pk, Tryd.prog.fieldsOf 68 = #[{ name := "kept", type := 66, offset := 0, embedded := true, tag := "", pkgPath := pk, byteOffset := 0 }, { name := "left", type := 25, offset := 5, embedded := false, tag := "", pkgPath := pk, byteOffset := 40 }, { name := "right", type := 25, offset := 6, embedded := false, tag := "", pkgPath := pk, byteOffset := 48 }] := by
  simp only [Program.fieldsOf, Tryd.underlying68]
  exact ⟨_, rfl⟩
theorem fields48 : ∃ pk, Tryd.prog.fieldsOf 66 = #[{ name := "key", type := 2, offset := 0, embedded := false, tag := "", pkgPath := pk, byteOffset := 0 }, { name := "val", type := 2, offset := 1, embedded := false, tag := "", pkgPath := pk, byteOffset := 8 }, { name := "tag", type := 36, offset := 2, embedded := false, tag := "", pkgPath := pk, byteOffset := 16 }, { name := "size", type := 3, offset := 3, embedded := false, tag := "", pkgPath := pk, byteOffset := 24 }, { name := "sum", type := 2, offset := 4, embedded := false, tag := "", pkgPath := pk, byteOffset := 32 }] := by
  simp only [Program.fieldsOf, Tryd.underlying66]
  exact ⟨_, rfl⟩
theorem held50 : Tryd.prog.stoodInHeld 68 = false := by kernel_rfl
theorem held48 : Tryd.prog.stoodInHeld 66 = false := by kernel_rfl
theorem size48 : (Tryd.prog.info? 66).map (·.size) = some 5 := by kernel_rfl
theorem part_agg (W : World) (cs : Array Value) : (part 66 cs 0).run Tryd.prog W = .ok (.agg (cs.extract 0 5)) W := by
  have h : ∃ j, Tryd.prog.info? 66 = some j ∧ j.size = 5 := by simpa [Option.map_eq_some_iff] using size48
  obtain ⟨j, hj, hs⟩ := h
  simp [part, isAgg, run_underlying Tryd.underlying66, sizeOf, typeInfo, hj, hs]
theorem part2 (W : World) (cs : Array Value) (k : Nat) (v : Value) (hv : cs[k]? = some v) : (part 2 cs k).run Tryd.prog W = .ok v W := by
  simp [part, isAgg, run_underlying Tryd.underlying2, hv]
theorem part3 (W : World) (cs : Array Value) (k : Nat) (v : Value) (hv : cs[k]? = some v) : (part 3 cs k).run Tryd.prog W = .ok v W := by
  simp [part, isAgg, run_underlying Tryd.underlying3, hv]
theorem part29 (W : World) (cs : Array Value) (k : Nat) (v : Value) (hv : cs[k]? = some v) : (part 36 cs k).run Tryd.prog W = .ok v W := by
  simp [part, isAgg, run_underlying Tryd.underlying36, hv]
theorem part26 (W : World) (cs : Array Value) (k : Nat) (v : Value) (hv : cs[k]? = some v) : (part 25 cs k).run Tryd.prog W = .ok v W := by
  simp [part, isAgg, run_underlying Tryd.underlying25, hv]
theorem eq_i (W : World) (d : Nat) (a b : Int) : (Op.equalIn (d + 1) 2 (.int .i64 a) (.int .i64 b)).run Tryd.prog W = .ok (a == b) W := run_equalIn_int W d 2 .i64 .i64 a b Tryd.underlying2
theorem eq_n (W : World) (d : Nat) (a b : Int) : (Op.equalIn (d + 1) 3 (.int .i64 a) (.int .i64 b)).run Tryd.prog W = .ok (a == b) W := run_equalIn_int W d 3 .i64 .i64 a b Tryd.underlying3
theorem eq_u (W : World) (d : Nat) (a b : Int) : (Op.equalIn (d + 1) 36 (.int .u64 a) (.int .u64 b)).run Tryd.prog W = .ok (a == b) W := run_equalIn_int W d 36 .u64 .u64 a b Tryd.underlying36
theorem eq_p (W : World) (d : Nat) (p : Option Addr) : (Op.equalIn (d + 1) 25 (.pointer p) (.pointer none)).run Tryd.prog W = .ok p.isNone W := by
  cases p <;> simp [Op.equalIn, run_underlying Tryd.underlying25]
theorem kept_eql (W : World) (d : Nat) (k v g s m : Int) : (Op.equalIn (d + 2) 66 (.agg #[.int .i64 k, .int .i64 v, .int .u64 g, .int .i64 s, .int .i64 m]) (.agg #[.int .i64 0, .int .i64 0, .int .u64 0, .int .i64 0, .int .i64 0])).run Tryd.prog W = .ok (k == 0 && (v == 0 && (g == 0 && (s == 0 && m == 0)))) W := by
  obtain ⟨pk48, hf48⟩ := fields48
  rw [run_equalIn_struct W (d + 1) 66 _ _ (by simp only [Program.fieldsOf, Tryd.underlying66]) held48, hf48]
  simp only [Op.eqFields, ne_eq, String.reduceEq, not_false_eq_true, if_true]
  simp [part2 W _ _ _ (rfl : (#[Value.int .i64 k, .int .i64 v, .int .u64 g, .int .i64 s, .int .i64 m])[0]? = some (.int .i64 k)),
    part2 W _ _ _ (rfl : (#[Value.int .i64 k, .int .i64 v, .int .u64 g, .int .i64 s, .int .i64 m])[1]? = some (.int .i64 v)),
    part29 W _ _ _ (rfl : (#[Value.int .i64 k, .int .i64 v, .int .u64 g, .int .i64 s, .int .i64 m])[2]? = some (.int .u64 g)),
    part3 W _ _ _ (rfl : (#[Value.int .i64 k, .int .i64 v, .int .u64 g, .int .i64 s, .int .i64 m])[3]? = some (.int .i64 s)),
    part2 W _ _ _ (rfl : (#[Value.int .i64 k, .int .i64 v, .int .u64 g, .int .i64 s, .int .i64 m])[4]? = some (.int .i64 m)),
    part2 W _ _ _ (rfl : (#[Value.int .i64 0, .int .i64 0, .int .u64 0, .int .i64 0, .int .i64 0])[0]? = some (.int .i64 0)),
    part2 W _ _ _ (rfl : (#[Value.int .i64 0, .int .i64 0, .int .u64 0, .int .i64 0, .int .i64 0])[1]? = some (.int .i64 0)),
    part29 W _ _ _ (rfl : (#[Value.int .i64 0, .int .i64 0, .int .u64 0, .int .i64 0, .int .i64 0])[2]? = some (.int .u64 0)),
    part3 W _ _ _ (rfl : (#[Value.int .i64 0, .int .i64 0, .int .u64 0, .int .i64 0, .int .i64 0])[3]? = some (.int .i64 0)),
    part2 W _ _ _ (rfl : (#[Value.int .i64 0, .int .i64 0, .int .u64 0, .int .i64 0, .int .i64 0])[4]? = some (.int .i64 0)),
    eq_i, eq_u, eq_n]
  cases hk : (k == 0) <;> cases hv : (v == 0) <;> cases hg : (g == 0) <;> cases hs : (s == 0) <;> cases hm : (m == 0) <;> simp_all
theorem node_eql (W : World) (k v g s m : Int) (l r : Option Addr) : (binOp .eql 68 (.agg #[.int .i64 k, .int .i64 v, .int .u64 g, .int .i64 s, .int .i64 m, .pointer l, .pointer r]) (.agg noughts)).run Tryd.prog W = .ok (.bool ((k == 0 && (v == 0 && (g == 0 && (s == 0 && m == 0)))) && (l.isNone && r.isNone))) W := by
  obtain ⟨pk50, hf50⟩ := fields50
  rw [run_eql_struct, run_equalIn_struct W 9999 68 _ _ (by simp only [Program.fieldsOf, Tryd.underlying68]) held50, hf50]
  simp only [Op.eqFields, ne_eq, String.reduceEq, not_false_eq_true, if_true]
  have e1 : (#[Value.int .i64 k, .int .i64 v, .int .u64 g, .int .i64 s, .int .i64 m, .pointer l, .pointer r] : Array Value).extract 0 5 = #[.int .i64 k, .int .i64 v, .int .u64 g, .int .i64 s, .int .i64 m] := rfl
  have e2 : noughts.extract 0 5 = #[.int .i64 0, .int .i64 0, .int .u64 0, .int .i64 0, .int .i64 0] := rfl
  simp only [Sem.run_bind, part_agg, e1, e2, Result.andThen_ok, kept_eql W 9997,
    part26 W _ _ _ (rfl : (#[Value.int .i64 k, .int .i64 v, .int .u64 g, .int .i64 s, .int .i64 m, .pointer l, .pointer r])[5]? = some (.pointer l)),
    part26 W _ _ _ (rfl : noughts[5]? = some (.pointer none)), Sem.run_ite, Sem.run_pure]
  generalize (k == 0 && (v == 0 && (g == 0 && (s == 0 && m == 0)))) = b
  cases b <;> cases l <;> cases r <;> rfl
/-- a node is no noughts -/
theorem not_noughts (W : World) (x : No) (h : x.l ≠ none ∨ x.r ≠ none ∨ x.size ≠ 0#64) :
    (binOp .eql 68 (.agg #[K x.k, K x.v, G64 x.g, K x.size, K x.sum, .pointer x.l, .pointer x.r]) (.agg noughts)).run Tryd.prog W = .ok (.bool false) W := by
  rw [node_eql]
  congr 2
  rcases h with h | h | h
  · obtain ⟨a, ha⟩ := ptr_some h
    rw [ha]; simp
  · obtain ⟨a, ha⟩ := ptr_some h
    rw [ha]; simp
  · rw [k_zero h]; simp
theorem is_noughts (W : World) : (binOp .eql 68 (.agg noughts) (.agg noughts)).run Tryd.prog W = .ok (.bool true) W := by
  rw [node_eql]; rfl
set_option maxHeartbeats 1000000 in
theorem told0 (w : World) : Calls Tryd.prog 49 #[.pointer none] w fun e w' => ∃ g, e = .returned (.pointer (some ⟨g, 0, none⟩)) ∧ Has w' g 68 noughts ∧ Below w.heap.size w w' := by
  go_enter Tryd.func49, Tryd.ntmps49
  go_wp2
  go_ret
  exact ⟨_, rfl, Has.new w _ _, (Below.refl _ _).alloc (Nat.le_refl _) _⟩
set_option maxHeartbeats 1000000 in
theorem told1 (w : World) (a : Addr) : Calls Tryd.prog 49 #[.pointer (some a)] w fun e w' => e = .returned (.pointer (some a)) ∧ w = w' := by
  go_enter Tryd.func49, Tryd.ntmps49
  go_wp2
  go_ret
  exact ⟨rfl, rfl⟩
set_option maxHeartbeats 1000000 in
theorem leftS (W : World) (B : Nat) (a : Addr) (x : No) (h : NdS W B a x) : Calls Tryd.prog 29 #[.pointer (some a)] W fun e w' => e = .returned (.pointer x.l) ∧ W = w' := by
  obtain ⟨g, rfl, hg, hh, hn⟩ := h
  obtain ⟨y0, y1, y2, y3, y4, y5, y6⟩ := hh.seven
  have c := Lib.hid (told1 W ⟨g, 0, none⟩)
  clear hh hg hn
  go_enter Tryd.func29, Tryd.ntmps29
  go_wp2_with (go_at_call 49; (with_reducible refine c.out.mono ?_); rintro e w' ⟨rfl, rfl⟩)
  go_ret
  exact ⟨rfl, rfl⟩
set_option maxHeartbeats 1000000 in
theorem leftS0 (W : World) : Calls Tryd.prog 29 #[.pointer none] W fun e w' => e = .returned (.pointer none) ∧ Below W.heap.size W w' := by
  have c := Lib.hid (told0 W)
  go_enter Tryd.func29, Tryd.ntmps29
  go_wp2_with (go_at_call 49; (with_reducible refine c.out.mono ?_); rintro e w' ⟨g, rfl, hh, hb⟩; obtain ⟨y0, y1, y2, y3, y4, y5, y6⟩ := hh.seven; have b := Lib.hid hb; clear hh hb)
  go_ret
  exact ⟨rfl, b.out⟩
set_option maxHeartbeats 1000000 in
theorem rightS (W : World) (B : Nat) (a : Addr) (x : No) (h : NdS W B a x) : Calls Tryd.prog 30 #[.pointer (some a)] W fun e w' => e = .returned (.pointer x.r) ∧ W = w' := by
  obtain ⟨g, rfl, hg, hh, hn⟩ := h
  obtain ⟨y0, y1, y2, y3, y4, y5, y6⟩ := hh.seven
  have c := Lib.hid (told1 W ⟨g, 0, none⟩)
  clear hh hg hn
  go_enter Tryd.func30, Tryd.ntmps30
  go_wp2_with (go_at_call 49; (with_reducible refine c.out.mono ?_); rintro e w' ⟨rfl, rfl⟩)
  go_ret
  exact ⟨rfl, rfl⟩
set_option maxHeartbeats 1000000 in
theorem rightS0 (W : World) : Calls Tryd.prog 30 #[.pointer none] W fun e w' => e = .returned (.pointer none) ∧ Below W.heap.size W w' := by
  have c := Lib.hid (told0 W)
  go_enter Tryd.func30, Tryd.ntmps30
  go_wp2_with (go_at_call 49; (with_reducible refine c.out.mono ?_); rintro e w' ⟨g, rfl, hh, hb⟩; obtain ⟨y0, y1, y2, y3, y4, y5, y6⟩ := hh.seven; have b := Lib.hid hb; clear hh hb)
  go_ret
  exact ⟨rfl, b.out⟩
set_option maxHeartbeats 1000000 in
theorem keyS (W : World) (B : Nat) (a : Addr) (x : No) (h : NdS W B a x) : Calls Tryd.prog 28 #[.pointer (some a)] W fun e w' => e = .returned (K x.k) ∧ W = w' := by
  obtain ⟨g, rfl, hg, hh, hn⟩ := h
  obtain ⟨y0, y1, y2, y3, y4, y5, y6⟩ := hh.seven
  have c := Lib.hid (told1 W ⟨g, 0, none⟩)
  clear hh hg hn
  go_enter Tryd.func28, Tryd.ntmps28
  go_wp2_with (go_at_call 49; (with_reducible refine c.out.mono ?_); rintro e w' ⟨rfl, rfl⟩)
  go_ret
  exact ⟨rfl, rfl⟩
set_option maxHeartbeats 1000000 in
theorem keyS0 (W : World) : Calls Tryd.prog 28 #[.pointer none] W fun e w' => e = .returned (.int .i64 0) ∧ Below W.heap.size W w' := by
  have c := Lib.hid (told0 W)
  go_enter Tryd.func28, Tryd.ntmps28
  go_wp2_with (go_at_call 49; (with_reducible refine c.out.mono ?_); rintro e w' ⟨g, rfl, hh, hb⟩; obtain ⟨y0, y1, y2, y3, y4, y5, y6⟩ := hh.seven; have b := Lib.hid hb; clear hh hb)
  go_ret
  exact ⟨rfl, b.out⟩
set_option maxHeartbeats 1000000 in
theorem valS (W : World) (B : Nat) (a : Addr) (x : No) (h : NdS W B a x) : Calls Tryd.prog 51 #[.pointer (some a)] W fun e w' => e = .returned (K x.v) ∧ W = w' := by
  obtain ⟨g, rfl, hg, hh, hn⟩ := h
  obtain ⟨y0, y1, y2, y3, y4, y5, y6⟩ := hh.seven
  have c := Lib.hid (told1 W ⟨g, 0, none⟩)
  clear hh hg hn
  go_enter Tryd.func51, Tryd.ntmps51
  go_wp2_with (go_at_call 49; (with_reducible refine c.out.mono ?_); rintro e w' ⟨rfl, rfl⟩)
  go_ret
  exact ⟨rfl, rfl⟩
set_option maxHeartbeats 1000000 in
theorem valS0 (W : World) : Calls Tryd.prog 51 #[.pointer none] W fun e w' => e = .returned (.int .i64 0) ∧ Below W.heap.size W w' := by
  have c := Lib.hid (told0 W)
  go_enter Tryd.func51, Tryd.ntmps51
  go_wp2_with (go_at_call 49; (with_reducible refine c.out.mono ?_); rintro e w' ⟨g, rfl, hh, hb⟩; obtain ⟨y0, y1, y2, y3, y4, y5, y6⟩ := hh.seven; have b := Lib.hid hb; clear hh hb)
  go_ret
  exact ⟨rfl, b.out⟩
set_option maxHeartbeats 1000000 in
theorem tagS (W : World) (B : Nat) (a : Addr) (x : No) (h : NdS W B a x) : Calls Tryd.prog 37 #[.pointer (some a)] W fun e w' => e = .returned (G64 x.g) ∧ W = w' := by
  obtain ⟨g, rfl, hg, hh, hn⟩ := h
  obtain ⟨y0, y1, y2, y3, y4, y5, y6⟩ := hh.seven
  have c := Lib.hid (told1 W ⟨g, 0, none⟩)
  clear hh hg hn
  go_enter Tryd.func37, Tryd.ntmps37
  go_wp2_with (go_at_call 49; (with_reducible refine c.out.mono ?_); rintro e w' ⟨rfl, rfl⟩)
  go_ret
  exact ⟨rfl, rfl⟩
set_option maxHeartbeats 1000000 in
theorem tagS0 (W : World) : Calls Tryd.prog 37 #[.pointer none] W fun e w' => e = .returned (.int .u64 0) ∧ Below W.heap.size W w' := by
  have c := Lib.hid (told0 W)
  go_enter Tryd.func37, Tryd.ntmps37
  go_wp2_with (go_at_call 49; (with_reducible refine c.out.mono ?_); rintro e w' ⟨g, rfl, hh, hb⟩; obtain ⟨y0, y1, y2, y3, y4, y5, y6⟩ := hh.seven; have b := Lib.hid hb; clear hh hb)
  go_ret
  exact ⟨rfl, b.out⟩
set_option maxHeartbeats 1000000 in
theorem sizeS (W : World) (B : Nat) (a : Addr) (x : No) (h : NdS W B a x) : Calls Tryd.prog 33 #[.pointer (some a)] W fun e w' => e = .returned (K x.size) ∧ W = w' := by
  obtain ⟨g, rfl, hg, hh, hn⟩ := h
  obtain ⟨y0, y1, y2, y3, y4, y5, y6⟩ := hh.seven
  have c := Lib.hid (told1 W ⟨g, 0, none⟩)
  clear hh hg hn
  go_enter Tryd.func33, Tryd.ntmps33
  go_wp2_with (go_at_call 49; (with_reducible refine c.out.mono ?_); rintro e w' ⟨rfl, rfl⟩)
  go_ret
  exact ⟨rfl, rfl⟩
set_option maxHeartbeats 1000000 in
theorem sizeS0 (W : World) : Calls Tryd.prog 33 #[.pointer none] W fun e w' => e = .returned (.int .i64 0) ∧ Below W.heap.size W w' := by
  have c := Lib.hid (told0 W)
  go_enter Tryd.func33, Tryd.ntmps33
  go_wp2_with (go_at_call 49; (with_reducible refine c.out.mono ?_); rintro e w' ⟨g, rfl, hh, hb⟩; obtain ⟨y0, y1, y2, y3, y4, y5, y6⟩ := hh.seven; have b := Lib.hid hb; clear hh hb)
  go_ret
  exact ⟨rfl, b.out⟩
set_option maxHeartbeats 1000000 in
theorem sumS (W : World) (B : Nat) (a : Addr) (x : No) (h : NdS W B a x) : Calls Tryd.prog 40 #[.pointer (some a)] W fun e w' => e = .returned (K x.sum) ∧ W = w' := by
  obtain ⟨g, rfl, hg, hh, hn⟩ := h
  obtain ⟨y0, y1, y2, y3, y4, y5, y6⟩ := hh.seven
  have c := Lib.hid (told1 W ⟨g, 0, none⟩)
  clear hh hg hn
  go_enter Tryd.func40, Tryd.ntmps40
  go_wp2_with (go_at_call 49; (with_reducible refine c.out.mono ?_); rintro e w' ⟨rfl, rfl⟩)
  go_ret
  exact ⟨rfl, rfl⟩
set_option maxHeartbeats 1000000 in
theorem sumS0 (W : World) : Calls Tryd.prog 40 #[.pointer none] W fun e w' => e = .returned (.int .i64 0) ∧ Below W.heap.size W w' := by
  have c := Lib.hid (told0 W)
  go_enter Tryd.func40, Tryd.ntmps40
  go_wp2_with (go_at_call 49; (with_reducible refine c.out.mono ?_); rintro e w' ⟨g, rfl, hh, hb⟩; obtain ⟨y0, y1, y2, y3, y4, y5, y6⟩ := hh.seven; have b := Lib.hid hb; clear hh hb)
  go_ret
  exact ⟨rfl, b.out⟩
theorem lookS_size {W : World} {B : Nat} {p : Option Addr} {s m : BitVec 64} (h : Look NdS W B p s m) : Calls Tryd.prog 33 #[.pointer p] W fun e w' => e = .returned (K s) ∧ Below W.heap.size W w' := by
  rcases h with ⟨rfl, rfl, rfl⟩ | ⟨a, x, rfl, hx, rfl, rfl⟩
  · exact sizeS0 W
  · exact (sizeS W B a x hx).mono (by rintro e w' ⟨rfl, rfl⟩; exact ⟨rfl, Below.refl _ _⟩)
theorem lookS_sum {W : World} {B : Nat} {p : Option Addr} {s m : BitVec 64} (h : Look NdS W B p s m) : Calls Tryd.prog 40 #[.pointer p] W fun e w' => e = .returned (K m) ∧ Below W.heap.size W w' := by
  rcases h with ⟨rfl, rfl, rfl⟩ | ⟨a, x, rfl, hx, rfl, rfl⟩
  · exact sumS0 W
  · exact (sumS W B a x hx).mono (by rintro e w' ⟨rfl, rfl⟩; exact ⟨rfl, Below.refl _ _⟩)
theorem sizes_in (s r : BitVec 64) : wrap64 (wrap64 (s.toInt + 1) + r.toInt) = (s + r + 1#64).toInt := by
  have h2 := i_add s 1#64
  rw [show (1#64 : BitVec 64).toInt = 1 by decide] at h2
  rw [h2, i_add]; congr 1; ac_rfl
theorem sums_in (s v r : BitVec 64) : wrap64 (wrap64 (s.toInt + v.toInt) + r.toInt) = (s + v + r).toInt := by rw [i_add, i_add]
theorem nextS {W W' : World} {B : Nat} {a : Addr} {x : No} (h : NdS W B a x) (hb : Below B W W') : NdS W' B a x := by
  obtain ⟨g, rfl, hg, hh, hn⟩ := h
  exact ⟨g, rfl, hg, hh.below hb hg, hn⟩
theorem lookS_next {W W' : World} {B : Nat} {p : Option Addr} {s m : BitVec 64} (h : Look NdS W B p s m) (hb : Below B W W') : Look NdS W' B p s m := by
  rcases h with ⟨rfl, rfl, rfl⟩ | ⟨a, x, rfl, hx, rfl, rfl⟩
  · exact .inl ⟨rfl, rfl, rfl⟩
  · exact .inr ⟨a, x, rfl, nextS hx hb, rfl, rfl⟩
/-- a node of two empty trees has the size 1 -/
theorem look_not {W : World} {B : Nat} {pl pr : Option Addr} {sl ml sr mr : BitVec 64} (h1 : Look NdS W B pl sl ml) (h2 : Look NdS W B pr sr mr) : pl ≠ none ∨ pr ≠ none ∨ sl + sr + 1#64 ≠ 0#64 := by
  rcases h1 with ⟨rfl, rfl, rfl⟩ | ⟨a, x, rfl, _⟩
  · rcases h2 with ⟨rfl, rfl, rfl⟩ | ⟨a, x, rfl, _⟩
    · exact .inr (.inr (by decide))
    · exact .inr (.inl (by simp))
  · exact .inl (by simp)
end Go.Proofs.YtcnkgddldhkddaaDoor
