/- The document's own answer of layer 9: whether two rows of beads are the same, of any two. -/
import Derived.Test.YtcnkgddldhkddaaDoorL9Ends
import Derived.Laws.StructEq
namespace Go.Proofs.YtcnkgddldhkddaaDoor
open Go.RowKit Go.Proofs.Treem
set_option maxRecDepth 100000

theorem toInt_beq (a b : BitVec 64) : (a.toInt == b.toInt) = decide (a = b) := by
  by_cases h : a = b
  · rw [h]; simp
  · rw [decide_eq_false h, beq_eq_false_iff_ne]; exact fun e => h (BitVec.eq_of_toInt_eq e)
theorem toNat_beq (a b : BitVec 64) : (((a.toNat : Nat) : Int) == ((b.toNat : Nat) : Int)) = decide (a = b) := by
  by_cases h : a = b
  · rw [h]; simp
  · rw [decide_eq_false h, beq_eq_false_iff_ne]; exact fun e => h (BitVec.eq_of_toNat_eq (by omega))
theorem bead_same (x y : Bd) : decide (x = y) = (decide (x.key = y.key) && (decide (x.val = y.val) && (decide (x.sum = y.sum) && (decide (x.size = y.size) && (decide (x.tag = y.tag) && ((x.left == y.left) && (x.right == y.right))))))) := by
  obtain ⟨a1, a2, a3, a4, a5, a6, a7⟩ := x
  obtain ⟨b1, b2, b3, b4, b5, b6, b7⟩ := y
  simp only [Bd.mk.injEq, Bool.decide_and, Bool.beq_eq_decide_eq]
theorem partB (W : World) (cs : Array Value) (k : Nat) (v : Value) (hv : cs[k]? = some v) : (part 4 cs k).run Tryd.prog W = .ok v W := by
  simp [part, isAgg, run_underlying Tryd.underlying4, hv]
theorem partI (W : World) (cs : Array Value) (k : Nat) (v : Value) (hv : cs[k]? = some v) : (part 2 cs k).run Tryd.prog W = .ok v W := by
  simp [part, isAgg, run_underlying Tryd.underlying2, hv]
theorem partN (W : World) (cs : Array Value) (k : Nat) (v : Value) (hv : cs[k]? = some v) : (part 3 cs k).run Tryd.prog W = .ok v W := by
  simp [part, isAgg, run_underlying Tryd.underlying3, hv]
theorem partU (W : World) (cs : Array Value) (k : Nat) (v : Value) (hv : cs[k]? = some v) : (part 36 cs k).run Tryd.prog W = .ok v W := by
  simp [part, isAgg, run_underlying Tryd.underlying36, hv]
theorem heldBead : Tryd.prog.stoodInHeld 52 = false := by kernel_rfl
theorem fieldsBead : Tryd.prog.fieldsOf 52 = #[{ name := "Key", type := 2, offset := 0, embedded := false, tag := "", pkgPath := "", byteOffset := 0 }, { name := "Val", type := 2, offset := 1, embedded := false, tag := "", pkgPath := "", byteOffset := 8 }, { name := "Sum", type := 2, offset := 2, embedded := false, tag := "", pkgPath := "", byteOffset := 16 }, { name := "Size", type := 3, offset := 3, embedded := false, tag := "", pkgPath := "", byteOffset := 24 }, { name := "Tag", type := 36, offset := 4, embedded := false, tag := "", pkgPath := "", byteOffset := 32 }, { name := "Left", type := 4, offset := 5, embedded := false, tag := "", pkgPath := "", byteOffset := 40 }, { name := "Right", type := 4, offset := 6, embedded := false, tag := "", pkgPath := "", byteOffset := 41 }] := by
  simp only [Program.fieldsOf, Tryd.underlying52]
theorem bead_eql (x y : Bd) (W : World) : (binOp .eql 52 (bdV x) (bdV y)).run Tryd.prog W = .ok (.bool (decide (x = y))) W := by
  rw [bead_same, run_eql_struct, run_equalIn_struct W 9999 52 _ _ (by rw [fieldsBead]; exact Tryd.underlying52) heldBead, fieldsBead]
  simp only [Op.eqFields, ne_eq, String.reduceEq, not_false_eq_true, if_true]
  obtain ⟨a1, a2, a3, a4, a5, a6, a7⟩ := x
  obtain ⟨b1, b2, b3, b4, b5, b6, b7⟩ := y
  have ap0 : ∀ W, (part 2 #[K a1, K a2, K a3, K a4, G64 a5, .bool a6, .bool a7] 0).run Tryd.prog W = .ok (K a1) W := fun W => partI W _ _ _ rfl
  have ap1 : ∀ W, (part 2 #[K a1, K a2, K a3, K a4, G64 a5, .bool a6, .bool a7] 1).run Tryd.prog W = .ok (K a2) W := fun W => partI W _ _ _ rfl
  have ap2 : ∀ W, (part 2 #[K a1, K a2, K a3, K a4, G64 a5, .bool a6, .bool a7] 2).run Tryd.prog W = .ok (K a3) W := fun W => partI W _ _ _ rfl
  have ap3 : ∀ W, (part 3 #[K a1, K a2, K a3, K a4, G64 a5, .bool a6, .bool a7] 3).run Tryd.prog W = .ok (K a4) W := fun W => partN W _ _ _ rfl
  have ap4 : ∀ W, (part 36 #[K a1, K a2, K a3, K a4, G64 a5, .bool a6, .bool a7] 4).run Tryd.prog W = .ok (G64 a5) W := fun W => partU W _ _ _ rfl
  have ap5 : ∀ W, (part 4 #[K a1, K a2, K a3, K a4, G64 a5, .bool a6, .bool a7] 5).run Tryd.prog W = .ok (.bool a6) W := fun W => partB W _ _ _ rfl
  have ap6 : ∀ W, (part 4 #[K a1, K a2, K a3, K a4, G64 a5, .bool a6, .bool a7] 6).run Tryd.prog W = .ok (.bool a7) W := fun W => partB W _ _ _ rfl
  have bp0 : ∀ W, (part 2 #[K b1, K b2, K b3, K b4, G64 b5, .bool b6, .bool b7] 0).run Tryd.prog W = .ok (K b1) W := fun W => partI W _ _ _ rfl
  have bp1 : ∀ W, (part 2 #[K b1, K b2, K b3, K b4, G64 b5, .bool b6, .bool b7] 1).run Tryd.prog W = .ok (K b2) W := fun W => partI W _ _ _ rfl
  have bp2 : ∀ W, (part 2 #[K b1, K b2, K b3, K b4, G64 b5, .bool b6, .bool b7] 2).run Tryd.prog W = .ok (K b3) W := fun W => partI W _ _ _ rfl
  have bp3 : ∀ W, (part 3 #[K b1, K b2, K b3, K b4, G64 b5, .bool b6, .bool b7] 3).run Tryd.prog W = .ok (K b4) W := fun W => partN W _ _ _ rfl
  have bp4 : ∀ W, (part 36 #[K b1, K b2, K b3, K b4, G64 b5, .bool b6, .bool b7] 4).run Tryd.prog W = .ok (G64 b5) W := fun W => partU W _ _ _ rfl
  have bp5 : ∀ W, (part 4 #[K b1, K b2, K b3, K b4, G64 b5, .bool b6, .bool b7] 5).run Tryd.prog W = .ok (.bool b6) W := fun W => partB W _ _ _ rfl
  have bp6 : ∀ W, (part 4 #[K b1, K b2, K b3, K b4, G64 b5, .bool b6, .bool b7] 6).run Tryd.prog W = .ok (.bool b7) W := fun W => partB W _ _ _ rfl
  have ei : ∀ (W : World) (a b : Int), (Op.equalIn 9999 2 (.int .i64 a) (.int .i64 b)).run Tryd.prog W = .ok (a == b) W := fun W a b => run_equalIn_int W 9998 2 .i64 .i64 a b Tryd.underlying2
  have en : ∀ (W : World) (a b : Int), (Op.equalIn 9999 3 (.int .i64 a) (.int .i64 b)).run Tryd.prog W = .ok (a == b) W := fun W a b => run_equalIn_int W 9998 3 .i64 .i64 a b Tryd.underlying3
  have eu : ∀ (W : World) (a b : Int), (Op.equalIn 9999 36 (.int .u64 a) (.int .u64 b)).run Tryd.prog W = .ok (a == b) W := fun W a b => run_equalIn_int W 9998 36 .u64 .u64 a b Tryd.underlying36
  have eb : ∀ (W : World) (a b : Bool), (Op.equalIn 9999 4 (.bool a) (.bool b)).run Tryd.prog W = .ok (a == b) W := fun W a b => run_equalIn_bool W 9998 4 a b Tryd.underlying4
  simp only [Sem.run_bind, Sem.run_ite, Sem.run_pure, Result.andThen_ok, ap0, ap1, ap2, ap3, ap4, ap5, ap6, bp0, bp1, bp2, bp3, bp4, bp5, bp6, ei, en, eu, eb, toInt_beq, toNat_beq]
  cases decide (a1 = b1) <;> cases decide (a2 = b2) <;> cases decide (a3 = b3) <;> cases decide (a4 = b4) <;> cases decide (a5 = b5) <;> cases (a6 == b6) <;> cases (a7 == b7) <;> rfl
theorem neq_val {P : Program} {W : World} {t : TypeId} {a b : Array Value} {r : Bool} (h : (binOp .eql t (.agg a) (.agg b)).run P W = .ok (.bool r) W) : (binOp .neq t (.agg a) (.agg b)).run P W = .ok (.bool (!r)) W := by
  simp only [binOp] at h ⊢
  simp at h ⊢
  cases hh : (Op.equal t (.agg a) (.agg b)).run P W with
  | ok v w1 => rw [hh] at h; simp at h ⊢; obtain ⟨h1, h2⟩ := h; exact ⟨by rw [h1], h2⟩
  | _ => rw [hh] at h; simp at h
theorem bead_neq (x y : Bd) (W : World) : (binOp .neq 52 (bdV x) (bdV y)).run Tryd.prog W = .ok (.bool (!decide (x = y))) W := neq_val (bead_eql x y W)
set_option maxHeartbeats 2000000 in
theorem same9_any (A A' : Option Addr) (n m c c' : Nat) (l l' : List Bd) (b : Bool) (hb : b = true ↔ l = l') (w : World) (h : LieB w w.heap.size A n c l) (q : LieB w w.heap.size A' m c' l') : Calls Tryd.prog 45 #[.slice A n c, .slice A' m c'] w fun e w' => e = .returned (.bool b) ∧ Below w.heap.size w w' := by
  have h' := Lib.hid h
  have q' := Lib.hid q
  have hl' := Lib.hid h.len
  have ql' := Lib.hid q.len
  have hb' := Lib.hid hb
  have hf := h.few
  have qf := q.few
  clear h q hb
  by_cases hnm : n = m
  · subst hnm
    go_enter Tryd.func45, Tryd.ntmps45
    go_wp2
    go_loopw [5] (fun i wr => ∃ k : Nat, k ≤ n ∧ i = .int .i64 k ∧ Below w.heap.size w wr ∧ Hid (l.take k = l'.take k)) (fun i _ => n - (intOf i).toNat)
    case atStart => exact ⟨0, Nat.zero_le _, rfl, Below.refl _ _, by show l.take 0 = l'.take 0; simp⟩
    case round =>
      obtain ⟨k, hk, rfl, hbw, he⟩ := hrel
      have hbw' := Lib.hid hbw
      clear hbw
      by_cases hlt : k < n
      · have hkl : k < l.length := by rw [hl'.out]; exact hlt
        have hkq : k < l'.length := by rw [ql'.out]; exact hlt
        obtain ⟨ad, rfl, hb2, g0, g1, g2, g3, g4, g5, g6⟩ := bead_at (h'.out.next hbw'.out) k hkl
        obtain ⟨ad', rfl, hb3, f0, f1, f2, f3, f4, f5, f6⟩ := bead_at (q'.out.next hbw'.out) k hkq
        have hne := bead_neq l[k] l'[k]
        obtain ⟨r, hr⟩ : ∃ r, (!decide (l[k] = l'[k])) = r := ⟨_, rfl⟩
        have hr' := Lib.hid hr
        rw [hr] at hne
        clear hr
        go_wp2
        go_quiet (fail)
        cases r with
        | false =>
          have hnx : Hid (l.take (k + 1) = l'.take (k + 1)) := by
            have hx : l[k] = l'[k] := by simpa using hr'.out
            show l.take (k + 1) = l'.take (k + 1)
            rw [List.take_succ_eq_append_getElem hkl, List.take_succ_eq_append_getElem hkq, he.out, hx]
          go_wp2
          go_roundw
          case rel => exact ⟨k + 1, by omega, by go_num, below_drewN hbw'.out _, hnx⟩
          case measure => simp [intOf]; omega
        | true =>
          have hbf : Hid (b = false) := by
            cases b with
            | false => rfl
            | true => have := hb'.out.1 rfl; subst this; have := hr'.out; simp at this
          go_wp2
          go_ret
          exact ⟨by rw [hbf.out]; rfl, below_drewN hbw'.out _⟩
      · have hbt : Hid (b = true) := by
          obtain rfl : k = n := by omega
          have h1 := he.out
          rw [List.take_of_length_le (by rw [hl'.out]; exact Nat.le_refl _), List.take_of_length_le (by rw [ql'.out]; exact Nat.le_refl _)] at h1
          exact hb'.out.2 h1
        go_wp2
        go_ret
        exact ⟨by rw [hbt.out]; rfl, hbw'.out⟩
  · have hbf : Hid (b = false) := by
      cases b with
      | false => rfl
      | true => exact absurd (by rw [← hl'.out, ← ql'.out, hb'.out.1 rfl]) hnm
    go_enter Tryd.func45, Tryd.ntmps45
    go_wp2
    go_ret
    exact ⟨by rw [hbf.out]; rfl, Below.refl _ _⟩
end Go.Proofs.YtcnkgddldhkddaaDoor
