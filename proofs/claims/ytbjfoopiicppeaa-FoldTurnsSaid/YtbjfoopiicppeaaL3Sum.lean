/- The contracts of Sum and Sums of package fold. -/
import Derived.Test.YtbjfoopiicppeaaL3Run
import Derived.Deep.OwnRows
namespace Go.Proofs.Ytbjfoopiicppeaa
open Go.RowKit Go.Deep Go.Proofs.Foldm

/-- both, the sum under a name -/
theorem both_is {a b t : BitVec 64} (h : a + b = t) (w : World) : Calls Try.prog 23 #[K a, K b] w fun e w' => e = .returned (K t) ∧ w = w' := h ▸ both_any a b w

set_option maxHeartbeats 400000 in
/-- the closure that adds: the sum that it has captured, and the value -/
theorem add1_any {x s t : BitVec 64} (h : s + x = t) (g : Nat) (w : World) (hc : w.cell? ⟨g, 0, none⟩ = some (K s)) (hf : w.frozen? ⟨g, 0, none⟩ = false) :
    Calls Try.prog 24 #[K x, .pointer (some ⟨g, 0, none⟩)] w fun e w' => e = .returned (K t) ∧ w.setCell ⟨g, 0, none⟩ (K t) = w' := by
  have h' := Lib.hid h
  clear h
  go_enter Try.func24, Try.ntmps24
  go_wp2_with (go_at_call 23; refine (both_is h'.out _).mono ?_; rintro e w' ⟨rfl, rfl⟩)
  go_ret
  exact ⟨rfl, rfl⟩

/-- the closure that adds, as a value: the block of the sum -/
abbrev addV (g : Nat) : Value := .func (.func 24) #[] #[.pointer (some ⟨g, 0, none⟩)]
set_option maxHeartbeats 400000 in
theorem adder_any (w : World) : Calls Try.prog 20 #[] w fun e w' => e = .returned (addV w.heap.size) ∧ w.alloc (.cells #[.int .i64 0] 2) = w' := by
  go_enter Try.func20, Try.ntmps20
  go_wp2
  go_ret
  exact ⟨rfl, rfl⟩

set_option maxHeartbeats 1000000 in
theorem sum_at (A : Option Addr) (n c : Nat) (l : List (BitVec 64)) (hl : l.length = n) (hn : n ≤ c) (hc : c ≤ maxLen) (w : World) (hr : Row w w.heap.size A (l.map K)) :
    Calls Try.prog 13 #[.slice A n c] w fun e w' => e = .returned (K (sum l)) ∧ Below w.heap.size w w' := by
  unfold maxLen at hc
  have hr' := Lib.hid hr
  have hl' := Lib.hid hl
  clear hr hl
  go_enter Try.func13, Try.ntmps13
  go_wp2_with (go_at_call 20; refine (adder_any _).mono ?_; rintro e w1 ⟨rfl, rfl⟩)
  go_loopw [3, 10] (fun t i wr => ∃ k : Nat, k ≤ n ∧ i = .int .i64 k ∧ t = K (sum (l.take k)) ∧ Has wr w.heap.size 2 #[K (sum (l.take k))] ∧ Below w.heap.size w wr) (fun _ i _ => n - (intOf i).toNat)
  case atStart => exact ⟨0, Nat.zero_le _, rfl, rfl, Has.new w _ _, (Below.refl _ _).alloc (Nat.le_refl _) _⟩
  case round =>
    obtain ⟨k, hk, rfl, rfl, hh, hb⟩ := hrel
    have hb' := Lib.hid hb
    have hh' := Lib.hid hh
    clear hb hh
    by_cases hlt : k < n
    · have hkl : k < l.length := by rw [hl'.out]; exact hlt
      obtain ⟨ad, rfl, hb2, g1⟩ := (hr'.out.below hb'.out) k (K l[k]) (by simp [hkl])
      have hs := Lib.hid (sum_take l k hkl)
      have c1 := hh'.out.cell 0
      have f1 := hh'.out.free 0
      simp only [List.getElem?_toArray, List.getElem?_cons_zero] at c1
      go_wp2_with (go_at_call 24; refine (add1_any hs.out.symm _ _ c1 f1).mono ?_; rintro e w2 ⟨rfl, rfl⟩)
      go_roundw
      case rel => exact ⟨k + 1, by omega, by go_num, rfl, hh'.out.set 0 _, hb'.out.setCell (Nat.le_refl _) _⟩
      case measure => simp [intOf]; omega
    · go_wp2
      go_ret
      have : k = n := by omega
      rw [this, List.take_of_length_le (by rw [hl'.out]; exact Nat.le_refl _)]
      exact ⟨rfl, hb'.out⟩

theorem info_i64 : (Try.prog.info? 2).map (fun i => (i.zero, i.size, i.bytes)) = some (some (.int .i64 0), 1, 8) := by kernel_rfl
/-- what a call that makes a row returns: a slice of n elements that holds xs -/
def Makes (w : World) (n : Nat) (xs : List Value) (e : Ending) (w' : World) : Prop :=
  ∃ A c, e = .returned (.slice A n c) ∧ n ≤ c ∧ c ≤ maxLen ∧ Row w' w'.heap.size A xs ∧ Below w.heap.size w w'
/-- the cells of a row whose first k are told, the rest of them 0 -/
def filled (l : List (BitVec 64)) (k : Nat) : Array Value := (((sums l).map K).take k ++ List.replicate (l.length - k) (K 0#64)).toArray
theorem filled_set (l : List (BitVec 64)) (k : Nat) (h : k < l.length) : (filled l k).setIfInBounds k (K (sum (l.take (k + 1)))) = filled l (k + 1) := by
  unfold filled
  apply Array.ext'
  simp only [List.setIfInBounds_toArray]
  have hl : ((sums l).map K).length = l.length := by simp [sums_length]
  have e1 : l.length - k = (l.length - (k + 1)) + 1 := by omega
  have ek : (((sums l).map K).take k).length = k := by rw [List.length_take, hl]; omega
  rw [List.set_append_right _ _ (by omega), ek, Nat.sub_self, e1, List.replicate_succ, List.set_cons_zero,
    List.take_succ_eq_append_getElem (l := (sums l).map K) (i := k) (by omega), List.append_assoc]
  have : ((sums l).map K)[k]'(by omega) = K (sum (l.take (k + 1))) := by
    have := sums_at l k h
    rw [List.getElem_map]
    congr 1
    rw [List.getElem?_eq_getElem (by rw [sums_length]; exact h)] at this
    exact Option.some.inj this
  rw [this]; rfl
theorem filled_all (l : List (BitVec 64)) : (filled l l.length).toList = (sums l).map K := by
  unfold filled
  simp only [Nat.sub_self, List.replicate_zero, List.append_nil]
  rw [List.take_of_length_le (by simp [sums_length])]
theorem filled_none (l : List (BitVec 64)) : madeCells #[K 0#64] l.length = filled l 0 := by
  apply Array.ext'
  rw [toList_madeCells_one]
  simp [filled]
theorem filled_size (l : List (BitVec 64)) (k : Nat) (h : k ≤ l.length) : (filled l k).size = l.length := by
  unfold filled; simp [sums_length]; omega


set_option maxHeartbeats 1000000 in
theorem sums_any (A : Option Addr) (n c : Nat) (l : List (BitVec 64)) (hl : l.length = n) (hn : n ≤ c) (h3 : n ≤ 300) (w : World) (hr : Row w w.heap.size A (l.map K)) :
    Calls Try.prog 16 #[.slice A n c] w (Makes w n ((sums l).map K)) := by
  have hmk := fun W => run_make_row' (P := Try.prog) 22 2 (.int .i64 0) 8 Try.underlying22 info_i64 rfl .i64 .i64 n (by omega) (by omega) W
  have hr' := Lib.hid hr
  have hl' := Lib.hid hl
  clear hr hl
  go_enter Try.func16, Try.ntmps16
  go_wp2_with (go_at_call 20; refine (adder_any _).mono ?_; rintro e w1 ⟨rfl, rfl⟩)
  go_loopw [13] (fun i wr => ∃ k : Nat, k ≤ n ∧ i = .int .i64 k ∧ Has wr w.heap.size 2 (filled l k) ∧ Has wr (w.heap.size + 1) 2 #[K (sum (l.take k))] ∧ Below w.heap.size w wr) (fun i _ => n - (intOf i).toNat)
  case atStart =>
    refine ⟨0, Nat.zero_le _, rfl, ?_, ?_, ((Below.refl _ _).alloc (Nat.le_refl _) _).alloc (by simp) _⟩
    · have := (Has.new w 2 (madeCells #[K 0#64] n)).alloc (.cells #[.int .i64 0] 2)
      rw [← filled_none, hl'.out]
      exact this
    · have := Has.new (w.alloc (.cells (madeCells #[K 0#64] n) 2)) 2 #[.int .i64 0]
      rw [World.size_alloc] at this
      exact this
  case round =>
    obtain ⟨k, hk, rfl, hh, ha, hb⟩ := hrel
    have hb' := Lib.hid hb
    have hh' := Lib.hid hh
    have ha' := Lib.hid ha
    clear hb hh ha hmk
    by_cases hlt : k < n
    · have hkl : k < l.length := by rw [hl'.out]; exact hlt
      obtain ⟨ad, rfl, hb2, g1⟩ := (hr'.out.below hb'.out) k (K l[k]) (by simp [hkl])
      have hs := Lib.hid (sum_take l k hkl)
      have c1 := ha'.out.cell 0
      have f1 := ha'.out.free 0
      simp only [List.getElem?_toArray, List.getElem?_cons_zero] at c1
      have hh2 := Lib.hid (hh'.out.far (p := ⟨w.heap.size + 1, 0, none⟩) (by simp) (K (sum (l.take (k + 1)))))
      have ha2 := Lib.hid (ha'.out.set 0 (K (sum (l.take (k + 1)))))
      obtain ⟨u, hu⟩ : ∃ u, (wr.setCell ⟨w.heap.size + 1, 0, none⟩ (K (sum (l.take (k + 1))))).cell? ⟨w.heap.size, k, none⟩ = some u := ⟨_, (hh2.out.cell k).trans (Array.getElem?_eq_getElem (by rw [filled_size l k (by omega)]; exact hkl))⟩
      have fu := hh2.out.free k
      go_wp2_with (go_at_call 24; refine (add1_any hs.out.symm _ _ c1 f1).mono ?_; rintro e w2 ⟨rfl, rfl⟩)
      go_roundw
      case rel => exact ⟨k + 1, by omega, by go_num, by rw [← filled_set l k hkl]; exact hh2.out.set k _, ha2.out.far (by simp) _, (hb'.out.setCell (by simp) _).setCell (Nat.le_refl _) _⟩
      case measure => simp [intOf]; omega
    · go_wp2
      go_ret
      have : k = n := by omega
      subst this
      refine ⟨_, _, rfl, Nat.le_refl _, by unfold maxLen; omega, ?_, hb'.out⟩
      have := hh'.out.row
      rw [← hl'.out, filled_all] at this
      exact this
end Go.Proofs.Ytbjfoopiicppeaa
