/- The document's own answers of layer 10: Turned, Has. -/
import Derived.Test.YtadncdcblckpjaaL10Same
import Derived.Test.YtadncdcblckpjaaL9Of
namespace Go.Proofs.Ytadncdcblckpjaa
open Go.RowKit Go.Proofs.Rowm Go.Proofs.Treem

set_option maxHeartbeats 2000000 in
theorem turned_any (A : Option Addr) (n c : Nat) (l : List Pr) (hl : l.length = n) (hn : n ≤ 1000) (w : World) (hr : Row w w.heap.size A (flat l)) :
    Calls Try.prog 16 #[.slice A n c] w fun e w' => ∃ v, e = .returned v ∧ w'.ownsRow w.heap.size 50 2 v n (flat l.reverse) ∧ Below w.heap.size w w' := by
  obtain ⟨i0, hin, hz0, hz1, hz2⟩ := info_parts info_pair
  have hr' := Lib.hid hr
  have hl' := Lib.hid hl
  clear hr hl
  go_enter Try.func16, Try.ntmps16
  go_wp2
  go_loopw [3, 4] (fun v i wr => ((∃ k : Nat, k < n ∧ i = .int .i64 k ∧ wr.ownsRow w.heap.size 50 2 v (n - 1 - k) (flat (l.reverse.take (n - 1 - k)))) ∨ (i = .int .i64 (-1) ∧ wr.ownsRow w.heap.size 50 2 v n (flat l.reverse))) ∧ Below w.heap.size w wr) (fun _ i _ => (intOf i + 1).toNat)
  case atStart =>
    refine ⟨?_, Below.refl _ _⟩
    by_cases h0 : n = 0
    · subst h0
      have e0 : l = [] := List.eq_nil_of_length_eq_zero hl'.out
      subst e0
      exact .inr ⟨rfl, World.ownsRow_nil _ _ _ _⟩
    · refine .inl ⟨n - 1, by omega, by go_num, ?_⟩
      rw [Nat.sub_self]
      exact World.ownsRow_nil _ _ _ _
  case round =>
    obtain ⟨h, hb⟩ := hrel
    have hb' := Lib.hid hb
    clear hb
    rcases h with ⟨k, hk, rfl, ho⟩ | ⟨rfl, ho⟩
    · obtain ⟨A1, c1, rfl, -, -, -⟩ := own_slice ho
      have hkl : k < l.length := by rw [hl'.out]; exact hk
      obtain ⟨ad, rfl, hb2, g1, g2⟩ := pair_at (hr'.out.below hb'.out) k hkl
      have htk : Hid (l.reverse.take (n - 1 - k + 1) = l.reverse.take (n - 1 - k) ++ [l[k]]) := by
        show l.reverse.take (n - 1 - k + 1) = l.reverse.take (n - 1 - k) ++ [l[k]]
        have hlt : n - 1 - k < l.reverse.length := by rw [List.length_reverse, hl'.out]; omega
        rw [List.take_succ_eq_append_getElem hlt, List.getElem_reverse]
        congr 3
        have := hl'.out; omega
      have ho' := Lib.hid ho
      have d1 : decide ((0 : Int) ≤ (k : Int)) = true := decide_eq_true (by omega)
      clear ho
      go_wp2_with (at_builtin; refine wpList_append_row rfl _ _ 27 rfl w.heap.size 50 i0 (.agg #[.int .i64 0, .int .i64 0]) 2 16 Try.underlying27 hin hz0 hz1 hz2 rfl (by decide) _ (n - 1 - k) _ rfl (ho'.out.alloc _) (some ⟨wr.heap.size, 0, none⟩) 1 1 [K l[k].1, K l[k].2] rfl (by simp) (Nat.le_refl _) rfl _ (Has.new wr 50 #[K l[k].1, K l[k].2]).row (flat_one [l[k]]) (by unfold maxLen; omega) (by omega) (by have := hb'.out.size; simp; omega) ?_)
      intro v2 w2 hown hgrow
      have o2 : Hid (w2.ownsRow w.heap.size 50 2 v2 (n - 1 - k + 1) (flat (l.reverse.take (n - 1 - k + 1)))) := by
        show w2.ownsRow _ _ _ _ _ _
        rw [htk.out, flat_append]; exact hown
      have b2 := Lib.hid ((hb'.out.alloc hb'.out.size _).grown hgrow (by have := hb'.out.size; simp; omega) (fun r e => (ho'.out.lt r e).1))
      clear hown hgrow
      go_wp2
      go_roundw
      case rel =>
        refine ⟨?_, b2.out⟩
        by_cases h0 : k = 0
        · subst h0
          refine .inr ⟨by go_num, ?_⟩
          have := o2.out
          rw [show n - 1 - 0 + 1 = n by omega, List.take_of_length_le (by rw [List.length_reverse, hl'.out]; exact Nat.le_refl _)] at this
          exact this
        · refine .inl ⟨k - 1, by omega, by go_num, ?_⟩
          have := o2.out
          rw [show n - 1 - k + 1 = n - 1 - (k - 1) by omega] at this
          exact this
      case measure => simp [intOf]
    · have ho' := Lib.hid ho
      clear ho
      go_wp2
      go_ret
      exact ⟨_, rfl, ho'.out, hb'.out⟩
/-- which beads have a key -/
theorem hasB_take (l : List Bd) (key : BitVec 64) (k : Nat) (h : k < l.length) : hasB ((l.take (k + 1)).map strip) key = (hasB ((l.take k).map strip) key || decide (l[k].key = key)) := by
  rw [List.take_succ_eq_append_getElem h, List.map_append]
  simp only [hasB, List.any_append, List.map_cons, List.map_nil, List.any_cons, List.any_nil, Bool.or_false]
  rfl
set_option maxHeartbeats 2000000 in
theorem refHas_any (A : Option Addr) (n c B : Nat) (l : List Bd) (key : BitVec 64) (w : World) (h : LieB w B A n c l) :
    Calls Try.prog 25 #[.slice A n c, K key] w fun e w' => e = .returned (.bool (hasB (l.map strip) key)) ∧ w = w' := by
  have h' := Lib.hid h
  have hl' := Lib.hid h.len
  have hf := h.few
  clear h
  go_enter Try.func25, Try.ntmps25
  go_wp2
  go_loop [5] (fun i => ∃ k : Nat, k ≤ n ∧ i = .int .i64 k ∧ hasB ((l.take k).map strip) key = false) (fun i => n - (intOf i).toNat)
  case atStart => exact ⟨0, Nat.zero_le _, rfl, rfl⟩
  case round =>
    obtain ⟨k, hk, rfl, hno⟩ := hrel
    have hno' := Lib.hid hno
    clear hno
    by_cases hlt : k < n
    · have hkl : k < l.length := by rw [hl'.out]; exact hlt
      have htk := Lib.hid (hasB_take l key k hkl)
      obtain ⟨ad, rfl, hadB, x0, x1, x2, x3, x4, x5, x6⟩ := bead_at h'.out k hkl
      clear x1 x2 x3 x4 x5 x6
      by_cases he : l[k].key = key
      · have d1 : (l[k].key.toInt == key.toInt) = true := by rw [he]; exact beq_self_eq_true _
        have hyes : Hid (hasB (l.map strip) key = true) := by
          show hasB (l.map strip) key = true
          simp only [hasB, List.any_map, List.any_eq_true]
          exact ⟨l[k], List.getElem_mem hkl, decide_eq_true he⟩
        go_wp2
        go_ret
        exact ⟨by rw [hyes.out]; rfl, rfl⟩
      · have d1 : (l[k].key.toInt == key.toInt) = false := by
          rw [beq_eq_false_iff_ne]; exact fun e => he (BitVec.eq_of_toInt_eq e)
        have hno2 : Hid (hasB ((l.take (k + 1)).map strip) key = false) := by
          show hasB _ _ = false
          rw [htk.out, hno'.out, decide_eq_false he]; rfl
        go_wp2
        go_round
        case rel => exact ⟨k + 1, by omega, by go_num, hno2.out⟩
        case measure => simp [intOf]; omega
    · have hno2 : Hid (hasB (l.map strip) key = false) := by
        have := hno'.out
        rw [List.take_of_length_le (by rw [hl'.out]; omega)] at this; exact this
      go_wp2
      go_ret
      exact ⟨by rw [hno2.out]; rfl, rfl⟩
end Go.Proofs.Ytadncdcblckpjaa
