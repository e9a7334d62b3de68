/- The document's own answers of layer 7 (package joineryref07): May, trim, at, Same. -/
import Derived.Test.YtmndfncogkjjpaaDoorL7Math
import Derived.Test.YtmndfncogkjjpaaDoorGInts
namespace Go.Proofs.YtmndfncogkjjpaaDoor
open Go.RowKit Go.Proofs.Natm
set_option maxRecDepth 100000

set_option maxHeartbeats 1000000 in
theorem refMay7_any (A : Option Addr) (n c : Nat) (l : List Nat) (w : World) (h : LieV w A n c (l.map U)) : Calls Tryd.prog 17 #[.slice A n c] w fun e w' => e = .returned (.bool (mayL l)) ∧ w = w' := by
  have hl : l.length = n := by have := h.len; rwa [List.length_map] at this
  have hf := h.few
  by_cases h128 : n ≤ 128
  · have d1 : decide ((n : Int) ≤ 128) = true := decide_eq_true (by omega)
    rcases Nat.eq_zero_or_pos n with h0 | h0
    · have d2 : ((n : Int) == 0) = true := by simp [h0]
      have hm : mayL l = true := by obtain rfl : l = [] := List.eq_nil_of_length_eq_zero (by omega); rfl
      rw [hm]
      clear h hl hm
      go_enter Tryd.func17, Tryd.ntmps17
      go_wp2
      go_ret
      exact ⟨rfl, rfl⟩
    · obtain ⟨k, hkn⟩ : ∃ k, n = k + 1 := ⟨n - 1, by omega⟩
      have hk : k < l.length := by omega
      have hk3 : k < n := by omega
      obtain ⟨ad, rfl, hb, g1⟩ := h.at_ (k := k) (u := U l[k]) (by simp [hk])
      have d2 : ((n : Int) == 0) = false := by simp; omega
      have d3 : (n : Int) - 1 = (k : Int) := by omega
      have hm : mayL l = ((l[k] : Int) != 0) := by
        unfold mayL
        rw [List.getLast?_eq_getElem?, hl, hkn, Nat.add_sub_cancel, List.getElem?_eq_getElem hk, Bool.eq_iff_iff]
        simp; omega
      rw [hm]
      obtain ⟨x, hx⟩ : ∃ x, l[k] = x := ⟨_, rfl⟩
      simp only [hx] at g1 ⊢
      clear h hl hm hx hk hkn
      go_enter Tryd.func17, Tryd.ntmps17
      go_wp2
      go_ret
      exact ⟨rfl, rfl⟩
  · have d1 : decide ((n : Int) ≤ 128) = false := decide_eq_false (by omega)
    have hm : mayL l = false := by unfold mayL; simp; omega
    rw [hm]
    clear h hl hm
    go_enter Tryd.func17, Tryd.ntmps17
    go_wp2
    go_ret
    exact ⟨rfl, rfl⟩

set_option maxHeartbeats 1000000 in
theorem at7_any (A : Option Addr) (n c : Nat) (l : List Nat) (i d : Nat) (hd : l.getD i 0 = d) (w : World) (h : LieV w A n c (l.map I)) : Calls Tryd.prog 34 #[.slice A n c, .int .i64 i] w fun e w' => e = .returned (I d) ∧ w = w' := by
  have hl : l.length = n := by have := h.len; rwa [List.length_map] at this
  have hf := h.few
  by_cases hin : i < n
  · have hk : i < l.length := by omega
    have e : l[i] = d := by rw [← hd]; simp [hk]
    obtain ⟨ad, rfl, hb, g1⟩ := h.at_ (k := i) (u := I d) (by simp [hk, e])
    clear h hl hd e hk
    go_enter Tryd.func34, Tryd.ntmps34
    go_wp2
    go_ret
    exact ⟨rfl, rfl⟩
  · have e : d = 0 := by rw [← hd, List.getD_eq_getElem?_getD, List.getElem?_eq_none (by omega)]; rfl
    subst e
    clear h hl hd
    go_enter Tryd.func34, Tryd.ntmps34
    go_wp2
    go_ret
    exact ⟨rfl, rfl⟩

theorem at7_is {A : Option Addr} {n c : Nat} {l : List Nat} {z : Int} {i d : Nat} (hz : z = (i : Int)) (hd : l.getD i 0 = d) {w : World} (h : LieV w A n c (l.map I)) : Calls Tryd.prog 34 #[.slice A n c, .int .i64 z] w fun e w' => e = .returned (I d) ∧ w = w' := by
  subst hz
  exact at7_any A n c l i d hd w h
set_option maxHeartbeats 1000000 in
theorem trim7_any (A : Option Addr) (n c k : Nat) (l : List Nat) (hk : k ≤ n) (h0 : ∀ j d, k ≤ j → l[j]? = some d → d = 0) (h1 : ∀ j d, k = j + 1 → l[j]? = some d → d ≠ 0) (w : World) (h : LieV w A n c (l.map I)) : Calls Tryd.prog 42 #[.slice A n c] w fun e w' => e = .returned (.slice A k c) ∧ w = w' := by
  have hl : l.length = n := by have := h.len; rwa [List.length_map] at this
  have hf := h.few
  have hcap := h.cap
  have hmax := h.max
  unfold maxLen at hmax
  have h' := Lib.hid h
  have h0' := Lib.hid h0
  have h1' := Lib.hid h1
  have hl' := Lib.hid hl
  clear h h0 h1 hl
  go_enter Tryd.func42, Tryd.ntmps42
  go_wp2
  go_loop [3] (fun i => ∃ j : Nat, k ≤ j ∧ j ≤ n ∧ i = .int .i64 j) (fun i => (intOf i).toNat)
  case atStart => exact ⟨n, hk, Nat.le_refl _, rfl⟩
  case round =>
    obtain ⟨j, hkj, hjn, rfl⟩ := hrel
    rcases Nat.eq_zero_or_pos j with h00 | h00
    · obtain rfl : k = 0 := by omega
      have d1 : decide ((0 : Int) < (j : Int)) = false := decide_eq_false (by omega)
      have hkc := cut_to (P := Tryd.prog) Tryd.underlying47 size_int A n c 0 (j : Int) (by omega) (by omega)
      go_wp2
      go_ret
      exact ⟨rfl, rfl⟩
    · obtain ⟨i, rfl⟩ : ∃ i, j = i + 1 := ⟨j - 1, by omega⟩
      have hi : i < l.length := by rw [hl'.out]; omega
      obtain ⟨ad, rfl, hb, g1⟩ := h'.out.at_ (k := i) (u := I l[i]) (by simp [hi])
      have d1 : decide ((0 : Int) < ((i + 1 : Nat) : Int)) = true := decide_eq_true (by omega)
      have d2 : ((i + 1 : Nat) : Int) - 1 = (i : Int) := by omega
      by_cases hs : k = i + 1
      · subst hs
        have hne := h1'.out i l[i] rfl (by simp [hi])
        have d3 : ((l[i] : Int) == 0) = false := by simp; exact hne
        have hkc := cut_to (P := Tryd.prog) Tryd.underlying47 size_int (some ad) n c (i + 1) ((i + 1 : Nat) : Int) (by omega) (by omega)
        go_wp2
        go_ret
        exact ⟨rfl, rfl⟩
      · have hz := h0'.out i l[i] (by omega) (by simp [hi])
        have d3 : ((l[i] : Int) == 0) = true := by simp; exact hz
        go_wp2
        go_round
        case rel => exact ⟨i, by omega, by omega, rfl⟩
        case measure => simp [intOf]

set_option maxHeartbeats 1000000 in
theorem same7_yes (A A' : Option Addr) (n c c' : Nat) (l : List Nat) (w : World) (hr : LieV w A n c (l.map U)) (hq : LieV w A' n c' (l.map U)) :
    Calls Tryd.prog 15 #[.slice A n c, .slice A' n c'] w fun e w' => e = .returned (.bool true) ∧ Below w.heap.size w w' := by
  have hl : l.length = n := by have := hr.len; rwa [List.length_map] at this
  have hf := hr.few
  have hr' := Lib.hid hr
  have hq' := Lib.hid hq
  have hl' := Lib.hid hl
  clear hr hq hl
  go_enter Tryd.func15, Tryd.ntmps15
  go_wp2
  go_loopw [5] (fun i wr => ∃ k : Nat, k ≤ n ∧ i = .int .i64 k ∧ Below w.heap.size w wr) (fun i _ => n - (intOf i).toNat)
  case atStart => exact ⟨0, Nat.zero_le _, rfl, Below.refl _ _⟩
  case round =>
    obtain ⟨k, hk, rfl, hb⟩ := hrel
    have hb' := Lib.hid hb
    clear hb
    by_cases hlt : k < n
    · have hkl : k < l.length := by rw [hl'.out]; exact hlt
      obtain ⟨ad, rfl, hb2, g1⟩ := (hr'.out.next hb'.out).at_ (k := k) (u := U l[k]) (by simp [hkl])
      obtain ⟨ad', rfl, hb3, g2⟩ := (hq'.out.next hb'.out).at_ (k := k) (u := U l[k]) (by simp [hkl])
      go_wp2
      go_quiet (fail)
      go_wp2
      go_roundw
      case rel => exact ⟨k + 1, by omega, by go_num, below_drewN hb'.out _⟩
      case measure => simp [intOf]; omega
    · go_wp2
      go_ret
      exact ⟨rfl, hb'.out⟩
end Go.Proofs.YtmndfncogkjjpaaDoor
