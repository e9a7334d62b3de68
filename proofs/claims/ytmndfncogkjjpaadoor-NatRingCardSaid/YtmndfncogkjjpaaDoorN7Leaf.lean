/- Package nat, as it landed: word, trimmed, fitted, May, and cmp.Compare of words. -/
import Derived.Test.YtmndfncogkjjpaaDoorL7Ok
namespace Go.Proofs.YtmndfncogkjjpaaDoor
open Go.RowKit Go.Proofs.Natm
set_option maxRecDepth 100000

set_option maxHeartbeats 1000000 in
theorem natMay_any (A : Option Addr) (n c : Nat) (l : List Nat) (w : World) (h : LieV w A n c (l.map U)) : Calls Tryd.prog 16 #[.slice A n c] w fun e w' => e = .returned (.bool (mayL l)) ∧ w = w' := by
  have hl : l.length = n := by have := h.len; rwa [List.length_map] at this
  have hf := h.few
  by_cases h128 : n ≤ 128
  · have d1 : decide ((n : Int) ≤ 128) = true := decide_eq_true (by omega)
    rcases Nat.eq_zero_or_pos n with h0 | h0
    · have d2 : ((n : Int) == 0) = true := by simp [h0]
      have hm : mayL l = true := by obtain rfl : l = [] := List.eq_nil_of_length_eq_zero (by omega); rfl
      rw [hm]
      clear h hl hm
      go_enter Tryd.func16, Tryd.ntmps16
      go_wp2
      go_ret
      exact ⟨rfl, rfl⟩
    · obtain ⟨k, hkn⟩ : ∃ k, n = k + 1 := ⟨n - 1, by omega⟩
      have hk : k < l.length := by omega
      have hk3 : k < n := by omega
      obtain ⟨ad, rfl, hb, g1⟩ := h.at_ (k := k) (u := U l[k]) (by simp [hk])
      have d2 : ((n : Int) == 0) = false := by simp; omega
      have d3 : (n : Int) - 1 = (k : Int) := by omega
      have hm : mayL l = ((l[k] : Int) != 0) := by
        unfold mayL
        rw [List.getLast?_eq_getElem?, hl, hkn, Nat.add_sub_cancel, List.getElem?_eq_getElem hk, Bool.eq_iff_iff]
        simp; omega
      rw [hm]
      obtain ⟨x, hx⟩ : ∃ x, l[k] = x := ⟨_, rfl⟩
      simp only [hx] at g1 ⊢
      clear h hl hm hx hk hkn
      go_enter Tryd.func16, Tryd.ntmps16
      go_wp2
      go_ret
      exact ⟨rfl, rfl⟩
  · have d1 : decide ((n : Int) ≤ 128) = false := decide_eq_false (by omega)
    have hm : mayL l = false := by unfold mayL; simp; omega
    rw [hm]
    clear h hl hm
    go_enter Tryd.func16, Tryd.ntmps16
    go_wp2
    go_ret
    exact ⟨rfl, rfl⟩
theorem natMay_is {l : List Nat} {t : Bool} (ht : mayL l = t) {A : Option Addr} {n c : Nat} {w : World} (h : LieW w A n c l) : Calls Tryd.prog 16 #[.slice A n c] w fun e w' => e = .returned (.bool t) ∧ w = w' := ht ▸ natMay_any A n c l w h.lie

set_option maxHeartbeats 1000000 in
theorem word_any (A : Option Addr) (n c : Nat) (l : List Nat) (i d : Nat) (hd : l.getD i 0 = d) (hd9 : d < 4294967296) (w : World) (h : LieV w A n c (l.map U)) : Calls Tryd.prog 26 #[.slice A n c, .int .i64 i] w fun e w' => e = .returned (.int .u64 d) ∧ w = w' := by
  have hl : l.length = n := by have := h.len; rwa [List.length_map] at this
  have hf := h.few
  by_cases hin : i < n
  · have hk : i < l.length := by omega
    have e : l[i] = d := by rw [← hd]; simp [hk]
    obtain ⟨ad, rfl, hb, g1⟩ := h.at_ (k := i) (u := U d) (by simp [hk, e])
    clear h hl hd e hk
    go_enter Tryd.func26, Tryd.ntmps26
    go_wp2
    go_ret
    exact ⟨rfl, rfl⟩
  · have e : d = 0 := by rw [← hd, List.getD_eq_getElem?_getD, List.getElem?_eq_none (by omega)]; rfl
    subst e
    clear h hl hd
    go_enter Tryd.func26, Tryd.ntmps26
    go_wp2
    go_ret
    exact ⟨rfl, rfl⟩
theorem word_is {A : Option Addr} {n c : Nat} {l : List Nat} {z : Int} {i d : Nat} (hz : z = (i : Int)) (hd : l.getD i 0 = d) (hd9 : d < 4294967296) {w : World} (h : LieV w A n c (l.map U)) : Calls Tryd.prog 26 #[.slice A n c, .int .i64 z] w fun e w' => e = .returned (.int .u64 d) ∧ w = w' := by
  subst hz
  exact word_any A n c l i d hd hd9 w h
/-- the length of a slice, as a value -/
def lenV : Value → Nat
  | .slice _ n _ => n
  | _ => 0

set_option maxHeartbeats 1000000 in
theorem trimmed_any (A : Option Addr) (n c k : Nat) (l : List Nat) (hk : k ≤ n) (h0 : ∀ j d, k ≤ j → l[j]? = some d → d = 0) (h1 : ∀ j d, k = j + 1 → l[j]? = some d → d ≠ 0) (w : World) (h : LieV w A n c (l.map U)) : Calls Tryd.prog 39 #[.slice A n c] w fun e w' => e = .returned (.slice A k c) ∧ w = w' := by
  have hl : l.length = n := by have := h.len; rwa [List.length_map] at this
  have hf := h.few
  have hcap := h.cap
  have hmax := h.max
  unfold maxLen at hmax
  have h' := Lib.hid h
  have h0' := Lib.hid h0
  have h1' := Lib.hid h1
  have hl' := Lib.hid hl
  clear h h0 h1 hl
  go_enter Tryd.func39, Tryd.ntmps39
  go_wp2
  go_loop [0] (fun v => ∃ j : Nat, k ≤ j ∧ j ≤ n ∧ v = .slice A j c) (fun v => lenV v)
  case atStart => exact ⟨n, hk, Nat.le_refl _, rfl⟩
  case round =>
    obtain ⟨j, hkj, hjn, rfl⟩ := hrel
    rcases Nat.eq_zero_or_pos j with h00 | h00
    · obtain rfl : k = 0 := by omega
      subst h00
      have d1 : decide ((0 : Int) < ((0 : Nat) : Int)) = false := decide_eq_false (by omega)
      go_wp2
      go_ret
      exact ⟨rfl, rfl⟩
    · obtain ⟨i, rfl⟩ : ∃ i, j = i + 1 := ⟨j - 1, by omega⟩
      have hi : i < l.length := by rw [hl'.out]; omega
      obtain ⟨ad, rfl, hb, g1⟩ := h'.out.at_ (k := i) (u := U l[i]) (by simp [hi])
      have d1 : decide ((0 : Int) < ((i + 1 : Nat) : Int)) = true := decide_eq_true (by omega)
      have d2 : ((i + 1 : Nat) : Int) - 1 = (i : Int) := by omega
      by_cases hs : k = i + 1
      · subst hs
        have hne := h1'.out i l[i] rfl (by simp [hi])
        have d3 : ((l[i] : Int) == 0) = false := by simp; exact hne
        go_wp2
        go_ret
        exact ⟨rfl, rfl⟩
      · have hz := h0'.out i l[i] (by omega) (by simp [hi])
        have d3 : ((l[i] : Int) == 0) = true := by simp; exact hz
        have hkc := cut_to (P := Tryd.prog) Tryd.underlying23 size_u32 (some ad) (i + 1) c i (i : Int) rfl (by omega)
        go_wp2
        go_round
        case rel => exact ⟨i, by omega, by omega, rfl⟩
        case measure => simp [lenV]
/-- the digits of v, trimmed -/
theorem trimmed_digs (A : Option Addr) (n c v : Nat) (hv : v < Wd ^ n) (w : World) (h : LieV w A n c ((digs Wd v n).map U)) : Calls Tryd.prog 39 #[.slice A n c] w fun e w' => e = .returned (.slice A (Natm.size Wd v) c) ∧ w = w' := by
  refine trimmed_any A n c _ (digs Wd v n) (size_le (by decide) hv) (fun j d hj hd => ?_) (fun j d hk hd => ?_) w h
  · rcases Nat.lt_or_ge j n with hjn | hjn
    · rw [digs_get _ _ _ _ hjn, beyond (by decide) hj] at hd
      simpa using hd.symm
    · rw [List.getElem?_eq_none (by rw [digs_len]; exact hjn)] at hd; cases hd
  · have hjn : j < n := by have := size_le (B := Wd) (by decide) hv; omega
    rw [digs_get _ _ _ _ hjn] at hd
    have := top (B := Wd) (by decide) hk
    rw [Option.some.inj hd] at this
    exact this
theorem lie_wdigs {W : World} {A : Option Addr} {n c v : Nat} (hv : v < Wd ^ n) (h : LieV W A n c ((digs Wd v n).map U)) : LieV W A (Natm.size Wd v) c ((dig Wd v).map U) := by
  have hk := size_le (B := Wd) (by decide) hv
  have := h.cut _ hk
  rwa [← List.map_take, digs_take _ _ _ _ hk] at this

set_option maxHeartbeats 1000000 in
theorem fitted_any (A : Option Addr) (n c v : Nat) (s : List Nat) (m : Nat) (x : Int) (hs : fitL v = s) (hm : s.length = m) (hx : fitE v = x) (hv : v < Wd ^ n) (w : World) (h : LieV w A n c ((digs Wd v n).map U)) : Calls Tryd.prog 27 #[.slice A n c] w fun e w' => (∃ A' c', e = .returned (.tuple #[.slice A' m c', .int .i64 x]) ∧ LieW w A' m c' s) ∧ w = w' := by
  have ht := Lib.hid (trimmed_digs A n c v hv w h)
  have hL := Lib.hid (lie_wdigs hv h)
  obtain ⟨k, hk⟩ : ∃ k, Natm.size Wd v = k := ⟨_, rfl⟩
  rw [hk] at ht hL
  have hk3 := hL.out.few
  by_cases hT : v < Top
  · have h8 : k ≤ 128 := by rw [← hk]; exact size_top.2 hT
    have d1 : decide ((128 : Int) < (k : Int)) = false := decide_eq_false (by omega)
    unfold fitL at hs
    unfold fitE at hx
    rw [if_pos hT] at hs hx
    have hmk : m = k := by rw [← hm, ← hs, dig_len, hk]
    have hs' := Lib.hid hs
    subst hx hmk
    clear h hk hm hs hT hv
    go_enter Tryd.func27, Tryd.ntmps27
    go_wp2_with (go_at_call 39; refine ht.out.mono ?_; rintro e w' ⟨rfl, rfl⟩)
    go_ret2
    exact ⟨⟨_, _, rfl, by rw [← hs'.out]; exact ⟨hL.out, dig_words v⟩⟩, rfl⟩
  · have h8 : 128 < k := by
      rcases Nat.lt_or_ge 128 k with h1 | h1
      · exact h1
      · exact absurd (size_top.1 (hk ▸ h1)) hT
    have d1 : decide ((128 : Int) < (k : Int)) = true := decide_eq_true (by omega)
    unfold fitL at hs
    unfold fitE at hx
    rw [if_neg hT] at hs hx
    subst hx hs hm
    clear h hk hT hv
    go_enter Tryd.func27, Tryd.ntmps27
    go_wp2_with (go_at_call 39; refine ht.out.mono ?_; rintro e w' ⟨rfl, rfl⟩)
    go_ret2
    exact ⟨⟨_, _, rfl, LieV.empty _, fun _ h => by cases h⟩, rfl⟩

/-- how two words stand -/
def cmpW (x y : Nat) : Int := if x < y then -1 else if y < x then 1 else 0
set_option maxHeartbeats 1000000 in
theorem compare_any (x y : Nat) (t : Int) (ht : cmpW x y = t) (w : World) : Calls Tryd.prog 33 #[.int .u64 x, .int .u64 y] w fun e w' => e = .returned (.int .i64 t) ∧ w = w' := by
  have q1 : ((x : Int) != (x : Int)) = false := by simp
  have q2 : ((y : Int) != (y : Int)) = false := by simp
  unfold cmpW at ht
  by_cases h1 : x < y
  · have d1 : decide ((x : Int) < (y : Int)) = true := decide_eq_true (by omega)
    rw [if_pos h1] at ht
    subst ht
    go_enter Tryd.func33, Tryd.ntmps33
    go_wp2
    go_ret
    exact ⟨rfl, rfl⟩
  · have d1 : decide ((x : Int) < (y : Int)) = false := decide_eq_false (by omega)
    rw [if_neg h1] at ht
    by_cases h2 : y < x
    · have d2 : decide ((y : Int) < (x : Int)) = true := decide_eq_true (by omega)
      rw [if_pos h2] at ht
      subst ht
      go_enter Tryd.func33, Tryd.ntmps33
      go_wp2
      go_ret
      exact ⟨rfl, rfl⟩
    · have d2 : decide ((y : Int) < (x : Int)) = false := decide_eq_false (by omega)
      rw [if_neg h2] at ht
      subst ht
      go_enter Tryd.func33, Tryd.ntmps33
      go_wp2
      go_ret
      exact ⟨rfl, rfl⟩
end Go.Proofs.YtmndfncogkjjpaaDoor
