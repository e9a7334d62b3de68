/- The document's own answers of layer 7: words, fits, From. -/
import Derived.Test.YtmndfncogkjjpaaDoorL7Bytes
namespace Go.Proofs.YtmndfncogkjjpaaDoor
open Go.RowKit Go.Proofs.Natm
set_option maxRecDepth 100000

theorem words_size (v : Nat) : Natm.size 256 v ≤ 4 * Natm.size Wd v ∧ 4 * Natm.size Wd v < Natm.size 256 v + 4 := by
  refine ⟨size_le (by decide) (by rw [← words_bytes]; exact lt_size (by decide) v), ?_⟩
  rcases Nat.lt_or_ge (4 * Natm.size Wd v) (Natm.size 256 v + 4) with h | h
  · exact h
  · exfalso
    obtain ⟨m, hm⟩ : ∃ m, Natm.size Wd v = m + 1 := ⟨Natm.size Wd v - 1, by omega⟩
    have h1 : Natm.size 256 v ≤ 4 * m := by omega
    have h2 := (size_iff (B := 256) (by decide)).1 h1
    rw [← words_bytes] at h2
    have := size_le (B := Wd) (by decide) h2
    omega
theorem word_of (v k : Nat) : v / Wd ^ k % Wd = v / 256 ^ (4 * k) % 256 + v / 256 ^ (4 * k + 1) % 256 * 256 + v / 256 ^ (4 * k + 2) % 256 * 65536 + v / 256 ^ (4 * k + 3) % 256 * 16777216 := by
  have e : ∀ j, v / 256 ^ (4 * k + j) = v / 256 ^ (4 * k) / 256 ^ j := fun j => by rw [Nat.pow_add, Nat.div_div_eq_div_mul]
  rw [e 1, e 2, e 3, words_bytes]
  generalize v / 256 ^ (4 * k) = M
  simp only [Nat.reducePow]
  unfold Wd
  omega

set_option maxHeartbeats 2000000 in
theorem words7_any (A : Option Addr) (n c v : Nat) (hn : Natm.size 256 v = n) (w : World) (h : LieV w A n c ((dig 256 v).map I)) : Calls Tryd.prog 41 #[.slice A n c] w (MadeV w (Natm.size Wd v) ((dig Wd v).map U)) := by
  obtain ⟨i0, hi, hz0, hz1, hz2⟩ := info_parts info_u32
  obtain ⟨hm1, hm2⟩ := words_size v
  rw [hn] at hm1 hm2
  obtain ⟨m, hm⟩ : ∃ m, Natm.size Wd v = m := ⟨_, rfl⟩
  rw [hm] at hm1 hm2 ⊢
  have hf := h.few
  have h' := Lib.hid h
  have hdig : dig 256 v = digs 256 v n := by unfold dig; rw [hn]
  have ht0 := trim7_digs A n c v (by rw [← hn]; exact lt_size (by decide) v) w (by rw [← hdig]; exact h)
  rw [hn] at ht0
  have ht := Lib.hid ht0
  have hm' := Lib.hid hm
  have hat : Hid (∀ i, (dig 256 v).getD i 0 = v / 256 ^ i % 256) := fun i => dig_get 256 v i (by decide)
  clear h hn hm hdig ht0
  go_enter Tryd.func41, Tryd.ntmps41
  go_wp2_with (go_at_call 42; refine ht.out.mono ?_; rintro e w' ⟨rfl, rfl⟩)
  go_loopw [3, 4] (fun u i wr => ∃ k q : Nat, k ≤ m ∧ 4 * k = q ∧ i = .int .i64 q ∧ wr.ownsRow w.heap.size 42 1 u k ((digs Wd v k).map U) ∧ Below w.heap.size w wr) (fun _ i _ => n - (intOf i).toNat)
  case atStart => exact ⟨0, 0, Nat.zero_le _, rfl, rfl, World.ownsRow_nil _ _ _ _, Below.refl _ _⟩
  case round =>
    obtain ⟨k, q, hk, hq, rfl, hown, hb⟩ := hrel
    have ho := Lib.hid hown
    have b0 := Lib.hid hb
    clear hown hb
    by_cases hqn : q < n
    · have hL := Lib.hid (h'.out.next b0.out)
      obtain ⟨d0, e0⟩ : ∃ d, v / 256 ^ q % 256 = d := ⟨_, rfl⟩
      obtain ⟨d1, e1⟩ : ∃ d, v / 256 ^ (q + 1) % 256 = d := ⟨_, rfl⟩
      obtain ⟨d2, e2⟩ : ∃ d, v / 256 ^ (q + 2) % 256 = d := ⟨_, rfl⟩
      obtain ⟨d3, e3⟩ : ∃ d, v / 256 ^ (q + 3) % 256 = d := ⟨_, rfl⟩
      have z0 : d0 < 256 := by rw [← e0]; exact Nat.mod_lt _ (by decide)
      have z1 : d1 < 256 := by rw [← e1]; exact Nat.mod_lt _ (by decide)
      have z2 : d2 < 256 := by rw [← e2]; exact Nat.mod_lt _ (by decide)
      have z3 : d3 < 256 := by rw [← e3]; exact Nat.mod_lt _ (by decide)
      have a0 := Lib.hid (at7_is (z := (q : Int)) (i := q) rfl ((hat.out q).trans e0) hL.out)
      have a1 := Lib.hid (at7_is (z := (q : Int) + 1) (i := q + 1) (by omega) ((hat.out (q + 1)).trans e1) hL.out)
      have a2 := Lib.hid (at7_is (z := (q : Int) + 2) (i := q + 2) (by omega) ((hat.out (q + 2)).trans e2) hL.out)
      have a3 := Lib.hid (at7_is (z := (q : Int) + 3) (i := q + 3) (by omega) ((hat.out (q + 3)).trans e3) hL.out)
      obtain ⟨x, hx⟩ : ∃ x, d0 + d1 * 256 + d2 * 65536 + d3 * 16777216 = x := ⟨_, rfl⟩
      have hxv : Hid (v / Wd ^ k % Wd = x) := by show v / Wd ^ k % Wd = x; rw [word_of, hq, e0, e1, e2, e3, hx]
      have hxI : (d0 : Int) + (d1 : Int) * 256 + (d2 : Int) * 65536 + (d3 : Int) * 16777216 = (x : Int) := by omega
      have hxW : x < 4294967296 := by omega
      have hnx := Lib.hid (digs_next Wd v k)
      clear e0 e1 e2 e3 hx
      go_wp2_with (first | (go_at_call 34; (first | (with_reducible refine a0.out.mono ?_) | (with_reducible refine a1.out.mono ?_) | (with_reducible refine a2.out.mono ?_) | (with_reducible refine a3.out.mono ?_)); rintro e w' ⟨rfl, rfl⟩) | (at_builtin; refine wpList_append_row rfl _ _ 23 rfl w.heap.size 42 i0 (.int .u32 0) 1 4 Tryd.underlying23 hi hz0 hz1 hz2 rfl (by decide) _ k _ rfl (ho.out.alloc _) (some ⟨wr.heap.size, 0, none⟩) 1 1 [U x] rfl (by simp) (Nat.le_refl _) rfl _ (Has.new wr 42 #[U x]).row (words_one [x]) (by unfold maxLen; omega) (by omega) (by have := b0.out.size; simp; omega) ?_))
      intro v' w3 hown hgrow
      have o3 := Lib.hid hown
      have b3 := Lib.hid ((b0.out.alloc b0.out.size (.cells #[U x] 42)).grown hgrow (by have := b0.out.size; simp; omega) (fun r e => (ho.out.lt r e).1))
      clear hown hgrow
      go_wp2
      go_roundw
      case rel =>
        refine ⟨k + 1, q + 4, by omega, by omega, by go_num, ?_, b3.out⟩
        rw [hnx.out, hxv.out, List.map_append]; exact o3.out
      case measure => simp [intOf]; omega
    · obtain rfl : k = m := by omega
      have e : digs Wd v k = dig Wd v := by unfold dig; rw [hm'.out]
      rw [e] at ho
      have hlen : ((dig Wd v).map U).length = k := by rw [List.length_map, dig_len]; exact hm'.out
      obtain ⟨A', c', rfl, hL, hab⟩ := LieV.of_own hlen (by omega) ho.out
      have hL' := Lib.hid hL
      have ha' := Lib.hid hab
      clear hL hab hlen ho e
      go_wp2
      go_ret
      exact ⟨_, _, rfl, hL'.out, ha'.out, b0.out⟩

theorem size_top {v : Nat} : Natm.size Wd v ≤ 128 ↔ v < Top := size_iff (by decide)
set_option maxHeartbeats 1000000 in
theorem fits7_yes (A : Option Addr) (n c v m : Nat) (hn : Natm.size 256 v = n) (hv : v < Top) (hm : Natm.size Wd v = m) (w : World) (h : LieV w A n c ((dig 256 v).map I)) : Calls Tryd.prog 28 #[.slice A n c] w (MadeVE w m ((dig Wd v).map U) 0) := by
  have hm8 : m ≤ 128 := by rw [← hm]; exact size_top.2 hv
  have hW := Lib.hid (words7_any A n c v hn w h)
  rw [hm] at hW
  clear h hn hm hv
  go_enter Tryd.func28, Tryd.ntmps28
  go_wp2_with fail
  refine hW.out.mono ?_
  rintro e w1 ⟨A1, c1, rfl, hL, ha, hb⟩
  have l1 := Lib.hid hL
  have a1 := Lib.hid ha
  have b1 := Lib.hid hb
  clear hL ha hb
  go_wp2
  go_ret2
  exact ⟨_, _, rfl, l1.out, a1.out, b1.out⟩
set_option maxHeartbeats 1000000 in
theorem fits7_no (A : Option Addr) (n c v : Nat) (hn : Natm.size 256 v = n) (hv : ¬ v < Top) (w : World) (h : LieV w A n c ((dig 256 v).map I)) : Calls Tryd.prog 28 #[.slice A n c] w (MadeVE w 0 [] 5) := by
  have hW := Lib.hid (words7_any A n c v hn w h)
  obtain ⟨m, hm⟩ : ∃ m, Natm.size Wd v = m := ⟨_, rfl⟩
  have hm8 : 128 < m := by
    rcases Nat.lt_or_ge 128 m with h1 | h1
    · exact h1
    · exact absurd (size_top.1 (hm ▸ h1)) hv
  have hm9 : m ≤ 3000 := by have := (words_size v).2; rw [hn, hm] at this; have := h.few; omega
  rw [hm] at hW
  clear h hn hm hv
  go_enter Tryd.func28, Tryd.ntmps28
  go_wp2_with fail
  refine hW.out.mono ?_
  rintro e w1 ⟨A1, c1, rfl, hL, ha, hb⟩
  have b1 := Lib.hid hb
  clear hL ha hb
  go_wp2
  go_ret2
  exact ⟨_, _, rfl, LieV.empty _, (fun ad e => by cases e), b1.out⟩
/-- whichever -/
theorem fits7_any (A : Option Addr) (n c v : Nat) (hn : Natm.size 256 v = n) (w : World) (h : LieV w A n c ((dig 256 v).map I)) : Calls Tryd.prog 28 #[.slice A n c] w (MadeVE w (fitL v).length ((fitL v).map U) (fitE v)) := by
  unfold fitL fitE
  by_cases hv : v < Top
  · rw [if_pos hv, if_pos hv, dig_len]; exact fits7_yes A n c v _ hn hv rfl w h
  · rw [if_neg hv, if_neg hv]; exact fits7_no A n c v hn hv w h

set_option maxHeartbeats 2000000 in
theorem refFrom7_any (v : Nat) (hv : v < 18446744073709551616) (w : World) : Calls Tryd.prog 23 #[.int .u64 v] w (MadeV w (dig Wd v).length ((dig Wd v).map U)) := by
  obtain ⟨i0, hi, hz0, hz1, hz2⟩ := info_parts info_u32
  have hsz : Natm.size Wd v ≤ 2 := size_le (by decide) (by unfold Wd; omega)
  obtain ⟨m, hm⟩ : ∃ m, Natm.size Wd v = m := ⟨_, rfl⟩
  rw [dig_len, hm]
  rw [hm] at hsz
  have hm' := Lib.hid hm
  clear hm
  go_enter Tryd.func23, Tryd.ntmps23
  go_wp2
  go_loopw [0, 3] (fun x u wr => ∃ k y : Nat, k ≤ m ∧ v / Wd ^ k = y ∧ y < 18446744073709551616 ∧ x = .int .u64 y ∧ wr.ownsRow w.heap.size 42 1 u k ((digs Wd v k).map U) ∧ Below w.heap.size w wr) (fun x _ _ => (intOf x).toNat)
  case atStart => exact ⟨0, v, Nat.zero_le _, by simp, hv, rfl, World.ownsRow_nil _ _ _ _, Below.refl _ _⟩
  case round =>
    obtain ⟨k, y, hk, hy, hyv, rfl, hown, hb⟩ := hrel
    have ho := Lib.hid hown
    have b0 := Lib.hid hb
    clear hown hb
    by_cases hy0 : 0 < y
    · have hkm : k < m := by
        rcases Nat.lt_or_ge k m with h1 | h1
        · exact h1
        · exfalso; have := beyond (B := Wd) (v := v) (by decide) (by rw [hm'.out]; exact h1); omega
      obtain ⟨x, hx⟩ : ∃ x, y % 4294967296 = x := ⟨_, rfl⟩
      have hxv : Hid (v / Wd ^ k % Wd = x) := by show v / Wd ^ k % Wd = x; rw [hy, hx]
      have hxI : (y : Int) % 4294967296 = (x : Int) := by omega
      have hxW : x < 4294967296 := by omega
      obtain ⟨y2, hy2⟩ : ∃ y2, y / 4294967296 = y2 := ⟨_, rfl⟩
      have hyn : Hid (v / Wd ^ (k + 1) = y2) := by show v / Wd ^ (k + 1) = y2; rw [Nat.pow_succ, ← Nat.div_div_eq_div_mul, hy, hy2]
      have hyI : (y : Int) / 4294967296 = (y2 : Int) := by omega
      have hlt2 : y2 < y := by omega
      have hnx := Lib.hid (digs_next Wd v k)
      clear hy hx hy2
      go_wp2_with (at_builtin; refine wpList_append_row rfl _ _ 23 rfl w.heap.size 42 i0 (.int .u32 0) 1 4 Tryd.underlying23 hi hz0 hz1 hz2 rfl (by decide) _ k _ rfl (ho.out.alloc _) (some ⟨wr.heap.size, 0, none⟩) 1 1 [U x] rfl (by simp) (Nat.le_refl _) rfl _ (Has.new wr 42 #[U x]).row (words_one [x]) (by unfold maxLen; omega) (by omega) (by have := b0.out.size; simp; omega) ?_)
      intro v' w3 hown hgrow
      have o3 := Lib.hid hown
      have b3 := Lib.hid ((b0.out.alloc b0.out.size (.cells #[U x] 42)).grown hgrow (by have := b0.out.size; simp; omega) (fun r e => (ho.out.lt r e).1))
      clear hown hgrow
      go_wp2
      go_roundw
      case rel =>
        refine ⟨k + 1, y2, by omega, hyn.out, by omega, rfl, ?_, b3.out⟩
        rw [hnx.out, hxv.out, List.map_append]; exact o3.out
      case measure => simp [intOf]; omega
    · have hkm : k = m := by
        have h1 : v / Wd ^ k = 0 := by omega
        have h2 : v < Wd ^ k := by
          rcases Nat.lt_or_ge v (Wd ^ k) with h3 | h3
          · exact h3
          · exfalso; have := Nat.div_pos h3 (Nat.pow_pos (by decide)); omega
        have := size_le (B := Wd) (by decide) h2
        rw [hm'.out] at this
        omega
      subst hkm
      have e : digs Wd v k = dig Wd v := by unfold dig; rw [hm'.out]
      rw [e] at ho
      have hlen : ((dig Wd v).map U).length = k := by rw [List.length_map, dig_len]; exact hm'.out
      obtain ⟨A', c', rfl, hL, hab⟩ := LieV.of_own hlen (by omega) ho.out
      have hL' := Lib.hid hL
      have ha' := Lib.hid hab
      clear hL hab hlen ho e hy
      go_wp2
      go_ret
      exact ⟨_, _, rfl, hL'.out, ha'.out, b0.out⟩
end Go.Proofs.YtmndfncogkjjpaaDoor
