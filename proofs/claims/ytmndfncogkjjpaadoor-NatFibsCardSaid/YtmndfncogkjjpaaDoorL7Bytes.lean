/- The document's own answers of layer 7: bytes, words, fits. -/
import Derived.Test.YtmndfncogkjjpaaDoorL7Leaf
namespace Go.Proofs.YtmndfncogkjjpaaDoor
open Go.RowKit Go.Proofs.Natm
set_option maxRecDepth 100000

/-- the digits of v, trimmed -/
theorem trim7_digs (A : Option Addr) (n c v : Nat) (hv : v < 256 ^ n) (w : World) (h : LieV w A n c ((digs 256 v n).map I)) : Calls Tryd.prog 42 #[.slice A n c] w fun e w' => e = .returned (.slice A (Natm.size 256 v) c) ∧ w = w' := by
  refine trim7_any A n c _ (digs 256 v n) (size_le (by decide) hv) (fun j d hj hd => ?_) (fun j d hk hd => ?_) w h
  · rcases Nat.lt_or_ge j n with hjn | hjn
    · rw [digs_get _ _ _ _ hjn, beyond (by decide) hj] at hd
      simpa using hd.symm
    · rw [List.getElem?_eq_none (by rw [digs_len]; exact hjn)] at hd; cases hd
  · have hjn : j < n := by have := size_le (B := 256) (by decide) hv; omega
    rw [digs_get _ _ _ _ hjn] at hd
    have := top (B := 256) (by decide) hk
    rw [Option.some.inj hd] at this
    exact this
theorem lie_digs {W : World} {A : Option Addr} {n c v : Nat} (hv : v < 256 ^ n) (h : LieV W A n c ((digs 256 v n).map I)) : LieV W A (Natm.size 256 v) c ((dig 256 v).map I) := by
  have hk := size_le (B := 256) (by decide) hv
  have := h.cut _ hk
  rwa [← List.map_take, digs_take _ _ _ _ hk] at this
theorem dig_get (B v i : Nat) (hB : 2 ≤ B) : (dig B v).getD i 0 = v / B ^ i % B := by
  unfold dig
  rw [List.getD_eq_getElem?_getD]
  rcases Nat.lt_or_ge i (Natm.size B v) with h | h
  · rw [digs_get _ _ _ _ h]; rfl
  · rw [List.getElem?_eq_none (by rw [digs_len]; exact h), beyond hB h]; simp
theorem word_byte (N i k : Nat) (hk : k < 4) : N / Wd ^ i % Wd / 256 ^ k % 256 = N / 256 ^ (4 * i + k) % 256 := by
  rw [Nat.pow_add, ← Nat.div_div_eq_div_mul, words_bytes]
  generalize N / 256 ^ (4 * i) = M
  have : k = 0 ∨ k = 1 ∨ k = 2 ∨ k = 3 := by omega
  unfold Wd
  rcases this with rfl | rfl | rfl | rfl <;> simp <;> omega

set_option maxHeartbeats 2000000 in
theorem bytes7_any (A : Option Addr) (n c N : Nat) (hN : Natm.size Wd N = n) (h7 : n ≤ 128) (w : World) (h : LieV w A n c ((dig Wd N).map U)) : Calls Tryd.prog 30 #[.slice A n c] w (MadeV w (Natm.size 256 N) ((dig 256 N).map I)) := by
  obtain ⟨i0, hi, hz0, hz1, hz2⟩ := info_parts info_int
  have hlt : N < 256 ^ (4 * n) := by rw [← words_bytes, ← hN]; exact lt_size (by decide) N
  have hlt' := Lib.hid hlt
  have h' := Lib.hid h
  have hN' := Lib.hid hN
  clear h hN hlt
  go_enter Tryd.func30, Tryd.ntmps30
  go_wp2
  go_loopw [3, 4] (fun v i wr => ∃ k : Nat, k ≤ n ∧ i = .int .i64 k ∧ wr.ownsRow w.heap.size 3 1 v (4 * k) ((digs 256 N (4 * k)).map I) ∧ Below w.heap.size w wr) (fun _ i _ => n - (intOf i).toNat)
  case atStart => exact ⟨0, Nat.zero_le _, rfl, World.ownsRow_nil _ _ _ _, Below.refl _ _⟩
  case round =>
    obtain ⟨k, hk, rfl, hown, hb⟩ := hrel
    have ho := Lib.hid hown
    have b0 := Lib.hid hb
    clear hown hb
    by_cases hkn : k < n
    · have hg : (dig Wd N)[k]? = some (N / Wd ^ k % Wd) := by unfold dig; rw [hN'.out]; exact digs_get _ _ _ _ hkn
      obtain ⟨ad, rfl, hb2, g1⟩ := (h'.out.next b0.out).at_ (k := k) (u := U (N / Wd ^ k % Wd)) (by rw [List.getElem?_map, hg]; rfl)
      obtain ⟨x, hx⟩ : ∃ x, N / Wd ^ k % Wd = x := ⟨_, rfl⟩
      have hxW : x < 4294967296 := by rw [← hx]; exact Nat.mod_lt _ (by decide)
      have hby := Lib.hid (fun j (hj : j < 4) => (hx ▸ word_byte N k j hj : x / 256 ^ j % 256 = N / 256 ^ (4 * k + j) % 256))
      rw [hx] at g1
      clear hx hg
      go_wp2
      go_loopw [3, 5, 6] (fun v y i wq => ∃ j : Nat, j ≤ 4 ∧ i = .int .i64 j ∧ y = U (x / 256 ^ j) ∧ wq.ownsRow w.heap.size 3 1 v (4 * k + j) ((digs 256 N (4 * k + j)).map I) ∧ Below w.heap.size w wq) (fun _ _ i _ => 4 - (intOf i).toNat)
      case atStart => exact ⟨0, Nat.zero_le _, rfl, by simp, ho.out, b0.out⟩
      case round =>
        obtain ⟨j, hj, rfl, rfl, hown, hb⟩ := hrel
        have o1 := Lib.hid hown
        have b1 := Lib.hid hb
        clear hown hb
        by_cases hj4 : j < 4
        · obtain ⟨y, hy⟩ : ∃ y, x / 256 ^ j = y := ⟨_, rfl⟩
          have hyW : y < 4294967296 := by rw [← hy]; exact Nat.lt_of_le_of_lt (Nat.div_le_self _ _) hxW
          have hy2 : x / 256 ^ (j + 1) = y / 256 := by rw [Nat.pow_succ, ← Nat.div_div_eq_div_mul, hy]
          obtain ⟨z, hz⟩ : ∃ z, y % 256 = z := ⟨_, rfl⟩
          have hzN : Hid (N / 256 ^ (4 * k + j) % 256 = z) := by show N / 256 ^ (4 * k + j) % 256 = z; rw [← hby.out j hj4, hy, hz]
          have hzI : (y : Int) % 256 = (z : Int) := by omega
          have hnx := Lib.hid (digs_next 256 N (4 * k + j))
          have hy2' := Lib.hid hy2
          rw [hy]
          clear hy hy2 hz
          go_wp2_with (at_builtin; refine wpList_append_row rfl _ _ 47 rfl w.heap.size 3 i0 (.int .i64 0) 1 8 Tryd.underlying47 hi hz0 hz1 hz2 rfl (by decide) _ (4 * k + j) _ rfl (o1.out.alloc _) (some ⟨wr.heap.size, 0, none⟩) 1 1 [I z] rfl (by simp) (Nat.le_refl _) rfl _ (Has.new wr 3 #[I z]).row (ints_one [z]) (by unfold maxLen; omega) (by omega) (by have := b1.out.size; simp; omega) ?_)
          intro v' w3 hown hgrow
          have o3 := Lib.hid hown
          have b3 := Lib.hid ((b1.out.alloc b1.out.size (.cells #[I z] 3)).grown hgrow (by have := b1.out.size; simp; omega) (fun r e => (o1.out.lt r e).1))
          clear hown hgrow
          obtain ⟨y2, hy2e⟩ : ∃ y2, y / 256 = y2 := ⟨_, rfl⟩
          have hyI : (y : Int) / 256 = (y2 : Int) := by omega
          have hy3 : Hid (x / 256 ^ (j + 1) = y2) := by show x / 256 ^ (j + 1) = y2; rw [hy2'.out, hy2e]
          clear hy2e
          go_wp2
          go_roundw
          case rel =>
            refine ⟨j + 1, by omega, by go_num, ?_, ?_, b3.out⟩
            · rw [hy3.out]
            · rw [← Nat.add_assoc, hnx.out, hzN.out, List.map_append]; exact o3.out
          case measure => simp [intOf]; omega
        · obtain rfl : j = 4 := by omega
          go_wp2
          go_roundw
          case rel => exact ⟨k + 1, by omega, by go_num, by rw [Nat.mul_succ]; exact o1.out, b1.out⟩
          case measure => simp [intOf]; omega
    · obtain rfl : k = n := by omega
      have hlen : ((digs 256 N (4 * k)).map I).length = 4 * k := by rw [List.length_map, digs_len]
      obtain ⟨A', c', rfl, hL, hab⟩ := LieV.of_own hlen (by omega) ho.out
      have hL' := Lib.hid (lie_digs hlt'.out hL)
      have ha' := Lib.hid hab
      have ht := Lib.hid (trim7_digs A' (4 * k) c' N hlt'.out wr hL)
      clear hL hab hlen ho
      go_wp2_with (go_at_call 42; refine ht.out.mono ?_; rintro e w' ⟨rfl, rfl⟩)
      go_ret
      exact ⟨_, _, rfl, hL'.out, ha'.out, b0.out⟩
end Go.Proofs.YtmndfncogkjjpaaDoor
