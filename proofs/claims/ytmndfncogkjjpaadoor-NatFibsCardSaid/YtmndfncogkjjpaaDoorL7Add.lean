/- The document's own answers of layer 7: add. -/
import Derived.Test.YtmndfncogkjjpaaDoorL7Words
namespace Go.Proofs.YtmndfncogkjjpaaDoor
open Go.RowKit Go.Proofs.Natm
set_option maxRecDepth 100000

theorem carry_next {X Y S cy s : Nat} (h : S = X + Y + cy) (h1 : cy ≤ 1) (hs : X % 256 + Y % 256 + cy = s) : S % 256 = s % 256 ∧ S / 256 = X / 256 + Y / 256 + s / 256 ∧ s / 256 ≤ 1 := by omega
theorem pow_step (v k : Nat) : v / 256 ^ (k + 1) = v / 256 ^ k / 256 := by rw [Nat.pow_succ, ← Nat.div_div_eq_div_mul]
theorem lt_of_div {v k : Nat} (h : v / 256 ^ k = 0) : v < 256 ^ k := by
  rcases Nat.lt_or_ge v (256 ^ k) with h3 | h3
  · exact h3
  · exfalso; have := Nat.div_pos h3 (Nat.pow_pos (by decide)); omega

set_option maxHeartbeats 4000000 in
theorem add7_any (A B : Option Addr) (n c m d a b : Nat) (hn : Natm.size 256 a = n) (hm : Natm.size 256 b = m) (hn9 : n ≤ 1000) (hm9 : m ≤ 1000) (w : World) (hA : LieV w A n c ((dig 256 a).map I)) (hB : LieV w B m d ((dig 256 b).map I)) :
    Calls Tryd.prog 29 #[.slice A n c, .slice B m d] w (MadeV w (Natm.size 256 (a + b)) ((dig 256 (a + b)).map I)) := by
  obtain ⟨i0, hi, hz0, hz1, hz2⟩ := info_parts info_int
  have hA' := Lib.hid hA
  have hB' := Lib.hid hB
  have ga : Hid (∀ i, (dig 256 a).getD i 0 = a / 256 ^ i % 256) := fun i => dig_get 256 a i (by decide)
  have gb : Hid (∀ i, (dig 256 b).getD i 0 = b / 256 ^ i % 256) := fun i => dig_get 256 b i (by decide)
  have za : Hid (∀ k, n ≤ k → a / 256 ^ k = 0) := fun k hk => beyond (by decide) (by rw [hn]; exact hk)
  have zb : Hid (∀ k, m ≤ k → b / 256 ^ k = 0) := fun k hk => beyond (by decide) (by rw [hm]; exact hk)
  clear hA hB hn hm
  go_enter Tryd.func29, Tryd.ntmps29
  go_wp2
  go_loopw [5, 6, 7] (fun u y i wr => ∃ k cy : Nat, k ≤ n + m + 1 ∧ (n + m < k → cy = 0) ∧ cy ≤ 1 ∧ (a + b) / 256 ^ k = a / 256 ^ k + b / 256 ^ k + cy ∧ y = .int .i64 cy ∧ i = .int .i64 k ∧ wr.ownsRow w.heap.size 3 1 u k ((digs 256 (a + b) k).map I) ∧ Below w.heap.size w wr) (fun _ _ i _ => n + m + 2 - (intOf i).toNat)
  case atStart => exact ⟨0, 0, Nat.zero_le _, fun _ => rfl, Nat.zero_le _, by simp, rfl, rfl, World.ownsRow_nil _ _ _ _, Below.refl _ _⟩
  case round =>
    obtain ⟨k, cy, hk, hk0, hcy, hS, rfl, rfl, hown, hb⟩ := hrel
    have ho := Lib.hid hown
    have b0 := Lib.hid hb
    have lA := Lib.hid (hA'.out.next b0.out)
    have lB := Lib.hid (hB'.out.next b0.out)
    obtain ⟨X, hX⟩ : ∃ X, a / 256 ^ k = X := ⟨_, rfl⟩
    obtain ⟨Y, hY⟩ : ∃ Y, b / 256 ^ k = Y := ⟨_, rfl⟩
    obtain ⟨S, hSS⟩ : ∃ S, (a + b) / 256 ^ k = S := ⟨_, rfl⟩
    rw [hX, hY, hSS] at hS
    have zX : n ≤ k → X = 0 := fun h => hX ▸ za.out k h
    have zY : m ≤ k → Y = 0 := fun h => hY ▸ zb.out k h
    obtain ⟨x, hx⟩ : ∃ x, X % 256 = x := ⟨_, rfl⟩
    obtain ⟨y, hy⟩ : ∃ y, Y % 256 = y := ⟨_, rfl⟩
    have x8 : x < 256 := by omega
    have y8 : y < 256 := by omega
    have aX := Lib.hid (at7_is (d := x) (z := (k : Int)) (i := k) rfl ((ga.out k).trans (by rw [hX]; exact hx)) lA.out)
    have aY := Lib.hid (at7_is (d := y) (z := (k : Int)) (i := k) rfl ((gb.out k).trans (by rw [hY]; exact hy)) lB.out)
    obtain ⟨s, hs⟩ : ∃ s, x + y + cy = s := ⟨_, rfl⟩
    obtain ⟨e1, e2, e3⟩ := carry_next (s := s) hS hcy (by rw [hx, hy]; exact hs)
    obtain ⟨z, hz⟩ : ∃ z, s % 256 = z := ⟨_, rfl⟩
    obtain ⟨t, ht⟩ : ∃ t, s / 256 = t := ⟨_, rfl⟩
    have hzS : Hid ((a + b) / 256 ^ k % 256 = z) := by show (a + b) / 256 ^ k % 256 = z; rw [hSS, e1, hz]
    have hnx := Lib.hid (digs_next 256 (a + b) k)
    have hS2 : Hid ((a + b) / 256 ^ (k + 1) = a / 256 ^ (k + 1) + b / 256 ^ (k + 1) + t) := by show (a + b) / 256 ^ (k + 1) = a / 256 ^ (k + 1) + b / 256 ^ (k + 1) + t; rw [pow_step, pow_step, pow_step, hSS, hX, hY, e2, ht]
    have ht1 : t ≤ 1 := by omega
    have hend : Hid (n ≤ k → m ≤ k → cy = 0 → a + b < 256 ^ k) := fun h1 h2 h3 => lt_of_div (by rw [hSS, hS, zX h1, zY h2, h3])
    have hgo : n ≤ k → m ≤ k → t = 0 := fun h1 h2 => by have := zX h1; have := zY h2; omega
    have sI : (x : Int) + (y : Int) + (cy : Int) = (s : Int) := by omega
    have s9 : s ≤ 511 := by omega
    have zI : (s : Int) % 256 = (z : Int) := by omega
    have tI : (s : Int) / 256 = (t : Int) := by omega
    clear hown hb hX hY hSS hS zX zY hx hy hs e1 e2 e3 hz ht
    by_cases h1 : k < n
    · have c1 : decide ((k : Int) < (n : Int)) = true := decide_eq_true (by omega)
      go_wp2_with (first | (go_at_call 34; (first | (with_reducible refine aX.out.mono ?_) | (with_reducible refine aY.out.mono ?_)); rintro e w' ⟨rfl, rfl⟩) | (at_builtin; refine wpList_append_row rfl _ _ 47 rfl w.heap.size 3 i0 (.int .i64 0) 1 8 Tryd.underlying47 hi hz0 hz1 hz2 rfl (by decide) _ k _ rfl (ho.out.alloc _) (some ⟨wr.heap.size, 0, none⟩) 1 1 [I z] rfl (by simp) (Nat.le_refl _) rfl _ (Has.new wr 3 #[I z]).row (ints_one [z]) (by unfold maxLen; omega) (by omega) (by have := b0.out.size; simp; omega) ?_))
      intro v' w3 hown hgrow
      have o3 := Lib.hid hown
      have b3 := Lib.hid ((b0.out.alloc b0.out.size (.cells #[I z] 3)).grown hgrow (by have := b0.out.size; simp; omega) (fun r e => (ho.out.lt r e).1))
      clear hown hgrow
      go_wp2
      go_roundw
      case rel =>
        refine ⟨k + 1, t, by omega, fun hh => hgo (by omega) (by omega), ht1, hS2.out, rfl, by go_num, ?_, b3.out⟩
        rw [hnx.out, hzS.out, List.map_append]; exact o3.out
      case measure => simp [intOf]; omega
    · have c1 : decide ((k : Int) < (n : Int)) = false := decide_eq_false (by omega)
      by_cases h2 : k < m
      · have c2 : decide ((k : Int) < (m : Int)) = true := decide_eq_true (by omega)
        go_wp2_with (first | (go_at_call 34; (first | (with_reducible refine aX.out.mono ?_) | (with_reducible refine aY.out.mono ?_)); rintro e w' ⟨rfl, rfl⟩) | (at_builtin; refine wpList_append_row rfl _ _ 47 rfl w.heap.size 3 i0 (.int .i64 0) 1 8 Tryd.underlying47 hi hz0 hz1 hz2 rfl (by decide) _ k _ rfl (ho.out.alloc _) (some ⟨wr.heap.size, 0, none⟩) 1 1 [I z] rfl (by simp) (Nat.le_refl _) rfl _ (Has.new wr 3 #[I z]).row (ints_one [z]) (by unfold maxLen; omega) (by omega) (by have := b0.out.size; simp; omega) ?_))
        intro v' w3 hown hgrow
        have o3 := Lib.hid hown
        have b3 := Lib.hid ((b0.out.alloc b0.out.size (.cells #[I z] 3)).grown hgrow (by have := b0.out.size; simp; omega) (fun r e => (ho.out.lt r e).1))
        clear hown hgrow
        go_wp2
        go_roundw
        case rel =>
          refine ⟨k + 1, t, by omega, fun hh => hgo (by omega) (by omega), ht1, hS2.out, rfl, by go_num, ?_, b3.out⟩
          rw [hnx.out, hzS.out, List.map_append]; exact o3.out
        case measure => simp [intOf]; omega
      · have c2 : decide ((k : Int) < (m : Int)) = false := decide_eq_false (by omega)
        by_cases h3 : 0 < cy
        · have c3 : decide ((0 : Int) < (cy : Int)) = true := decide_eq_true (by omega)
          have hkm : k ≤ n + m := by
            rcases Nat.lt_or_ge (n + m) k with hh | hh
            · exact absurd (hk0 hh) (by omega)
            · exact hh
          go_wp2_with (first | (go_at_call 34; (first | (with_reducible refine aX.out.mono ?_) | (with_reducible refine aY.out.mono ?_)); rintro e w' ⟨rfl, rfl⟩) | (at_builtin; refine wpList_append_row rfl _ _ 47 rfl w.heap.size 3 i0 (.int .i64 0) 1 8 Tryd.underlying47 hi hz0 hz1 hz2 rfl (by decide) _ k _ rfl (ho.out.alloc _) (some ⟨wr.heap.size, 0, none⟩) 1 1 [I z] rfl (by simp) (Nat.le_refl _) rfl _ (Has.new wr 3 #[I z]).row (ints_one [z]) (by unfold maxLen; omega) (by omega) (by have := b0.out.size; simp; omega) ?_))
          intro v' w3 hown hgrow
          have o3 := Lib.hid hown
          have b3 := Lib.hid ((b0.out.alloc b0.out.size (.cells #[I z] 3)).grown hgrow (by have := b0.out.size; simp; omega) (fun r e => (ho.out.lt r e).1))
          clear hown hgrow
          go_wp2
          go_roundw
          case rel =>
            refine ⟨k + 1, t, by omega, fun hh => hgo (by omega) (by omega), ht1, hS2.out, rfl, by go_num, ?_, b3.out⟩
            rw [hnx.out, hzS.out, List.map_append]; exact o3.out
          case measure => simp [intOf]; omega
        · have c3 : decide ((0 : Int) < (cy : Int)) = false := decide_eq_false (by omega)
          have hlt := hend.out (by omega) (by omega) (by omega)
          have hlen : ((digs 256 (a + b) k).map I).length = k := by rw [List.length_map, digs_len]
          obtain ⟨A', c', rfl, hL, hab⟩ := LieV.of_own hlen (by omega) ho.out
          have hL' := Lib.hid (lie_digs hlt hL)
          have ha' := Lib.hid hab
          have ht := Lib.hid (trim7_digs A' k c' (a + b) hlt wr hL)
          clear hL hab hlen ho hlt
          go_wp2_with (go_at_call 42; refine ht.out.mono ?_; rintro e w' ⟨rfl, rfl⟩)
          go_ret
          exact ⟨_, _, rfl, hL'.out, ha'.out, b0.out⟩
end Go.Proofs.YtmndfncogkjjpaaDoor
