/- The document's own answers of layer 7: mul. -/
import Derived.Test.YtmndfncogkjjpaaDoorL7Add
import Derived.Deep.OwnRows
namespace Go.Proofs.YtmndfncogkjjpaaDoor
open Go.RowKit Go.Proofs.Natm
set_option maxRecDepth 100000

/-- the cells of a row of digits that is being reckoned: below q the digits of T, from there on those of R -/
def mixD (T R q L : Nat) : List Nat := (List.range L).map fun j => if j < q then T / 256 ^ j % 256 else R / 256 ^ j % 256
theorem mix_len (T R q L : Nat) : (mixD T R q L).length = L := by simp [mixD]
theorem mix_at (T R q L : Nat) (h : q < L) : (mixD T R q L)[q]? = some (R / 256 ^ q % 256) := by simp [mixD, h]
theorem mix_set (T R q L z : Nat) (T' : Nat) (hlow : ∀ j, j < q → T' / 256 ^ j % 256 = T / 256 ^ j % 256) (hz : T' / 256 ^ q % 256 = z) : (mixD T R q L).set q z = mixD T' R (q + 1) L := by
  apply List.ext_getElem?
  intro j
  rw [List.getElem?_set, mix_len]
  by_cases hj : q = j
  · subst hj
    by_cases hL : q < L
    · rw [if_pos rfl, if_pos hL]; simp [mixD, hL, hz]
    · rw [if_pos rfl, if_neg hL]; rw [List.getElem?_eq_none (by rw [mix_len]; omega)]
  · rw [if_neg hj]
    by_cases hL : j < L
    · simp only [mixD, List.getElem?_map, List.getElem?_range hL, Option.map_some]
      by_cases h1 : j < q
      · rw [if_pos h1, if_pos (by omega), hlow j h1]
      · rw [if_neg h1, if_neg (by omega)]
    · rw [List.getElem?_eq_none (by rw [mix_len]; omega), List.getElem?_eq_none (by rw [mix_len]; omega)]
theorem mix_all (T R q L : Nat) (h : ∀ j, q ≤ j → T / 256 ^ j % 256 = R / 256 ^ j % 256) : mixD T R q L = digs 256 T L := by
  unfold mixD digs
  refine List.map_congr_left fun j _ => ?_
  by_cases h1 : j < q
  · rw [if_pos h1]
  · rw [if_neg h1, h j (by omega)]
theorem mix_start (T R q L : Nat) (h : ∀ j, j < q → T / 256 ^ j % 256 = R / 256 ^ j % 256) : mixD T R q L = digs 256 R L := by
  unfold mixD digs
  refine List.map_congr_left fun j _ => ?_
  by_cases h1 : j < q
  · rw [if_pos h1, h j h1]
  · rw [if_neg h1]
/-- what is added from place q on says nothing of the digits below -/
theorem low_same (T x q j : Nat) (h : j < q) : (T + x * 256 ^ q) / 256 ^ j % 256 = T / 256 ^ j % 256 := by
  obtain ⟨d, rfl⟩ : ∃ d, q = j + 1 + d := ⟨q - (j + 1), by omega⟩
  rw [Nat.pow_add, Nat.pow_succ, show x * (256 ^ j * 256 * 256 ^ d) = 256 ^ j * (256 * (x * 256 ^ d)) by rw [Nat.mul_assoc, Nat.mul_left_comm, Nat.mul_left_comm x 256]]
  rw [Nat.add_mul_div_left _ _ (Nat.pow_pos (by decide)), Nat.add_mul_mod_self_left]
theorem high_add (T x q : Nat) : (T + x * 256 ^ q) / 256 ^ q = T / 256 ^ q + x := Nat.add_mul_div_right _ _ (Nat.pow_pos (by decide))
theorem mod_next (b k : Nat) : b % 256 ^ (k + 1) = b % 256 ^ k + b / 256 ^ k % 256 * 256 ^ k := by rw [Nat.pow_succ, Nat.mod_mul, Nat.mul_comm (256 ^ k) (b / 256 ^ k % 256)]
theorem mod_all {b k : Nat} (h : b < 256 ^ k) : b % 256 ^ k = b := Nat.mod_eq_of_lt h
/-- one step of a row -/
theorem mul_step {Rq Tq x y cy s : Nat} (h : Tq = Rq + cy) (hcy : cy ≤ 255) (hx : x ≤ 255) (hy : y ≤ 255) (hs : Rq % 256 + x * y + cy = s) : (Tq + x * y) % 256 = s % 256 ∧ (Tq + x * y) / 256 = Rq / 256 + s / 256 ∧ s / 256 ≤ 255 ∧ s ≤ 65535 := by
  have h1 : x * y ≤ 255 * 255 := Nat.mul_le_mul hx hy
  generalize x * y = p at *
  omega
theorem made_zero (L : Nat) : (madeCells #[Value.int .i64 0] L) = ((digs 256 0 L).map I).toArray := by
  apply Array.ext
  · rw [size_madeCells]; simp [digs_len]
  · intro i h1 h2
    simp [madeCells, digs, Nat.mod_one]

set_option maxHeartbeats 8000000 in
theorem mul7_any (A B : Option Addr) (n c m d a b : Nat) (hn : Natm.size 256 a = n) (hm : Natm.size 256 b = m) (hn9 : n ≤ 600) (hm9 : m ≤ 600) (w : World) (hA : LieV w A n c ((dig 256 a).map I)) (hB : LieV w B m d ((dig 256 b).map I)) :
    Calls Tryd.prog 32 #[.slice A n c, .slice B m d] w (MadeV w (Natm.size 256 (a * b)) ((dig 256 (a * b)).map I)) := by
  obtain ⟨L, hL⟩ : ∃ L, n + m + 1 = L := ⟨_, rfl⟩
  have hLI : (n : Int) + (m : Int) + 1 = (L : Int) := by omega
  have hmk := fun W => run_make_row' (P := Tryd.prog) 47 3 (.int .i64 0) 8 Tryd.underlying47 info_int rfl .i64 .i64 L (by omega) (by omega) W
  simp only [made_zero] at hmk
  have hA' := Lib.hid hA
  have hB' := Lib.hid hB
  have ga : Hid (∀ i, i < n → (dig 256 a)[i]? = some (a / 256 ^ i % 256)) := fun i hi => by unfold dig; rw [hn]; exact digs_get _ _ _ _ hi
  have gb : Hid (∀ i, (dig 256 b).getD i 0 = b / 256 ^ i % 256) := fun i => dig_get 256 b i (by decide)
  have la : Hid (a < 256 ^ n) := by show a < 256 ^ n; rw [← hn]; exact lt_size (by decide) a
  have lb : Hid (b < 256 ^ m) := by show b < 256 ^ m; rw [← hm]; exact lt_size (by decide) b
  have lab : Hid (a * b < 256 ^ L) := by
    show a * b < 256 ^ L
    refine Nat.lt_of_lt_of_le (Nat.mul_lt_mul'' la.out lb.out) ?_
    rw [← Nat.pow_add]
    exact Nat.pow_le_pow_right (by decide) (by omega)
  clear hA hB hn hm
  go_enter Tryd.func32, Tryd.ntmps32
  go_wp2
  go_loopw [6] (fun i wr => ∃ k : Nat, k ≤ n ∧ i = .int .i64 k ∧ Has wr w.heap.size 3 ((digs 256 (a % 256 ^ k * b) L).map I).toArray ∧ Below w.heap.size w wr) (fun i _ => n - (intOf i).toNat)
  case atStart => exact ⟨0, Nat.zero_le _, rfl, by have := Has.new w 3 ((digs 256 0 L).map I).toArray; rw [Nat.pow_zero, Nat.mod_one, Nat.zero_mul]; exact this, (Below.refl _ _).alloc (Nat.le_refl _) _⟩
  case round =>
    obtain ⟨i, hin, rfl, hg, hb⟩ := hrel
    have g0 := Lib.hid hg
    have bb := Lib.hid hb
    clear hg hb
    by_cases hi : i < n
    · obtain ⟨R, hR⟩ : ∃ R, a % 256 ^ i * b = R := ⟨_, rfl⟩
      have hRlt : R < 256 ^ (i + m) := by rw [← hR, Nat.pow_add]; exact Nat.mul_lt_mul'' (Nat.mod_lt _ (Nat.pow_pos (by decide))) lb.out
      obtain ⟨x, hx⟩ : ∃ x, a / 256 ^ i % 256 = x := ⟨_, rfl⟩
      have x8 : x ≤ 255 := by rw [← hx]; exact Nat.le_of_lt_succ (Nat.mod_lt _ (by decide))
      have hR2 : Hid (R + x * b * 256 ^ i = a % 256 ^ (i + 1) * b) := by
        show R + x * b * 256 ^ i = a % 256 ^ (i + 1) * b
        rw [mod_next, hx, Nat.add_mul, hR, Nat.mul_assoc x b, Nat.mul_comm b, Nat.mul_assoc x]
      have hax := Lib.hid ((ga.out i hi).trans (by rw [hx]))
      have hRl := Lib.hid hRlt
      rw [hR] at g0
      clear hR hx hRlt
      go_wp2
      go_loopw [7, 8] (fun y j wq => ∃ k cy : Nat, k ≤ m + 1 ∧ cy ≤ 255 ∧ (k = m + 1 → cy = 0) ∧ (R + x * (b % 256 ^ k) * 256 ^ i) / 256 ^ (i + k) = R / 256 ^ (i + k) + cy ∧ y = .int .i64 cy ∧ j = .int .i64 k ∧ Has wq w.heap.size 3 ((mixD (R + x * (b % 256 ^ k) * 256 ^ i) R (i + k) L).map I).toArray ∧ Below w.heap.size w wq) (fun _ j _ => m + 2 - (intOf j).toNat)
      case atStart => exact ⟨0, 0, Nat.zero_le _, Nat.zero_le _, fun _ => rfl, by simp [Nat.mod_one], rfl, rfl, by rw [Nat.pow_zero, Nat.mod_one, Nat.mul_zero, Nat.zero_mul, Nat.add_zero, mix_start _ _ _ _ (fun _ _ => rfl)]; exact g0.out, bb.out⟩
      case round =>
        obtain ⟨k, cy, hk, hcy, hk1, hT, rfl, rfl, hg, hb⟩ := hrel
        have b0 := Lib.hid hb
        have lA := Lib.hid (hA'.out.next b0.out)
        have lB := Lib.hid (hB'.out.next b0.out)
        obtain ⟨q, hq⟩ : ∃ q, i + k = q := ⟨_, rfl⟩
        obtain ⟨T, hTT⟩ : ∃ T, R + x * (b % 256 ^ k) * 256 ^ i = T := ⟨_, rfl⟩
        rw [hTT, hq] at hT hg
        obtain ⟨y, hy⟩ : ∃ y, b / 256 ^ k % 256 = y := ⟨_, rfl⟩
        have y8 : y ≤ 255 := by rw [← hy]; exact Nat.le_of_lt_succ (Nat.mod_lt _ (by decide))
        have yD := Lib.hid ((gb.out k).trans hy)
        have hTn : R + x * (b % 256 ^ (k + 1)) * 256 ^ i = T + x * y * 256 ^ q := by
          rw [mod_next, hy, ← hTT, ← hq, Nat.pow_add, Nat.mul_add, Nat.add_mul, Nat.add_assoc]
          congr 2
          rw [Nat.mul_assoc, Nat.mul_assoc, Nat.mul_assoc x y, Nat.mul_comm (256 ^ k)]
        obtain ⟨Rq, hRq⟩ : ∃ Rq, R / 256 ^ q = Rq := ⟨_, rfl⟩
        rw [hRq] at hT
        obtain ⟨o, ho⟩ : ∃ o, Rq % 256 = o := ⟨_, rfl⟩
        have o8 : o ≤ 255 := by omega
        obtain ⟨p, hp⟩ : ∃ p, x * y = p := ⟨_, rfl⟩
        obtain ⟨s, hs⟩ : ∃ s, o + p + cy = s := ⟨_, rfl⟩
        obtain ⟨e1, e2, e3, e4⟩ := mul_step (s := s) hT hcy x8 y8 (by rw [ho, hp]; exact hs)
        rw [hp] at e1 e2
        obtain ⟨z, hz⟩ : ∃ z, s % 256 = z := ⟨_, rfl⟩
        obtain ⟨t, ht⟩ : ∃ t, s / 256 = t := ⟨_, rfl⟩
        have t8 : t ≤ 255 := by omega
        have hTh : (T + p * 256 ^ q) / 256 ^ q = T / 256 ^ q + p := high_add T p q
        have hzz : (T + p * 256 ^ q) / 256 ^ q % 256 = z := by rw [hTh, ← hz, ← e1]
        have eT : Hid ((R + x * (b % 256 ^ (k + 1)) * 256 ^ i) / 256 ^ (q + 1) = R / 256 ^ (q + 1) + t) := by
          show (R + x * (b % 256 ^ (k + 1)) * 256 ^ i) / 256 ^ (q + 1) = R / 256 ^ (q + 1) + t
          rw [hTn, hp, pow_step, pow_step R, hTh, e2, hRq, ht]
        have hset : Hid (((mixD T R q L).map I).set q (I z) = (mixD (R + x * (b % 256 ^ (k + 1)) * 256 ^ i) R (q + 1) L).map I) := by
          show ((mixD T R q L).map I).set q (I z) = (mixD (R + x * (b % 256 ^ (k + 1)) * 256 ^ i) R (q + 1) L).map I
          rw [hTn, hp, ← List.map_set, mix_set T R q L z (T + p * 256 ^ q) (fun j hj => low_same T p q j hj) hzz]
        have hzero : k = m → t = 0 := fun h => by
          have h1 : Rq = 0 := by rw [← hRq, ← hq, h]; exact Nat.div_eq_of_lt hRl.out
          have h2 : y = 0 := by rw [← hy, h, Nat.div_eq_of_lt lb.out]
          have h3 : p = 0 := by rw [← hp, h2, Nat.mul_zero]
          omega
        have hdone : Hid (m ≤ k → cy = 0 → mixD T R q L = digs 256 (a % 256 ^ (i + 1) * b) L) := fun h1 h2 => by
          have hb2 : b % 256 ^ k = b := mod_all (Nat.lt_of_lt_of_le lb.out (Nat.pow_le_pow_right (by decide) h1))
          have h3 : Rq = 0 := by rw [← hRq, ← hq]; exact Nat.div_eq_of_lt (Nat.lt_of_lt_of_le hRl.out (Nat.pow_le_pow_right (by decide) (by omega)))
          have h4 : T < 256 ^ q := lt_of_div (by rw [hT, h3, h2])
          have h5 : R < 256 ^ q := lt_of_div (by rw [hRq, h3])
          have h6 : T = a % 256 ^ (i + 1) * b := by rw [← hTT, hb2]; exact hR2.out
          rw [← h6]
          refine mix_all T R q L fun j hj => ?_
          have hpw : 256 ^ q ≤ 256 ^ j := Nat.pow_le_pow_right (by decide) hj
          rw [Nat.div_eq_of_lt (Nat.lt_of_lt_of_le h4 hpw), Nat.div_eq_of_lt (Nat.lt_of_lt_of_le h5 hpw)]
        have gW := Lib.hid hg
        have p9 : p ≤ 65025 := by rw [← hp]; exact Nat.mul_le_mul x8 y8
        have pZ : (x : Int) * (y : Int) = (p : Int) := by rw [← hp]; exact (Int.natCast_mul x y).symm
        have hoq := Lib.hid (show q < L → (mixD T R q L)[q]? = some o from fun h => by rw [mix_at T R q L h, hRq, ho])
        have hzN := Lib.hid hz
        clear hg hb hT hTT hy hTn hRq ho hp e1 e2 e3 hz hTh hzz
        by_cases h1 : k < m
        · have c1' : decide ((k : Int) < (m : Int)) = true := decide_eq_true (by omega)
          have hqL : q < L := by omega
          have c0 : wr.cell? ⟨w.heap.size, q, none⟩ = some (I o) := by rw [gW.out.cell q]; simp [hoq.out hqL]
          have f0 := gW.out.free q
          have hLs : L = L := rfl
          clear hLs
          obtain ⟨ad, rfl, hb2, c1⟩ := lA.out.at_ (k := i) (u := I x) (by rw [List.getElem?_map, hax.out]; rfl)
          have gN : Hid (∀ nq, Has ((wr.drewN nq).setCell ⟨w.heap.size, q, none⟩ (I z)) w.heap.size 3 ((mixD (R + x * (b % 256 ^ (k + 1)) * 256 ^ i) R (q + 1) L).map I).toArray) := fun nq => by
            have := ((gW.out.drewN nq).set q (I z))
            rw [List.setIfInBounds_toArray, hset.out] at this
            exact this
          have b2 := Lib.hid (fun nq => (below_drewN b0.out nq).setCell (p := ⟨w.heap.size, q, none⟩) (Nat.le_refl _) (I z))
          have hqI : (i : Int) + (k : Int) = (q : Int) := by omega
          have s1n : ∃ s1 : Nat, o + p = s1 := ⟨_, rfl⟩
          obtain ⟨s1, hs1⟩ := s1n
          have wI : IntKind.i64.wrap ((i : Int) + (k : Int)) = (q : Int) := by rw [IntWalk.i64_in _ ⟨by omega, by omega⟩]; exact hqI
          have s1I : IntKind.i64.wrap ((o : Int) + (p : Int)) = (s1 : Int) := by rw [IntWalk.i64_in _ ⟨by omega, by omega⟩]; omega
          have sI : IntKind.i64.wrap ((s1 : Int) + (cy : Int)) = (s : Int) := by rw [IntWalk.i64_in _ ⟨by omega, by omega⟩]; omega
          have pI : IntKind.i64.wrap ((x : Int) * (y : Int)) = (p : Int) := by rw [pZ, IntWalk.i64_in _ ⟨by omega, by omega⟩]
          clear pZ
          go_wp2
          go_quiet ((go_at_call 34; exact quiet_same (at7_is (d := y) (z := (k : Int)) (i := k) rfl yD.out (lB.out.next (below_drewN (Below.refl _ _) _)))))
          clear wI pI s1I sI
          have zI : (s : Int) % 256 = (z : Int) := by have := hzN.out; omega
          have tI : (s : Int) / 256 = (t : Int) := by omega
          go_wp2
          go_roundw
          case rel =>
            refine ⟨k + 1, t, by omega, by omega, (fun h => hzero (by omega)), by rw [← Nat.add_assoc, hq]; exact eT.out, rfl, by go_num, ?_, ?_⟩
            · rw [← Nat.add_assoc, hq]; exact gN.out _
            · exact b2.out _
          case measure => simp [intOf]; omega
        · have c1' : decide ((k : Int) < (m : Int)) = false := decide_eq_false (by omega)
          by_cases h2 : 0 < cy
          · have c2' : decide ((0 : Int) < (cy : Int)) = true := decide_eq_true (by omega)
            have hkm : k = m := by
              rcases Nat.lt_or_ge m k with hh | hh
              · have := hk1 (by omega); omega
              · omega
            have hkm' := Lib.hid hkm
            have hkm2 : k ≤ m := Nat.le_of_eq hkm
            clear hkm
            have hqL : q < L := by omega
            have c0 : wr.cell? ⟨w.heap.size, q, none⟩ = some (I o) := by rw [gW.out.cell q]; simp [hoq.out hqL]
            have f0 := gW.out.free q
            have hLs : L = L := rfl
            clear hLs
            obtain ⟨ad, rfl, hb2, c1⟩ := lA.out.at_ (k := i) (u := I x) (by rw [List.getElem?_map, hax.out]; rfl)
            have gN : Hid (∀ nq, Has ((wr.drewN nq).setCell ⟨w.heap.size, q, none⟩ (I z)) w.heap.size 3 ((mixD (R + x * (b % 256 ^ (k + 1)) * 256 ^ i) R (q + 1) L).map I).toArray) := fun nq => by
              have := ((gW.out.drewN nq).set q (I z))
              rw [List.setIfInBounds_toArray, hset.out] at this
              exact this
            have b2 := Lib.hid (fun nq => (below_drewN b0.out nq).setCell (p := ⟨w.heap.size, q, none⟩) (Nat.le_refl _) (I z))
            have hqI : (i : Int) + (k : Int) = (q : Int) := by omega
            have s1n : ∃ s1 : Nat, o + p = s1 := ⟨_, rfl⟩
            obtain ⟨s1, hs1⟩ := s1n
            have wI : IntKind.i64.wrap ((i : Int) + (k : Int)) = (q : Int) := by rw [IntWalk.i64_in _ ⟨by omega, by omega⟩]; exact hqI
            have s1I : IntKind.i64.wrap ((o : Int) + (p : Int)) = (s1 : Int) := by rw [IntWalk.i64_in _ ⟨by omega, by omega⟩]; omega
            have sI : IntKind.i64.wrap ((s1 : Int) + (cy : Int)) = (s : Int) := by rw [IntWalk.i64_in _ ⟨by omega, by omega⟩]; omega
            have pI : IntKind.i64.wrap ((x : Int) * (y : Int)) = (p : Int) := by rw [pZ, IntWalk.i64_in _ ⟨by omega, by omega⟩]
            clear pZ
            go_wp2
            go_quiet ((go_at_call 34; exact quiet_same (at7_is (d := y) (z := (k : Int)) (i := k) rfl yD.out (lB.out.next (below_drewN (Below.refl _ _) _)))))
            clear wI pI s1I sI
            have zI : (s : Int) % 256 = (z : Int) := by have := hzN.out; omega
            have tI : (s : Int) / 256 = (t : Int) := by omega
            go_wp2
            go_roundw
            case rel =>
              refine ⟨k + 1, t, by omega, by omega, (fun _ => hzero hkm'.out), by rw [← Nat.add_assoc, hq]; exact eT.out, rfl, by go_num, ?_, ?_⟩
              · rw [← Nat.add_assoc, hq]; exact gN.out _
              · exact b2.out _
            case measure => simp [intOf]; omega
          · have c2' : decide ((0 : Int) < (cy : Int)) = false := decide_eq_false (by omega)
            have gE := Lib.hid (hdone.out (by omega) (by omega) ▸ gW.out)
            clear hdone
            go_wp2
            go_roundw
            case rel => exact ⟨i + 1, by omega, by go_num, gE.out, b0.out⟩
            case measure => simp [intOf]; omega
    · obtain rfl : i = n := by omega
      have e : digs 256 (a % 256 ^ i * b) L = digs 256 (a * b) L := by rw [mod_all la.out]
      rw [e] at g0
      have hL0 : LieV wr (some ⟨w.heap.size, 0, none⟩) L L ((digs 256 (a * b) L).map I) := ⟨by rw [List.length_map, digs_len], by omega, Nat.le_refl _, by unfold maxLen; omega, (fun e => by cases e), by have := g0.out.row; simpa using this⟩
      have hL' := Lib.hid (lie_digs lab.out hL0)
      have ht := Lib.hid (trim7_digs _ L L (a * b) lab.out wr hL0)
      clear hL0 e
      go_wp2_with (go_at_call 42; refine ht.out.mono ?_; rintro e w' ⟨rfl, rfl⟩)
      go_ret
      exact ⟨_, _, rfl, hL'.out, (fun ad e => by cases e; exact Nat.le_refl _), bb.out⟩
end Go.Proofs.YtmndfncogkjjpaaDoor
