/- Package nat, as it landed: Mul, Pow. -/
import Derived.Test.YtmndfncogkjjpaaDoorN7Mul
import Derived.StillTailTactics
namespace Go.Proofs.YtmndfncogkjjpaaDoor
open Go.RowKit Go.Proofs.Natm
set_option maxRecDepth 100000

theorem cut_block {P : Program} {T E : TypeId} (ht : P.underlying T = some (.slice E)) (hz : ∀ W, (sizeOf E).run P W = .ok 1 W) (g L k r : Nat) (hk : k < L) (hr : L - k = r) :
    ∀ W, (Instr.slice T (.slice (some ⟨g, 0, none⟩) L L) (some (.int .i64 (k : Int))) none none).run P W = .ok (.slice (some ⟨g, k, none⟩) r r) W := by
  intro W
  have hi' : (k : Int) ≤ (L : Int) := by omega
  have hne : ¬ L = k := by omega
  subst hr
  simp [Instr.slice, run_underlying ht, Instr.sliceBounds, run_sliceBound, hz, hi', Result.andThen, hne, add_none]

set_option maxHeartbeats 4000000 in
theorem natMul_yes (A B : Option Addr) (n c m d L : Nat) (a b : List Nat) (ha : mayL a = true) (hb : mayL b = true) (s : List Nat) (k0 : Nat) (x0 : Int) (hs : fitL (num a * num b) = s) (hk0 : s.length = k0) (hx0 : fitE (num a * num b) = x0) (hL : n + m = L) (w : World) (hA : LieW w A n c a) (hB : LieW w B m d b) : Calls Tryd.prog 11 #[.slice A n c, .slice B m d] w (MadeN w k0 s x0) := by
  have hM := Lib.hid (natMay_is ha hA)
  have hM2 := Lib.hid (natMay_is hb hB)
  obtain ⟨da, _, n8, _, na⟩ := num_of_may ha hA
  obtain ⟨db, sb, m8, _, nb⟩ := num_of_may hb hB
  have mdc := hB.lie.cap
  have mdm := hB.lie.max
  obtain ⟨p, hp⟩ : ∃ p, num a = p := ⟨_, rfl⟩
  obtain ⟨q, hq⟩ : ∃ q, num b = q := ⟨_, rfl⟩
  rw [hp] at da na hs hx0
  rw [hq] at db nb hs hx0 sb
  have hla := hA.len
  have ga : Hid (∀ k, k < n → (a.map U)[k]? = some (U (p / Wd ^ k % Wd))) := fun k hk => by
    have h1 : k < a.length := by omega
    have h2 : a.getD k 0 = p / Wd ^ k % Wd := by have := dig_get Wd p k (by decide); rwa [← da] at this
    rw [List.getElem?_map, List.getElem?_eq_getElem h1]
    rw [List.getD_eq_getElem?_getD, List.getElem?_eq_getElem h1] at h2
    have h3 : a[k] = p / Wd ^ k % Wd := by simpa using h2
    rw [h3]; rfl
  have hrB : Hid (Row w w.heap.size B ((digs Wd q m).map U)) := by
    have h1 := hB.lie.row
    rw [db] at h1
    unfold dig at h1
    rwa [sb] at h1
  have hA' := Lib.hid hA
  have pq : Hid (p * q < Wd ^ L) := by show p * q < Wd ^ L; rw [← hL, Nat.pow_add]; exact Nat.mul_lt_mul'' na nb
  have nb' := Lib.hid nb
  have na' := Lib.hid na
  have hF := Lib.hid (fun A c W h => fitted_any A L c (p * q) s k0 x0 hs hk0 hx0 pq.out W h)
  have L9 : L ≤ 256 := by omega
  have hLI : (n : Int) + (m : Int) = (L : Int) := by omega
  have hmk := fun W => run_make_row' (P := Tryd.prog) 23 42 (.int .u32 0) 4 Tryd.underlying23 info_u32 rfl .i64 .i64 L (by omega) (by omega) W
  simp only [madeW_zero] at hmk
  clear hA hB hp hq da db sb ha hb na nb hs hk0 hx0 hla
  go_enter Tryd.func11, Tryd.ntmps11
  go_wp2_with fail
  refine hM.out.mono ?_
  rintro e w' ⟨rfl, rfl⟩
  go_wp2_with fail
  refine hM2.out.mono ?_
  rintro e w' ⟨rfl, rfl⟩
  go_wp2
  go_loopw [24] (fun i wr => ∃ k : Nat, k ≤ n ∧ i = .int .i64 k ∧ Has wr w.heap.size 42 ((digs Wd (p % Wd ^ k * q) L).map U).toArray ∧ Below w.heap.size w wr) (fun i _ => n - (intOf i).toNat)
  case atStart => exact ⟨0, Nat.zero_le _, rfl, by rw [Nat.pow_zero, Nat.mod_one, Nat.zero_mul]; exact Has.new w 42 _, (Below.refl _ _).alloc (Nat.le_refl _) _⟩
  case round =>
    obtain ⟨k, hk, rfl, hg, hb⟩ := hrel
    have g0 := Lib.hid hg
    have b0 := Lib.hid hb
    clear hg hb
    by_cases hkn : k < n
    · obtain ⟨x, hx⟩ : ∃ x, p / Wd ^ k % Wd = x := ⟨_, rfl⟩
      have x9 : x < 4294967296 := by rw [← hx]; exact Nat.mod_lt _ (by decide)
      obtain ⟨ad, rfl, hb2, c1⟩ := (hA'.out.next b0.out).lie.at_ (k := k) (u := U x) ((ga.out k hkn).trans (by rw [hx]))
      obtain ⟨R, hR⟩ : ∃ R, p % Wd ^ k * q = R := ⟨_, rfl⟩
      have hRl : R < Wd ^ (k + m) := by rw [← hR, Nat.pow_add]; exact Nat.mul_lt_mul'' (Nat.mod_lt _ (Nat.pow_pos (by decide))) nb'.out
      have hR2 : Hid (R + x * q * Wd ^ k = p % Wd ^ (k + 1) * q) := by
        show R + x * q * Wd ^ k = p % Wd ^ (k + 1) * q
        rw [wmod_next, hx, Nat.add_mul, hR, Nat.mul_assoc x q, Nat.mul_comm q, Nat.mul_assoc x]
      rw [hR] at g0
      obtain ⟨r, hr⟩ : ∃ r, L - k = r := ⟨_, rfl⟩
      have hkc := cut_block (P := Tryd.prog) Tryd.underlying23 size_u32 w.heap.size L k r (by omega) hr
      have hrow := Lib.hid (hrB.out.below b0.out)
      have b1 := Lib.hid b0.out.drew
      have hC := Lib.hid (addRow_any w.heap.size k L m d r x q R r B x9 nb'.out hRl (by omega) (by omega) hr (Nat.le_refl _) (by omega) mdc mdm wr.drew g0.out hrow.out)
      have hkI : IntKind.u64.wrap (x : Int) = (x : Int) := IntWalk.u64_in _ ⟨by omega, by omega⟩
      clear hR hx hr hRl
      go_wp2
      go_still_tail 9, (by kernel_rfl)
      change wpList _ _ _ _ _ wr.drew
      generalize wr.drew = w2 at *
      go_wp2_with fail
      refine hC.out.mono ?_
      rintro e w3 ⟨rfl, hg3, hb3⟩
      have b3 := Lib.hid (b1.out.trans hb3)
      rw [hR2.out] at hg3
      have g3 := Lib.hid hg3
      clear hg3 hb3
      go_wp2
      go_roundw
      case rel => exact ⟨k + 1, by omega, by go_num, g3.out, b3.out⟩
      case measure => simp [intOf]; omega
    · obtain rfl : k = n := by omega
      have hp2 : p % Wd ^ k = p := Nat.mod_eq_of_lt na'.out
      rw [hp2] at g0
      have hL' := Lib.hid (lie_block g0.out (digs_len _ _ _) (by omega))
      go_wp2_with fail
      refine (hF.out _ _ _ hL'.out).mono ?_
      rintro e w1 ⟨⟨A', c', rfl, hl⟩, rfl⟩
      have l1 := Lib.hid hl
      clear hl
      go_wp2
      go_ret2
      exact ⟨_, _, rfl, l1.out, b0.out⟩

set_option maxHeartbeats 1000000 in
theorem natMul_any (A : Option Addr) (n c : Nat) (a : List Nat) (B : Option Addr) (m d : Nat) (b : List Nat) (s : List Nat) (k : Nat) (x : Int) (W : World) (h1 : mulL a b = s) (h2 : s.length = k) (h3 : mulE a b = x) (hA : LieW W A n c a) (hB : LieW W B m d b) : Calls Tryd.prog 11 #[.slice A n c, .slice B m d] W (MadeN W k s x) := by
  unfold mulL at h1
  unfold mulE at h3
  cases ha : mayL a with
  | false =>
    have hM := Lib.hid (natMay_is ha hA)
    rw [ha] at h1 h3
    simp at h1 h3
    subst h1 h2 h3
    clear hA hB
    go_enter Tryd.func11, Tryd.ntmps11
    go_wp2_with (go_at_call 16; refine hM.out.mono ?_; rintro e w' ⟨rfl, rfl⟩)
    go_ret2
    exact ⟨_, _, rfl, ⟨LieV.empty _, fun _ h => by cases h⟩, Below.refl _ _⟩
  | true =>
    cases hb : mayL b with
    | false =>
      have hM := Lib.hid (natMay_is ha hA)
      have hM2 := Lib.hid (natMay_is hb hB)
      rw [ha, hb] at h1 h3
      simp at h1 h3
      subst h1 h2 h3
      clear hA hB
      go_enter Tryd.func11, Tryd.ntmps11
      go_wp2_with fail
      refine hM.out.mono ?_
      rintro e w' ⟨rfl, rfl⟩
      go_wp2_with fail
      refine hM2.out.mono ?_
      rintro e w' ⟨rfl, rfl⟩
      go_wp2
      go_ret2
      exact ⟨_, _, rfl, ⟨LieV.empty _, fun _ h => by cases h⟩, Below.refl _ _⟩
    | true =>
      rw [ha, hb] at h1 h3
      exact natMul_yes A B n c m d (n + m) a b ha hb s k x (by simpa using h1) h2 (by simpa using h3) rfl W hA hB

set_option maxHeartbeats 1000000 in
theorem natPow_no (A : Option Addr) (n c : Nat) (a : List Nat) (e : Int) (he : (mayL a && decide (0 ≤ e) && decide (e ≤ 200)) = false) (w : World) (hA : LieW w A n c a) : Calls Tryd.prog 13 #[.slice A n c, .int .i64 e] w (MadeN w 0 [] 2) := by
  cases ha : mayL a with
  | false =>
    have hM := Lib.hid (natMay_is ha hA)
    clear hA he
    go_enter Tryd.func13, Tryd.ntmps13
    go_wp2_with (go_at_call 16; refine hM.out.mono ?_; rintro e w' ⟨rfl, rfl⟩)
    go_ret2
    exact ⟨_, _, rfl, ⟨LieV.empty _, fun _ h => by cases h⟩, Below.refl _ _⟩
  | true =>
    have hM := Lib.hid (natMay_is ha hA)
    rw [ha] at he
    by_cases h0 : e < 0
    · have d1 : decide (e < 0) = true := decide_eq_true h0
      clear hA he
      go_enter Tryd.func13, Tryd.ntmps13
      go_wp2_with (go_at_call 16; refine hM.out.mono ?_; rintro e w' ⟨rfl, rfl⟩)
      go_ret2
      exact ⟨_, _, rfl, ⟨LieV.empty _, fun _ h => by cases h⟩, Below.refl _ _⟩
    · have d1 : decide (e < 0) = false := decide_eq_false h0
      have h2 : 200 < e := by
        simp at he
        omega
      have d2 : decide (200 < e) = true := decide_eq_true h2
      clear hA he
      go_enter Tryd.func13, Tryd.ntmps13
      go_wp2_with (go_at_call 16; refine hM.out.mono ?_; rintro e w' ⟨rfl, rfl⟩)
      go_ret2
      exact ⟨_, _, rfl, ⟨LieV.empty _, fun _ h => by cases h⟩, Below.refl _ _⟩

theorem mul_of {a b : List Nat} {u v : Nat} (ha : a = dig Wd u) (hb : b = dig Wd v) (hu : u < Top) (hv : v < Top) : mulL a b = fitL (u * v) ∧ mulE a b = fitE (u * v) := by
  subst ha hb
  unfold mulL mulE num
  rw [dig_may hu, dig_may hv, val_dig (by decide), val_dig (by decide)]
  exact ⟨rfl, rfl⟩
set_option maxHeartbeats 4000000 in
theorem natPow_yes (A : Option Addr) (n c : Nat) (a : List Nat) (E N : Nat) (hN : num a = N) (hE : E ≤ 200) (ha : mayL a = true) (s : List Nat) (k0 : Nat) (x0 : Int) (hs : fitL (N ^ E) = s) (hk0 : s.length = k0) (hx0 : fitE (N ^ E) = x0) (w : World) (hA : LieW w A n c a) : Calls Tryd.prog 13 #[.slice A n c, .int .i64 E] w (MadeN w k0 s x0) := by
  have hM := Lib.hid (natMay_is ha hA)
  obtain ⟨da, _, _, tN, _⟩ := num_of_may ha hA
  rw [hN] at da tN
  have hA' := Lib.hid hA
  have tN' := Lib.hid tN
  have da' := Lib.hid da
  have h1T : (1 : Nat) < Top := by unfold Top; exact Nat.one_lt_pow (by decide) (by decide)
  have h1' := Lib.hid h1T
  have d1 : decide ((E : Int) < 0) = false := decide_eq_false (by omega)
  have d2 : decide ((200 : Int) < (E : Int)) = false := decide_eq_false (by omega)
  have cF := Lib.hid (fun W => natFrom_any 1 _ _ W (by decide) rfl rfl)
  have hs' := Lib.hid hs
  have hx' := Lib.hid hx0
  clear hA hN da tN h1T hs hx0
  go_enter Tryd.func13, Tryd.ntmps13
  go_wp2_with fail
  refine hM.out.mono ?_
  rintro e w' ⟨rfl, rfl⟩
  go_wp2_with fail
  refine (cF.out _).mono ?_
  rintro e w1 ⟨A1, c1, rfl, hL, hb⟩
  have l1 := Lib.hid hL
  have b1 := Lib.hid hb
  clear hL hb
  go_wp2
  go_loopw [6, 22] (fun v i wr => ∃ k : Nat, ∃ A' z c', k ≤ E ∧ i = .int .i64 k ∧ v = .slice A' z c' ∧ (dig Wd (N ^ k)).length = z ∧ N ^ k < Top ∧ LieW wr A' z c' (dig Wd (N ^ k)) ∧ Below w.heap.size w wr) (fun _ i _ => E - (intOf i).toNat)
  case atStart => exact ⟨0, _, _, _, Nat.zero_le _, rfl, rfl, by rw [Nat.pow_zero], by rw [Nat.pow_zero]; exact h1'.out, by rw [Nat.pow_zero]; exact l1.out, b1.out⟩
  case round =>
    obtain ⟨k, A2, z, c2, hk, rfl, rfl, hz, hkT, hL, hb⟩ := hrel
    have l2 := Lib.hid hL
    have b2 := Lib.hid hb
    have a2 := Lib.hid (hA'.out.next b2.out)
    clear hL hb
    by_cases hkE : k < E
    · have hmm := mul_of (u := N ^ k) (v := N) rfl da'.out hkT tN'.out
      rw [← Nat.pow_succ] at hmm
      by_cases hT : N ^ (k + 1) < Top
      · obtain ⟨f1, f2⟩ := fit_is hT rfl
        rw [f1, f2] at hmm
        have cM := Lib.hid (natMul_any A2 z c2 (dig Wd (N ^ k)) A n c a _ _ _ _ hmm.1 rfl hmm.2 l2.out a2.out)
        have hT' := Lib.hid hT
        clear hmm f1 f2 hT hkT hz
        go_wp2_with fail
        refine cM.out.mono ?_
        rintro e w3 ⟨A3, c3, rfl, hL, hb⟩
        have l3 := Lib.hid hL
        have b3 := Lib.hid (Below.after b2.out hb)
        clear hL hb
        go_wp2
        go_roundw
        case rel => exact ⟨k + 1, A3, _, c3, by omega, by go_num, rfl, rfl, hT'.out, l3.out, b3.out⟩
        case measure => simp [intOf]; omega
      · have e1 : fitL (N ^ (k + 1)) = [] ∧ fitE (N ^ (k + 1)) = 5 := by unfold fitL fitE; rw [if_neg hT, if_neg hT]; exact ⟨rfl, rfl⟩
        have hE' : ¬ N ^ E < Top := fun h => by
          have hN0 : 0 < N := by
            rcases Nat.eq_zero_or_pos N with h0 | h0
            · exfalso
              subst h0
              apply hT
              rw [Nat.pow_succ, Nat.mul_zero]
              exact Nat.lt_trans Nat.zero_lt_one h1'.out
            · exact h0
          exact hT (Nat.lt_of_le_of_lt (Nat.pow_le_pow_right hN0 hkE) h)
        have qq := fit_same hE' hT
        rw [e1.1, e1.2, hs'.out, hx'.out] at qq
        rw [e1.1, e1.2] at hmm
        obtain ⟨q1, q2⟩ := qq
        subst q1 q2
        have hk00 : k0 = 0 := by rw [← hk0]; rfl
        subst hk00
        have cM := Lib.hid (natMul_any A2 z c2 (dig Wd (N ^ k)) A n c a _ _ _ _ hmm.1 rfl hmm.2 l2.out a2.out)
        clear hmm e1 hT hE' hkT hz hk0
        go_wp2_with fail
        refine cM.out.mono ?_
        rintro e w3 ⟨A3, c3, rfl, hL, hb⟩
        have b3 := Lib.hid (Below.after b2.out hb)
        clear hL hb
        go_wp2
        go_ret2
        exact ⟨_, _, rfl, ⟨LieV.empty _, fun _ h => by cases h⟩, b3.out⟩
    · obtain rfl : k = E := by omega
      obtain ⟨f1, f2⟩ := fit_is hkT rfl
      rw [hs'.out] at f1
      rw [hx'.out] at f2
      subst f1 f2
      rw [hk0] at hz
      subst hz
      go_wp2
      go_ret2
      exact ⟨_, _, rfl, l2.out, b2.out⟩
theorem natPow_any (A : Option Addr) (n c : Nat) (a : List Nat) (e : Int) (s : List Nat) (k : Nat) (x : Int) (W : World) (h1 : powL a e = s) (h2 : s.length = k) (h3 : powE a e = x) (hA : LieW W A n c a) : Calls Tryd.prog 13 #[.slice A n c, .int .i64 e] W (MadeN W k s x) := by
  unfold powL at h1
  unfold powE at h3
  cases he : (mayL a && decide (0 ≤ e) && decide (e ≤ 200)) with
  | false =>
    rw [he] at h1 h3
    simp at h1 h3
    subst h1 h2 h3
    exact natPow_no A n c a e he W hA
  | true =>
    rw [he] at h1 h3
    simp only [Bool.and_eq_true, decide_eq_true_eq] at he
    obtain ⟨E, rfl⟩ : ∃ E : Nat, e = E := ⟨e.toNat, by omega⟩
    exact natPow_yes A n c a E _ rfl (by omega) he.1.1 s k x (by simpa using h1) h2 (by simpa using h3) W hA
end Go.Proofs.YtmndfncogkjjpaaDoor
