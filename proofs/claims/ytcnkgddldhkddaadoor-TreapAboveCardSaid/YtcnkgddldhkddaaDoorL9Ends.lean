/- The document's own answers of layer 9 (package joineryref09): ends, May, Sum, Same. -/
import Derived.Test.YtcnkgddldhkddaaDoorGBead
namespace Go.Proofs.YtcnkgddldhkddaaDoor
open Go.RowKit Go.Proofs.Treem

/-- how ends tells what it has found -/
def ansE : Option Nat → Int
  | none => -1
  | some k => k

set_option maxHeartbeats 4000000 in
theorem ends9_any (A : Option Addr) (n c B : Nat) (l : List Bd) (w : World) (h : LieB w B A n c l) (h5 : n ≤ 5000) : ∀ (fuel a d : Nat), n - a ≤ fuel → d ≤ a → a ≤ 5001 → ∀ za zd : Int, za = (a : Int) → zd = (d : Int) →
    Calls Tryd.prog 48 #[.slice A n c, .int .i64 za, .int .i64 zd] w fun e w' => e = .returned (.int .i64 (ansE (endsL ((l.map strip).drop a)))) ∧ w = w' := by
  have h' := Lib.hid h
  have hl' := Lib.hid h.len
  clear h
  intro fuel
  induction fuel with
  | zero =>
    intro a d hf hd ha za zd rfl rfl
    have e0 : (l.map strip).drop a = [] := List.drop_of_length_le (by rw [List.length_map, hl'.out]; omega)
    rw [e0]
    have d1 : decide ((n : Int) ≤ (a : Int)) = true := decide_eq_true (by omega)
    go_enter Tryd.func48, Tryd.ntmps48
    go_wp2
    go_ret
    exact ⟨rfl, rfl⟩
  | succ fuel ih0 =>
    intro a d hf hd ha za zd hza hzd
    subst hza hzd
    have ih := Lib.hid ih0
    clear ih0
    by_cases han : n ≤ a
    · have e0 : (l.map strip).drop a = [] := List.drop_of_length_le (by rw [List.length_map, hl'.out]; omega)
      rw [e0]
      have d1 : decide ((n : Int) ≤ (a : Int)) = true := decide_eq_true (by omega)
      clear e0
      go_enter Tryd.func48, Tryd.ntmps48
      go_wp2
      go_ret
      exact ⟨rfl, rfl⟩
    · have d1 : decide ((n : Int) ≤ (a : Int)) = false := decide_eq_false (by omega)
      have d2 : decide ((5000 : Int) < (d : Int)) = false := decide_eq_false (by omega)
      have hal : a < l.length := by rw [hl'.out]; omega
      have hcons : (l.map strip).drop a = strip l[a] :: (l.map strip).drop (a + 1) := by
        rw [List.drop_eq_getElem_cons (by rw [List.length_map]; exact hal), List.getElem_map]
      obtain ⟨ad, rfl, hadB, x0, x1, x2, x3, x4, gL, gR⟩ := bead_at h'.out a hal
      clear x0 x1 x2 x3 x4
      obtain ⟨lf, hlf⟩ : ∃ b, l[a].left = b := ⟨_, rfl⟩
      obtain ⟨rt, hrt⟩ : ∃ b, l[a].right = b := ⟨_, rfl⟩
      rw [hlf] at gL
      rw [hrt] at gR
      have hans : endsL ((l.map strip).drop a) = joinE lf rt (endsL ((l.map strip).drop (a + 1))) (fun i => endsL ((l.map strip).drop (a + 1 + i))) := by
        rw [hcons, ends_cons, show (strip l[a]).left = lf from hlf, show (strip l[a]).right = rt from hrt]
        simp only [List.drop_drop]
      rw [hans]
      have hlen : ∀ b i, endsL ((l.map strip).drop b) = some i → 1 ≤ i ∧ b + i ≤ n := fun b i hi => by
        obtain ⟨h1, h2⟩ := ends_le hi
        rw [List.length_drop, List.length_map, hl'.out] at h2
        omega
      have hlen' := Lib.hid hlen
      clear hcons hlf hrt hans hal hlen
      cases lf with
      | false =>
        cases rt with
        | false =>
          go_enter Tryd.func48, Tryd.ntmps48
          go_wp2
          go_ret
          exact ⟨rfl, rfl⟩
        | true =>
          have c2 := Lib.hid (ih.out (a + 1) (d + 1) (by omega) (by omega) (by omega) ((a : Int) + 1) ((d : Int) + 1) (by omega) (by omega))
          simp only [joinE, Bool.false_eq_true, if_false, if_true, Nat.add_zero]
          cases he : endsL ((l.map strip).drop (a + 1)) with
          | none =>
            rw [he] at c2
            go_enter Tryd.func48, Tryd.ntmps48
            go_wp2_with (go_at_call 48; refine c2.out.mono ?_; rintro e w' ⟨rfl, rfl⟩)
            go_ret
            exact ⟨rfl, rfl⟩
          | some j =>
            rw [he] at c2
            obtain ⟨j1, j2⟩ := hlen'.out _ _ he
            have d3 : decide ((j : Int) < 0) = false := decide_eq_false (by omega)
            clear he
            simp only [ansE] at c2
            go_enter Tryd.func48, Tryd.ntmps48
            go_wp2_with (go_at_call 48; refine c2.out.mono ?_; rintro e w' ⟨rfl, rfl⟩)
            go_ret
            exact ⟨ret_int (by simp only [ansE]; omega), rfl⟩
      | true =>
        have c1 := Lib.hid (ih.out (a + 1) (d + 1) (by omega) (by omega) (by omega) ((a : Int) + 1) ((d : Int) + 1) (by omega) (by omega))
        simp only [joinE, if_true]
        cases he : endsL ((l.map strip).drop (a + 1)) with
        | none =>
          rw [he] at c1
          go_enter Tryd.func48, Tryd.ntmps48
          go_wp2_with (go_at_call 48; refine c1.out.mono ?_; rintro e w' ⟨rfl, rfl⟩)
          go_ret
          exact ⟨rfl, rfl⟩
        | some i =>
          rw [he] at c1
          obtain ⟨i1, i2⟩ := hlen'.out _ _ he
          have d3 : decide ((i : Int) < 0) = false := decide_eq_false (by omega)
          clear he
          simp only [ansE] at c1
          cases rt with
          | false =>
            go_enter Tryd.func48, Tryd.ntmps48
            go_wp2_with (go_at_call 48; refine c1.out.mono ?_; rintro e w' ⟨rfl, rfl⟩)
            go_ret
            exact ⟨ret_int (by simp [ansE]), rfl⟩
          | true =>
            have c2 := Lib.hid (ih.out (a + 1 + i) (d + 1) (by omega) (by omega) (by omega) ((a : Int) + (1 + (i : Int))) ((d : Int) + 1) (by omega) (by omega))
            simp only [if_true]
            cases he : endsL ((l.map strip).drop (a + 1 + i)) with
            | none =>
              rw [he] at c2
              go_enter Tryd.func48, Tryd.ntmps48
              go_wp2_with (go_at_call 48; (first | (with_reducible refine c1.out.mono ?_) | (with_reducible refine c2.out.mono ?_)); rintro e w' ⟨rfl, rfl⟩)
              go_ret
              exact ⟨rfl, rfl⟩
            | some j =>
              rw [he] at c2
              obtain ⟨j1, j2⟩ := hlen'.out _ _ he
              have d4 : decide ((j : Int) < 0) = false := decide_eq_false (by omega)
              clear he
              simp only [ansE] at c2
              go_enter Tryd.func48, Tryd.ntmps48
              go_wp2_with (go_at_call 48; (first | (with_reducible refine c1.out.mono ?_) | (with_reducible refine c2.out.mono ?_)); rintro e w' ⟨rfl, rfl⟩)
              go_ret
              exact ⟨ret_int (by simp [ansE]), rfl⟩

set_option maxHeartbeats 1000000 in
theorem refMay9_any (A : Option Addr) (n c B : Nat) (l : List Bd) (w : World) (h : LieB w B A n c l) (h5 : n ≤ 5000) : Calls Tryd.prog 27 #[.slice A n c] w fun e w' => e = .returned (.bool (mayB (l.map strip))) ∧ w = w' := by
  have hl : (l.map strip).length = n := by rw [List.length_map]; exact h.len
  have hmay : mayB (l.map strip) = (decide (n = 0) || decide (endsL (l.map strip) = some n)) := by unfold mayB endsL; rw [hl]
  rw [hmay]
  have c0 := Lib.hid (ends9_any A n c B l w h h5 n 0 0 (by omega) (by omega) (by omega) 0 0 rfl rfl)
  rw [List.drop_zero] at c0
  have hle : ∀ k, endsL (l.map strip) = some k → 1 ≤ k ∧ k ≤ n := fun k hk => by have := ends_le hk; rw [hl] at this; exact this
  clear h hl hmay
  rcases Nat.eq_zero_or_pos n with h0 | h0
  · have d1 : ((n : Int) == 0) = true := by simp [h0]
    have e1 : (decide (n = 0) || decide (endsL (l.map strip) = some n)) = true := by rw [decide_eq_true h0]; rfl
    rw [e1]
    clear e1
    go_enter Tryd.func27, Tryd.ntmps27
    go_wp2
    go_ret
    exact ⟨rfl, rfl⟩
  · have d1 : ((n : Int) == 0) = false := by simp; omega
    have e1 : decide (n = 0) = false := decide_eq_false (by omega)
    rw [e1, Bool.false_or]
    cases he : endsL (l.map strip) with
    | none =>
      rw [he] at c0
      have d2 : ((-1 : Int) == (n : Int)) = false := by rw [beq_eq_false_iff_ne]; omega
      simp only [ansE] at c0
      go_enter Tryd.func27, Tryd.ntmps27
      go_wp2_with (go_at_call 48; refine c0.out.mono ?_; rintro e w' ⟨rfl, rfl⟩)
      go_ret
      exact ⟨rfl, rfl⟩
    | some k =>
      rw [he] at c0
      have e2 : ((k : Int) == (n : Int)) = decide (some k = some n) := by rw [Bool.eq_iff_iff]; simp; omega
      rw [← e2]
      simp only [ansE] at c0
      clear e2 he hle
      go_enter Tryd.func27, Tryd.ntmps27
      go_wp2_with (go_at_call 48; refine c0.out.mono ?_; rintro e w' ⟨rfl, rfl⟩)
      go_ret
      exact ⟨rfl, rfl⟩

/-- the values together -/
def sumB (l : List Bd) : BitVec 64 := l.foldl (fun s b => s + b.val) 0#64
theorem sumB_next (l : List Bd) (k : Nat) (h : k < l.length) : sumB (l.take (k + 1)) = sumB (l.take k) + l[k].val := by
  unfold sumB
  rw [List.take_succ_eq_append_getElem h, List.foldl_append]; rfl
set_option maxHeartbeats 1000000 in
theorem refSum9_any (A : Option Addr) (n c B : Nat) (l : List Bd) (w : World) (h : LieB w B A n c l) : Calls Tryd.prog 47 #[.slice A n c] w fun e w' => e = .returned (K (sumB l)) ∧ w = w' := by
  have h' := Lib.hid h
  have hl' := Lib.hid h.len
  have hf := h.few
  clear h
  go_enter Tryd.func47, Tryd.ntmps47
  go_wp2
  go_loop [3, 4] (fun t i => ∃ k : Nat, k ≤ n ∧ i = .int .i64 k ∧ t = K (sumB (l.take k))) (fun _ i => n - (intOf i).toNat)
  case atStart => exact ⟨0, Nat.zero_le _, rfl, rfl⟩
  case round =>
    obtain ⟨k, hk, rfl, rfl⟩ := hrel
    by_cases hlt : k < n
    · have hkl : k < l.length := by rw [hl'.out]; exact hlt
      obtain ⟨ad, rfl, hb2, _, gV, _⟩ := bead_at h'.out k hkl
      have hs := Lib.hid (sumB_next l k hkl)
      go_wp2
      go_round
      case rel => exact ⟨k + 1, by omega, by go_num, by rw [hs.out, K, ← i_add]⟩
      case measure => simp [intOf]; omega
    · go_wp2
      go_ret
      have : k = n := by omega
      rw [this, List.take_of_length_le (by rw [hl'.out]; exact Nat.le_refl _)]
      exact ⟨rfl, rfl⟩

set_option maxHeartbeats 2000000 in
theorem same9_yes (A A' : Option Addr) (n c c' : Nat) (l : List Bd) (w : World) (h : LieB w w.heap.size A n c l) (q : LieB w w.heap.size A' n c' l) : Calls Tryd.prog 45 #[.slice A n c, .slice A' n c'] w fun e w' => e = .returned (.bool true) ∧ Below w.heap.size w w' := by
  have h' := Lib.hid h
  have q' := Lib.hid q
  have hl' := Lib.hid h.len
  have hf := h.few
  clear h q
  go_enter Tryd.func45, Tryd.ntmps45
  go_wp2
  go_loopw [5] (fun i wr => ∃ k : Nat, k ≤ n ∧ i = .int .i64 k ∧ Below w.heap.size w wr) (fun i _ => n - (intOf i).toNat)
  case atStart => exact ⟨0, Nat.zero_le _, rfl, Below.refl _ _⟩
  case round =>
    obtain ⟨k, hk, rfl, hb⟩ := hrel
    have hb' := Lib.hid hb
    clear hb
    by_cases hlt : k < n
    · have hkl : k < l.length := by rw [hl'.out]; exact hlt
      obtain ⟨ad, rfl, hb2, g0, g1, g2, g3, g4, g5, g6⟩ := bead_at (h'.out.next hb'.out) k hkl
      obtain ⟨ad', rfl, hb3, f0, f1, f2, f3, f4, f5, f6⟩ := bead_at (q'.out.next hb'.out) k hkl
      go_wp2
      go_quiet (fail)
      go_wp2
      go_roundw
      case rel => exact ⟨k + 1, by omega, by go_num, below_drewN hb'.out _⟩
      case measure => simp [intOf]; omega
    · go_wp2
      go_ret
      exact ⟨rfl, hb'.out⟩
end Go.Proofs.YtcnkgddldhkddaaDoor
