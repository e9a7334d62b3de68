/- Layer 11: the statement ShapeDeep, walked. -/
import Derived.Test.YtlhnjgmjkoafpaaDoorL11Makes
import Derived.OwnWalk
namespace Go.Proofs.YtlhnjgmjkoafpaaDoor
open Go.RowKit Go.Proofs.Treem
set_option maxRecDepth 100000
variable {Nd : NdP} {T : World → Prop}

/-- a tree in which each node stands on one side of the one above it; its beads -/
def ch (left : Bool) : Nat → Tr
  | 0 => .e
  | n + 1 => if left then .n (ch left n) 0#64 0#64 0#64 .e else .n .e 0#64 0#64 0#64 (ch left n)
def cb (left : Bool) : Nat → List Bd
  | 0 => []
  | n + 1 => ⟨0#64, 0#64, 0#64, 0#64, 0#64, left && decide (0 < n), !left && decide (0 < n)⟩ :: cb left n
theorem ch_is (left : Bool) : ∀ n, (ch left n).is = decide (0 < n)
  | 0 => rfl
  | n + 1 => by cases left <;> simp [ch, Tr.is]
theorem ch_size (left : Bool) : ∀ n, (ch left n).size = n
  | 0 => rfl
  | n + 1 => by have := ch_size left n; cases left <;> simp [ch, Tr.size] at this ⊢ <;> omega
theorem ch_high (left : Bool) : ∀ n, (ch left n).high = n
  | 0 => rfl
  | n + 1 => by have := ch_high left n; cases left <;> simp [ch, Tr.high] at this ⊢ <;> omega
theorem ch_pre (left : Bool) : ∀ n, (cb left n).map strip = (ch left n).pre
  | 0 => rfl
  | n + 1 => by
    have h1 := ch_pre left n
    have h2 := ch_is left n
    cases left with
    | false =>
      show strip _ :: (cb false n).map strip = ⟨0#64, 0#64, 0#64, false, (ch false n).is⟩ :: ([] ++ (ch false n).pre)
      rw [h1, h2]; rfl
    | true =>
      show strip _ :: (cb true n).map strip = ⟨0#64, 0#64, 0#64, (ch true n).is, false⟩ :: ((ch true n).pre ++ [])
      rw [h1, h2, List.append_nil]
      simp [strip]
theorem cb_len (left : Bool) : ∀ n, (cb left n).length = n
  | 0 => rfl
  | n + 1 => by simp [cb, cb_len left n]
theorem cb_at (left : Bool) : ∀ (n i : Nat) (h : i < (cb left n).length), (cb left n)[i] = ⟨0#64, 0#64, 0#64, 0#64, 0#64, left && decide (i + 1 < n), !left && decide (i + 1 < n)⟩
  | 0, i, h => by simp [cb] at h
  | n + 1, 0, h => by simp [cb]
  | n + 1, i + 1, h => by
    have := cb_at left n i (by simpa [cb] using h)
    simp only [cb, List.getElem_cons_succ, this]
    simp
set_option maxHeartbeats 4000000 in
theorem chain_any (left : Bool) (n : Nat) (hn : n ≤ 5000) (z : Int) (hz : z = (n : Int)) (w : World) : Calls Tryd.prog 22 #[.int .i64 z, .bool left] w fun e w' => ∃ A c, e = .returned (.slice A n c) ∧ LieB w' w'.heap.size A n c (cb left n) ∧ Below w.heap.size w w' := by
  subst hz
  obtain ⟨i0, hin, hz0, hz1, hz2⟩ := info_parts info_bead
  have hcl := Lib.hid (cb_len left n)
  go_enter Tryd.func22, Tryd.ntmps22
  go_wp2
  go_loopw [5, 6] (fun v i wr => ∃ k : Nat, k ≤ n ∧ i = .int .i64 k ∧ wr.ownsRow w.heap.size 44 7 v k (flat7 ((cb left n).take k)) ∧ Below w.heap.size w wr) (fun _ i _ => n - (intOf i).toNat)
  case atStart => exact ⟨0, Nat.zero_le _, rfl, World.ownsRow_nil _ _ _ _, Below.refl _ _⟩
  case round =>
    obtain ⟨k, hk, rfl, ho, hb⟩ := hrel
    obtain ⟨A1, c1, rfl, -, -, -⟩ := own_slice ho
    have ho' := Lib.hid ho
    have hb' := Lib.hid hb
    clear ho hb
    by_cases hlt : k < n
    · have hkl : k < (cb left n).length := by rw [hcl.out]; exact hlt
      have hat := Lib.hid (cb_at left n k hkl)
      obtain ⟨q, hq⟩ : ∃ q, decide (k + 1 < n) = q := ⟨_, rfl⟩
      have hq2 : decide ((k : Int) + 1 < (n : Int)) = q := by rw [← hq]; congr 1; exact propext (by omega)
      have hq' := Lib.hid hq
      clear hq
      have fin : Hid (∀ x y : Bool, (left && q) = x → (!left && q) = y → bdC (cb left n)[k] = [.int .i64 0, .int .i64 0, .int .i64 0, .int .i64 0, .int .u64 0, .bool x, .bool y]) := fun x y hx hy => by
        rw [hat.out, hq'.out, hx, hy]; rfl
      have htk : Hid (flat7 ((cb left n).take (k + 1)) = flat7 ((cb left n).take k) ++ bdC (cb left n)[k]) := by
        show _ = _
        rw [List.take_succ_eq_append_getElem hkl, flat7_append]; simp [flat7]
      have hcs : k + 1 ≤ 5000 := by omega
      cases left with
      | true =>
        have e9 := Lib.hid (fin.out q false (by simp) (by simp))
        clear fin hat
        go_wp2_with (first
          | ((with_reducible change wpList _ _ _ (⟨some 30, _, _, _, _, _⟩ :: _) _ _); refine wpList_append_own _ rfl _ _ 22 rfl w.heap.size 44 i0 (.agg #[.int .i64 0, .int .i64 0, .int .i64 0, .int .i64 0, .int .u64 0, .bool false, .bool false]) 7 48 Tryd.underlying22 hin hz0 hz1 hz2 rfl (by decide) (.slice A1 k c1) k (flat7 ((cb true n).take k)) rfl (ho'.out.alloc _) ⟨wr.heap.size, 0, none⟩ 1 1 [.int .i64 0, .int .i64 0, .int .i64 0, .int .i64 0, .int .u64 0, .bool q, .bool false] rfl rfl (fun j u hu => ((Has.new wr 44 #[.int .i64 0, .int .i64 0, .int .i64 0, .int .i64 0, .int .u64 0, .bool q, .bool false]).row.at_ hu).2) (by simp [Value.oneCell']) (by unfold maxLen; omega) (by omega) (by have := hb'.out.size; simp; omega) ?_
             intro v2 w2 ho2 hg2 _)
          | fail)
        have b2 : Hid (Below w.heap.size w w2) := (hb'.out.alloc hb'.out.size _).grown hg2 (by have := hb'.out.size; simp; omega) (fun j hj => (ho'.out.lt j hj).1)
        have o2 := Lib.hid ho2
        clear ho2 hg2
        go_roundw
        case rel => exact ⟨k + 1, by omega, by go_num, by rw [htk.out, e9.out]; exact o2.out, b2.out⟩
        case measure => simp [intOf]; omega
      | false =>
        have e9 := Lib.hid (fin.out false q (by simp) (by simp))
        clear fin hat
        go_wp2_with (first
          | ((with_reducible change wpList _ _ _ (⟨some 30, _, _, _, _, _⟩ :: _) _ _); refine wpList_append_own _ rfl _ _ 22 rfl w.heap.size 44 i0 (.agg #[.int .i64 0, .int .i64 0, .int .i64 0, .int .i64 0, .int .u64 0, .bool false, .bool false]) 7 48 Tryd.underlying22 hin hz0 hz1 hz2 rfl (by decide) (.slice A1 k c1) k (flat7 ((cb false n).take k)) rfl (ho'.out.alloc _) ⟨wr.heap.size, 0, none⟩ 1 1 [.int .i64 0, .int .i64 0, .int .i64 0, .int .i64 0, .int .u64 0, .bool false, .bool q] rfl rfl (fun j u hu => ((Has.new wr 44 #[.int .i64 0, .int .i64 0, .int .i64 0, .int .i64 0, .int .u64 0, .bool false, .bool q]).row.at_ hu).2) (by simp [Value.oneCell']) (by unfold maxLen; omega) (by omega) (by have := hb'.out.size; simp; omega) ?_
             intro v2 w2 ho2 hg2 _)
          | fail)
        have b2 : Hid (Below w.heap.size w w2) := (hb'.out.alloc hb'.out.size _).grown hg2 (by have := hb'.out.size; simp; omega) (fun j hj => (ho'.out.lt j hj).1)
        have o2 := Lib.hid ho2
        clear ho2 hg2
        go_roundw
        case rel => exact ⟨k + 1, by omega, by go_num, by rw [htk.out, e9.out]; exact o2.out, b2.out⟩
        case measure => simp [intOf]; omega
    · obtain rfl : k = n := by omega
      have o9 := ho'.out
      rw [List.take_of_length_le (by rw [hcl.out]; exact Nat.le_refl _)] at o9
      obtain ⟨A', c', e', hl⟩ := LieB.of_own hcl.out (by omega) o9
      cases e'
      have hl' := Lib.hid hl
      clear hl o9
      go_wp2
      go_ret
      exact ⟨A1, c1, rfl, hl'.out, hb'.out⟩
set_option maxHeartbeats 4000000 in
theorem shapeDeep_any (hN : NodeSays Nd) (hS : ShapeSays Nd T) (hX : TextSays T) (left : Bool) (w : World) (hT : T w) : Calls Tryd.prog 7 #[.bool left] w fun e w' => e = .returned (.bool true) ∧ Below w.heap.size w w' := by
  obtain ⟨m, hm⟩ : ∃ m : Nat, m = 4096 := ⟨_, rfl⟩
  obtain ⟨m1, hm1⟩ : ∃ m1 : Nat, m1 = 4097 := ⟨_, rfl⟩
  have c1 : Hid (∀ W, Calls Tryd.prog 22 #[.int .i64 4096, .bool left] W fun e w' => ∃ A c, e = .returned (.slice A m c) ∧ LieB w' w'.heap.size A m c (cb left m) ∧ Below W.heap.size W w') := fun W => chain_any left m (by omega) 4096 (by omega) W
  have c2 : Hid (∀ W, Calls Tryd.prog 22 #[.int .i64 4097, .bool left] W fun e w' => ∃ A c, e = .returned (.slice A m1 c) ∧ LieB w' w'.heap.size A m1 c (cb left m1) ∧ Below W.heap.size W w') := fun W => chain_any left m1 (by omega) 4097 (by omega) W
  obtain ⟨t, ht⟩ : ∃ t, ch left m = t := ⟨_, rfl⟩
  have hts : t.size = m := ht ▸ ch_size left m
  have hth : t.high = m := ht ▸ ch_high left m
  have c3 : Hid (∀ W A c, LieB W W.heap.size A m c (cb left m) → Calls Tryd.prog 17 #[.slice A m c] W (MadeTree Nd W (some t))) := fun W A c h => hS.make W A m c (cb left m) (some t) h (by omega) ⟨by rw [← ht]; exact (ch_pre left m).symm, by omega⟩
  have c4 : Hid (∀ W A c, LieB W W.heap.size A m1 c (cb left m1) → Calls Tryd.prog 17 #[.slice A m1 c] W (MadeTree Nd W none)) := fun W A c h => hS.make W A m1 c (cb left m1) none h (by omega) (fun u hu hh => by
    rw [pre_inj (hu.trans (ch_pre left m1)), ch_high] at hh
    omega)
  have c5 : Hid (∀ W p, Below w.heap.size w W → TreeAt Nd W W.heap.size t p → Calls Tryd.prog 14 #[.pointer p] W fun e w' => e = .returned (sV t.line) ∧ Below W.heap.size W w') := fun W p hb hp => hS.line W t p (hX.next hT hb) hp (by omega)
  have hll := line_len t
  have c6 : Hid (∀ W, Below w.heap.size w W → Calls Tryd.prog 20 #[sV t.line] W (MadeTree Nd W (some t))) := fun W hb => by
    have := hS.read W t.line (hX.next hT hb) (by omega) (fun u e => by rw [line_inj e]; omega)
    rw [(readL_is t.line t).2 ⟨rfl, by omega, by omega⟩] at this; exact this
  obtain ⟨z, hz⟩ : ∃ z, t.line = z := ⟨_, rfl⟩
  obtain ⟨z1, hz1⟩ : ∃ z1, [40] ++ z = z1 := ⟨_, rfl⟩
  obtain ⟨z2, hz2⟩ : ∃ z2, z1 ++ [32, 48, 58, 48, 32, 46, 41] = z2 := ⟨_, rfl⟩
  have hl2 : z2.length ≤ 400000 := by rw [← hz2, ← hz1, ← hz]; simp only [List.length_append, List.length_cons, List.length_nil]; omega
  have a1 := str_add Tryd.prog [40] z z1 hz1 (by rw [← hz1, ← hz]; simp only [List.length_append, List.length_cons, List.length_nil]; omega)
  have a2 := str_add Tryd.prog z1 [32, 48, 58, 48, 32, 46, 41] z2 hz2 (by omega)
  have h3 : (Tr.n t 0#64 0#64 0#64 .e).line = z2 := by
        rw [← hz2, ← hz1, ← hz]
        have hn0 : num 0#64 = [48] := by rw [num, Lib.itoa, if_neg (by decide), show (0#64 : BitVec 64).toInt.toNat = 0 by decide, Lib.decDigits_one (by decide)]; rfl
        simp [Tr.line, hn0, tagL]
  have h5z : ∀ u : Tr, u.line = z2 → u.size ≤ 5000 := fun u e => by
    rw [line_inj (e.trans h3.symm), Tr.size, Tr.size]; omega
  have hnone : readL z2 = none := by
    cases hr : readL z2 with
    | none => rfl
    | some u =>
      obtain ⟨h1, h2, _⟩ := (readL_is z2 u).1 hr
      rw [line_inj (h1.trans h3.symm), Tr.high] at h2
      omega
  have c7 : Hid (∀ W, Below w.heap.size w W → Calls Tryd.prog 20 #[sV z2] W (MadeTree Nd W none)) := fun W hb => by
    have := hS.read W z2 (hX.next hT hb) hl2 h5z
    rw [hnone] at this; exact this
  have c8 : Hid (∀ W p, TreeAt Nd W W.heap.size t p → Calls Tryd.prog 23 #[.pointer p] W fun e w' => e = .returned (.int .i64 4096) ∧ W = w') := fun W p hp => by
    cases t with
    | e => rw [Tr.size] at hts; omega
    | n l k v g r =>
      obtain ⟨a, pl, pr, rfl, hx, _, _⟩ := hp
      refine (hN.size W _ a _ hx).mono fun e w' h => ⟨h.1.trans ?_, h.2⟩
      rw [Tr.size] at hts
      show Ending.returned (K (BitVec.ofNat 64 (1 + l.size + r.size))) = _
      rw [hts, hm]; rfl
  have cA : Hid (∀ W, Below w.heap.size w W → Calls Tryd.prog 9 #[] W fun e w' => e = .returned (.bool true) ∧ Below W.heap.size W w') := fun W hb => alive11_any hN hS hX W (hX.next hT hb)
  rw [hz] at c5 c6
  have hN' := Lib.hid hN
  clear hN hS hX hT hts hth ht hll hz hz1 hz2 hl2 hnone hm hm1 h3 h5z
  have b_0 := Lib.hid (Below.refl w.heap.size w)
  go_enter Tryd.func7, Tryd.ntmps7
  go_wp2_with fail
  refine (c1.out w).mono ?_
  rintro e w_1 ⟨A1, k1, rfl, hl, hb⟩
  have L_1 := Lib.hid hl
  have b_1 := Lib.hid (Below.after b_0.out hb)
  clear hb b_0 hl
  go_wp2_with fail
  refine (c3.out w_1 A1 k1 L_1.out).mono ?_
  rintro e w_2 ⟨p, rfl, hp, hb⟩
  have P_2 := Lib.hid hp
  have b_2 := Lib.hid (Below.after b_1.out hb)
  clear hb b_1 hp
  go_wp2_with fail
  refine (c2.out w_2).mono ?_
  rintro e w_3 ⟨A2, k2, rfl, hl, hb⟩
  have P_3 := Lib.hid (P_2.out.after hN'.out hb)
  have L_3 := Lib.hid hl
  have b_3 := Lib.hid (Below.after b_2.out hb)
  clear hb b_2 P_2 hl
  go_wp2_with fail
  refine (c4.out w_3 A2 k2 L_3.out).mono ?_
  rintro e w_4 ⟨rfl, hb⟩
  have P_4 := Lib.hid (P_3.out.after hN'.out hb)
  have b_4 := Lib.hid (Below.after b_3.out hb)
  clear hb b_3 P_3
  go_wp2_with fail
  refine (c5.out w_4 p b_4.out P_4.out).mono ?_
  rintro e w_5 ⟨rfl, hb⟩
  have P_5 := Lib.hid (P_4.out.after hN'.out hb)
  have b_5 := Lib.hid (Below.after b_4.out hb)
  clear hb b_4 P_4
  go_wp2_with fail
  refine (c6.out w_5 b_5.out).mono ?_
  rintro e w_6 ⟨q, rfl, hq, hb⟩
  have P_6 := Lib.hid (P_5.out.after hN'.out hb)
  have Q_6 := Lib.hid hq
  have b_6 := Lib.hid (Below.after b_5.out hb)
  clear hb b_5 P_5 hq
  go_wp2_with fail
  refine (c7.out w_6 b_6.out).mono ?_
  rintro e w_7 ⟨rfl, hb⟩
  have P_7 := Lib.hid (P_6.out.after hN'.out hb)
  have Q_7 := Lib.hid (Q_6.out.after hN'.out hb)
  have b_7 := Lib.hid (Below.after b_6.out hb)
  clear hb b_6 P_6 Q_6
  go_wp2_with fail
  refine (c8.out w_7 p P_7.out).mono ?_
  rintro e w' ⟨rfl, rfl⟩
  go_wp2_with fail
  refine (c8.out w_7 q Q_7.out).mono ?_
  rintro e w' ⟨rfl, rfl⟩
  go_wp2_with fail
  refine (cA.out w_7 b_7.out).mono ?_
  rintro e w_8 ⟨rfl, hb⟩
  have b_8 := Lib.hid (Below.after b_7.out hb)
  clear hb b_7
  go_wp2
  go_ret
  exact ⟨rfl, b_8.out⟩
end Go.Proofs.YtlhnjgmjkoafpaaDoor
