/- Package nat, as it landed: slices.Clone of a number, groupsOf. -/
import Derived.Test.YtmndfncogkjjpaaDoorN7Div
import Derived.Lib.LazyBuf
namespace Go.Proofs.YtmndfncogkjjpaaDoor
open Go.RowKit Go.Proofs.Natm
set_option maxRecDepth 100000

set_option maxHeartbeats 1000000 in
theorem clone_any (ad : Addr) (n c : Nat) (l : List Nat) (w : World) (h : LieW w (some ad) n c l) : Calls Tryd.prog 44 #[.slice (some ad) n c] w fun e w' => ∃ v, e = .returned v ∧ w'.ownsRow w.heap.size 42 1 v n (l.map U) ∧ Below w.heap.size w w' := by
  obtain ⟨i0, hi, hz0, hz1, hz2⟩ := info_parts info_u32
  have h' := Lib.hid h
  have hf := h.lie.few
  have hnil : ∀ W, (binOp .eql 23 (.slice (some ad) n c) (.slice none 0 0)).run Tryd.prog W = .ok (.bool false) W := fun W => Go.run_eql_slice_nil (P := Tryd.prog) W 23 42 (some ad) n c Tryd.underlying23
  have hE : Hid ((w.alloc (.cells #[] 42)).ownsRow w.heap.size 42 1 (.slice (some ⟨w.heap.size, 0, none⟩) 0 0) 0 []) := ⟨rfl, .inr ⟨w.heap.size, 0, #[], rfl, Nat.le_refl _, Has.new w 42 #[], Nat.le_refl _, Nat.zero_le _, rfl, rfl⟩⟩
  have hb0 := Lib.hid ((Below.refl w.heap.size w).alloc (Nat.le_refl _) (.cells #[] 42))
  have hr := Lib.hid (h'.out.lie.next hb0.out)
  clear h
  go_enter Tryd.func44, Tryd.ntmps44
  go_wp2_with (at_builtin; refine wpList_append_row rfl _ _ 23 rfl w.heap.size 42 i0 (.int .u32 0) 1 4 Tryd.underlying23 hi hz0 hz1 hz2 rfl (by decide) _ 0 [] rfl hE.out (some ad) n c (l.map U) rfl hr.out.nil hr.out.cap ?c1 _ hr.out.row (words_one l) (by unfold maxLen; omega) (by omega) hb0.out.size ?_)
  case c1 => rw [hr.out.len, Nat.mul_one]
  intro v w1 hown hgrow
  have o1 : w1.ownsRow w.heap.size 42 1 v n (l.map U) := by simpa using hown
  have o2 := Lib.hid o1
  have b1 := Lib.hid (hb0.out.grown hgrow hb0.out.size (fun r e => (hE.out.lt r e).1))
  clear hown hgrow o1
  go_wp2
  go_ret
  exact ⟨_, rfl, o2.out, b1.out⟩

theorem own_cut {w : World} {base g n cap : Nat} {e : TypeId} {xs : List Value} (h : w.ownsRow base e 1 (.slice (some ⟨g, 0, none⟩) n cap) n xs) (k : Nat) (hk : k ≤ n) : w.ownsRow base e 1 (.slice (some ⟨g, 0, none⟩) k cap) k (xs.take k) := by
  obtain ⟨h1, h2⟩ := h
  refine ⟨by rw [List.length_take]; omega, .inr ?_⟩
  rcases h2 with ⟨h2, _⟩ | ⟨g', cap', cur, e1, hg, hh, hn, hm, hs, ht⟩
  · cases h2
  · cases e1
    refine ⟨g, cap, cur, rfl, hg, hh, Nat.le_trans hk hn, hm, hs, ?_⟩
    rw [← ht, List.take_take]
    congr 1
    omega
/-- an own row of a later base, while one elder block is written to; an elder one, while a later one is -/
theorem own_but {w w' : World} {base n g : Nat} {e : TypeId} {size : Nat} {v : Value} {xs : List Value} (h : w.ownsRow base e size v n xs) (hg : w.grownBy w' (some g)) (hlt : g < base) : w'.ownsRow base e size v n xs := h.kept hg (by
  cases hu : v.ownBlock with
  | none => exact .inl rfl
  | some b => exact .inr fun e => by have h5 := (h.lt b hu).1; injection e with e; omega)
theorem own_elder {w w' : World} {base base' n m g : Nat} {e : TypeId} {size : Nat} {xs : List Value} {row : Option Nat} (h : w.ownsRow base e size (.slice (some ⟨g, 0, none⟩) n m) n xs) (hg : w.grownBy w' row) (hr : ∀ b, row = some b → base' ≤ b) (hlt : g < base') : w'.ownsRow base e size (.slice (some ⟨g, 0, none⟩) n m) n xs := h.kept hg (.inr fun e => by have h5 := hr g e.symm; omega)
theorem group_more {N i : Nat} (h : N / Gr ^ i ≠ 0) : i < Natm.size Gr N := by
  rcases Nat.lt_or_ge i (Natm.size Gr N) with h1 | h1
  · exact h1
  · exact absurd (beyond (by decide) h1) h
theorem group_done {N i : Nat} (h : N / Gr ^ i = 0) (hi : i ≤ Natm.size Gr N) : i = Natm.size Gr N := by
  have h1 : N < Gr ^ i := by
    rcases Nat.lt_or_ge N (Gr ^ i) with h3 | h3
    · exact h3
    · exfalso; have := Nat.div_pos h3 (Nat.pow_pos (by decide)); omega
  have := size_le (B := Gr) (by decide) h1
  omega
theorem group_few {N n : Nat} (h : N < Wd ^ n) : Natm.size Gr N ≤ 2 * n := by
  refine size_le (by decide) (Nat.lt_of_lt_of_le h ?_)
  refine Nat.le_trans (Nat.pow_le_pow_left (show Wd ≤ Gr ^ 2 by decide) n) ?_
  rw [← Nat.pow_mul]
  exact Nat.le_refl _

set_option maxHeartbeats 4000000 in
theorem groups_any (ad : Addr) (n c N q : Nat) (hN : Natm.size Wd N = n) (hn : n ≤ 128) (h0 : 0 < n) (hq : Natm.size Gr N = q) (w : World) (h : LieW w (some ad) n c (dig Wd N)) : Calls Tryd.prog 35 #[.slice (some ad) n c] w (MadeV w q ((digs Gr N q).map U)) := by
  obtain ⟨i0, hi, hz0, hz1, hz2⟩ := info_parts info_u32
  have lt := lt_size (B := Wd) (by decide) N
  rw [hN] at lt
  have hq2 := group_few lt
  rw [hq] at hq2
  have hC := Lib.hid (clone_any ad n c (dig Wd N) w h)
  have hq' := Lib.hid hq
  have hN' := Lib.hid hN
  clear h lt hN hq
  go_enter Tryd.func35, Tryd.ntmps35
  go_wp2_with fail
  refine hC.out.mono ?_
  rintro e w1 ⟨v1, rfl, ho, hb⟩
  have o1 := Lib.hid ho
  have b1 := Lib.hid hb
  clear ho hb
  obtain ⟨g, cap, rfl, hgb, hgl, hnc, hcm, _, _⟩ := own_form o1.out h0
  go_wp2
  go_loopw [3, 4] (fun u v wr => ∃ (i V j : Nat), i ≤ q ∧ N / Gr ^ i = V ∧ Natm.size Wd V = j ∧ j ≤ 128 ∧ lenV u = i ∧ v = .slice (some ⟨g, 0, none⟩) j cap ∧ wr.ownsRow w.heap.size 42 1 v j ((dig Wd V).map U) ∧ wr.ownsRow w1.heap.size 42 1 u i ((digs Gr N i).map U) ∧ Below w.heap.size w wr ∧ w1.heap.size ≤ wr.heap.size) (fun u _ _ => q + 1 - lenV u)
  case atStart => exact ⟨0, N, n, Nat.zero_le _, by simp, hN'.out, hn, rfl, rfl, o1.out, World.ownsRow_nil _ _ _ _, b1.out, Nat.le_refl _⟩
  case round =>
    obtain ⟨i, V, j, hiq, hV, hj, hj9, hui, rfl, hown, hgr, hb, hsz⟩ := hrel
    have oV := Lib.hid hown
    have oG := Lib.hid hgr
    have b2 := Lib.hid hb
    clear hown hgr hb
    rcases Nat.eq_zero_or_pos j with hj0 | hj0
    · have hV0 : V = 0 := by
        rcases Nat.eq_zero_or_pos V with h | h
        · exact h
        · rw [size_pos (by decide) (by omega)] at hj; omega
      have hiq2 : i = q := by rw [← hq'.out]; exact group_done (by rw [hV, hV0]) (by rw [hq'.out]; exact hiq)
      subst hiq2
      obtain ⟨A, cc, rfl, hL, hab⟩ := LieV.of_own (by rw [List.length_map, digs_len]) (by omega) oG.out
      have l2 := Lib.hid hL
      have a2 := Lib.hid (fun ad e => Nat.le_trans b1.out.size (hab ad e))
      have hlt : ¬ 0 < j := by omega
      clear hL hab hV hj
      go_wp2
      go_ret
      exact ⟨_, _, rfl, l2.out, a2.out, b2.out⟩
    · have hVlt : V < Wd ^ j := by rw [← hj]; exact lt_size (by decide) V
      have hdig : dig Wd V = digs Wd V j := by unfold dig; rw [hj]
      have oV2 := Lib.hid (hdig ▸ oV.out)
      have hD := Lib.hid (divide_any w.heap.size g cap j V hj0 (by omega) wr oV2.out hVlt)
      have hV2 : V / Gr < Wd ^ j := Nat.lt_of_le_of_lt (Nat.div_le_self _ _) hVlt
      have hne : N / Gr ^ i ≠ 0 := by
        rw [hV]
        intro h
        rw [h, size_zero] at hj
        omega
      have hiq2 : i < q := by rw [← hq'.out]; exact group_more hne
      obtain ⟨r, hr⟩ : ∃ r, V % Gr = r := ⟨_, rfl⟩
      rw [hr] at hD
      have r9 : r < 4294967296 := Nat.lt_trans (hr ▸ Nat.mod_lt V (show 0 < Gr by decide)) (by decide)
      have hnx : Hid (digs Gr N (i + 1) = digs Gr N i ++ [r]) := by show digs Gr N (i + 1) = digs Gr N i ++ [r]; rw [digs_next, hV, hr]
      have hVn : Hid (N / Gr ^ (i + 1) = V / Gr) := by show N / Gr ^ (i + 1) = V / Gr; rw [Nat.pow_succ, ← Nat.div_div_eq_div_mul, hV]
      have hj' := Lib.hid hj
      have hV2' := Lib.hid hV2
      have hjn : (0 : Int) < (j : Int) := by omega
      clear hdig hne hr hV hVlt hj hV2
      go_wp2_with fail
      refine hD.out.mono ?_
      rintro e w3 ⟨rfl, ho3, hg3⟩
      have o3 := Lib.hid ho3
      have q3 := Lib.hid hg3
      have oG3 := Lib.hid (own_but oG.out hg3 hgl)
      have b3 := Lib.hid (b2.out.grown hg3 b2.out.size (fun r e => by cases e; exact hgb))
      have s3 : w1.heap.size ≤ w3.heap.size := Nat.le_trans hsz hg3.size
      clear ho3 hg3
      go_wp2_with (at_builtin; refine wpList_append_row rfl _ _ 22 rfl w1.heap.size 42 i0 (.int .u32 0) 1 4 Tryd.underlying22 hi hz0 hz1 hz2 rfl (by decide) _ i _ rfl (oG3.out.alloc _) (some ⟨w3.heap.size, 0, none⟩) 1 1 [U r] rfl (by simp) (Nat.le_refl _) rfl _ (Has.new w3 42 #[U r]).row (words_one [r]) (by unfold maxLen; omega) (by omega) (by simp; omega) ?_)
      intro v' w4 hown hgrow
      have oG4 := Lib.hid hown
      have o4 := Lib.hid (own_elder (base' := w1.heap.size) (o3.out.alloc _) hgrow (fun b hb => (oG3.out.lt b hb).1) hgl)
      have b4 := Lib.hid ((b3.out.alloc b3.out.size (.cells #[U r] 42)).grown hgrow (by have := b3.out.size; simp; omega) (fun b hb => Nat.le_trans b1.out.size (oG3.out.lt b hb).1))
      have s4 : w1.heap.size ≤ w4.heap.size := by have := hgrow.size; simp at this; omega
      clear hown hgrow
      obtain ⟨_, _, he, hL, _⟩ := LieV.of_own (by rw [List.length_map, digs_len]) (by omega) o4.out
      cases he
      have hT := Lib.hid (trimmed_digs _ j cap (V / Gr) hV2'.out w4 hL)
      obtain ⟨j2, hj2⟩ : ∃ j2, Natm.size Wd (V / Gr) = j2 := ⟨_, rfl⟩
      have hj2j : j2 ≤ j := by rw [← hj2]; exact size_le (by decide) hV2'.out
      have o5 := own_cut o4.out j2 hj2j
      rw [← List.map_take, digs_take _ _ _ _ hj2j] at o5
      have hd2 : digs Wd (V / Gr) j2 = dig Wd (V / Gr) := by unfold dig; rw [hj2]
      rw [hd2] at o5
      have o6 := Lib.hid o5
      rw [hj2] at hT
      have hj2' := Lib.hid hj2
      clear hL hd2 o5 hj2
      go_wp2_with fail
      refine hT.out.mono ?_
      rintro e w5 ⟨rfl, rfl⟩
      have hv : Hid (lenV v' = i + 1) := by
        rcases oG4.out.2 with ⟨_, h5⟩ | ⟨_, _, _, h5, _⟩
        · omega
        · show lenV v' = i + 1; rw [h5]; rfl
      have hui' := Lib.hid hui
      clear hui
      go_wp2
      go_roundw
      case rel => exact ⟨i + 1, V / Gr, j2, by omega, hVn.out, hj2'.out, by omega, hv.out, rfl, o6.out, by rw [hnx.out, List.map_append]; exact oG4.out, b4.out, s4⟩
      case measure =>
        have h5 := hv.out
        have h6 := hui'.out
        simp [h5, h6]
        omega
end Go.Proofs.YtmndfncogkjjpaaDoor
