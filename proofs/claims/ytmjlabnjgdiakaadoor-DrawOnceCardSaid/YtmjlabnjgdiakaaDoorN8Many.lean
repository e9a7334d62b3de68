/- Package draw, as it landed: Many. -/
import Derived.Test.YtmjlabnjgdiakaaDoorN8Tell
import Derived.Deep.OwnRows
namespace Go.Proofs.YtmjlabnjgdiakaaDoor
open Go.RowKit Go.Proofs.Mixm
set_option maxRecDepth 100000

/-- the numbers drawn for the first q keys, and zeros behind them -/
def mixD (ks l : List (BitVec 64)) (q n : Nat) : List (BitVec 64) := Drawm.many (ks.take q) l ++ List.replicate (n - q) 0#64
theorem mixD_len (ks l : List (BitVec 64)) (q n : Nat) (hq : q ≤ n) (hn : ks.length = n) : (mixD ks l q n).length = n := by
  simp [mixD, Drawm.many_len]; omega
theorem mixD_none (ks l : List (BitVec 64)) (n : Nat) : mixD ks l 0 n = List.replicate n 0#64 := by simp [mixD, Drawm.many]
theorem mixD_all (ks l : List (BitVec 64)) (n : Nat) (hn : ks.length = n) : mixD ks l n n = Drawm.many ks l := by
  subst hn; simp [mixD]
theorem mixD_at (ks l : List (BitVec 64)) (q n : Nat) (hq : q < n) (hn : ks.length = n) : (mixD ks l q n)[q]? = some 0#64 := by
  have h1 : (Drawm.many (ks.take q) l).length = q := by simp [Drawm.many_len]; omega
  rw [mixD, List.getElem?_append_right (by omega), h1, Nat.sub_self, List.getElem?_replicate, if_pos (by omega)]
theorem mixD_set (ks l : List (BitVec 64)) (q n : Nat) (hq : q < ks.length) (hn : ks.length = n) : (mixD ks l q n).set q (Drawm.out ks[q] (l.drop q)) = mixD ks l (q + 1) n := by
  have h1 : (Drawm.many (ks.take q) l).length = q := by simp [Drawm.many_len]; omega
  rw [mixD, mixD, Drawm.many_next ks l q hq, List.set_append_right _ _ (by omega), h1, Nat.sub_self, show n - q = (n - (q + 1)) + 1 by omega, List.replicate_succ, List.set_cons_zero, List.append_assoc]
  rfl
theorem zerosD (n : Nat) : (madeCells #[Value.int .u64 0] n) = ((List.replicate n 0#64).map V).toArray := by
  apply Array.ext
  · rw [size_madeCells]; simp
  · intro i h1 h2
    simp [madeCells, V, Nat.mod_one]

set_option maxHeartbeats 4000000 in
theorem many_some (w : World) (B : Nat) (S : Nat → Prop) (a : Addr) (A : Option Addr) (n c : Nat) (ks l : List (BitVec 64)) (hB : B ≤ w.heap.size) (hSB : ∀ i, S i → B ≤ i) (h0 : 0 < B) (hs : Steps w) (hk : LieU w B A n c (ks.map K)) (hd : NDr w S a l)
    (hN : ∀ (w : World) (S : Nat → Prop) (k : BitVec 64) (l : List (BitVec 64)), 0 < w.heap.size → Steps w → NDr w S a l → Calls Tryd.prog 9 #[.pointer (some a), K k] w fun e w' => ∃ S', e = .returned (V (Drawm.out k l)) ∧ (∀ i, S' i → S i ∨ w.heap.size ≤ i) ∧ NDr w' S' a l.tail ∧ But S w w') :
    Calls Tryd.prog 13 #[.pointer (some a), .slice A n c] w fun e w' => ∃ S' v, e = .returned v ∧ (∀ i, S' i → S i ∨ w.heap.size ≤ i) ∧ NDr w' S' a (l.drop n) ∧ w'.ownsRow w.heap.size 30 1 v n ((Drawm.many ks l).map V) ∧ (∀ i, v.ownBlock = some i → ¬ S' i) ∧ But S w w' := by
  have hkl : ks.length = n := by have := hk.len; rwa [List.length_map] at this
  have hf := hk.few
  have hnc := hk.cap
  have hcm := hk.max
  have hlt : ∀ i, S i → i < w.heap.size := by obtain ⟨_, _, _, _, _, _, _, _, h, _⟩ := hd; exact h
  have hmk := fun W => run_make_row' (P := Tryd.prog) 22 30 (.int .u64 0) 8 Tryd.underlying22 info_u64 rfl .i64 .i64 n (by omega) (by omega) W
  obtain ⟨Z, hZ⟩ : ∃ Z, ((List.replicate n 0#64).map V).toArray = Z := ⟨_, rfl⟩
  simp only [zerosD, hZ] at hmk
  have hk' := Lib.hid hk
  have hs' := Lib.hid hs
  have hSB' := Lib.hid hSB
  have hlt' := Lib.hid hlt
  have hN' := Lib.hid hN
  have hb1 := Lib.hid ((Below.refl w.heap.size w).alloc (Nat.le_refl _) (.cells Z 30))
  have hd1 := Lib.hid (ndr_keep hd (fun i hi => hb1.out.block i (hlt i hi)))
  have hh1 := Lib.hid (Has.new w 30 Z)
  have hkl' := Lib.hid hkl
  clear hk hs hSB hlt hd hN hkl
  go_enter Tryd.func13, Tryd.ntmps13
  go_wp2
  go_loopw [13] (fun i wr => ∃ (k : Nat) (S' : Nat → Prop), k ≤ n ∧ i = .int .i64 k ∧ (∀ j, S' j → S j ∨ w.heap.size ≤ j) ∧ ¬ S' w.heap.size ∧ NDr wr S' a (l.drop k) ∧ Has wr w.heap.size 30 ((mixD ks l k n).map V).toArray ∧ But S w wr ∧ w.heap.size < wr.heap.size) (fun i _ => n - (intOf i).toNat)
  case atStart => exact ⟨0, S, Nat.zero_le _, rfl, fun j hj => .inl hj, fun h => absurd (hlt'.out _ h) (Nat.lt_irrefl _), hd1.out, by rw [mixD_none, hZ]; exact hh1.out, But.of_below hb1.out, hh1.out.lt⟩
  case round =>
    obtain ⟨k, S', hkn, rfl, hS, hnS, hd, hh, hbut, hsz⟩ := hrel
    have s0 := Lib.hid hS
    have n0 := Lib.hid hnS
    have d0 := Lib.hid hd
    have g0 := Lib.hid hh
    have b0 := Lib.hid hbut
    clear hS hnS hd hh hbut
    by_cases hlk : k < n
    · have hkl : k < ks.length := by rw [hkl'.out]; exact hlk
      have bB := Lib.hid (b0.out.below hB hSB'.out)
      obtain ⟨ad, rfl, had, hcell⟩ := (hk'.out.next bB.out).row k (K ks[k]) (by rw [List.getElem?_map, List.getElem?_eq_getElem hkl]; rfl)
      have hset : Hid (((mixD ks l k n).map V).set k (V (Drawm.out ks[k] (l.drop k))) = (mixD ks l (k + 1) n).map V) := by
        show ((mixD ks l k n).map V).set k (V (Drawm.out ks[k] (l.drop k))) = (mixD ks l (k + 1) n).map V
        rw [← List.map_set, mixD_set ks l k n hkl hkl'.out]
      have htail : (l.drop k).tail = l.drop (k + 1) := Drawm.tail_drop l k
      have hx := hN'.out wr S' ks[k] (l.drop k) (Nat.lt_of_lt_of_le h0 (Nat.le_trans hB b0.out.size)) (steps_at h0 hs'.out bB.out) d0.out
      rw [htail] at hx
      obtain ⟨x, hxe⟩ : ∃ x, Drawm.out ks[k] (l.drop k) = x := ⟨_, rfl⟩
      rw [hxe] at hx hset
      obtain ⟨y, hye⟩ : ∃ y, ks[k] = y := ⟨_, rfl⟩
      rw [hye] at hx hcell
      have hx' := Lib.hid hx
      have hkk : (k : Int) < (n : Int) := by omega
      clear hx htail hxe hye had
      go_wp2_with fail
      refine hx'.out.mono ?_
      rintro e w2 ⟨S2, rfl, hS2, hd2, hbut2⟩
      have g2 : Hid (Has w2 w.heap.size 30 ((mixD ks l k n).map V).toArray) := (hbut2.block _ hsz n0.out).trans g0.out
      have s2 : Hid (∀ j, S2 j → S j ∨ w.heap.size ≤ j) := fun j hj => (hS2 j hj).elim (s0.out j) fun h => .inr (by omega)
      have n2 : Hid (¬ S2 w.heap.size) := fun h => (hS2 _ h).elim n0.out (fun h2 => by omega)
      have d2 := Lib.hid hd2
      have b2 : Hid (But S w w2) := b0.out.trans hbut2 s0.out
      have z2 : w.heap.size < w2.heap.size := Nat.lt_of_lt_of_le hsz hbut2.size
      have c0 : w2.cell? ⟨w.heap.size, k, none⟩ = some (V 0#64) := by rw [g2.out.cell k]; simp [mixD_at ks l k n hlk hkl'.out]
      have f0 := g2.out.free k
      have gN : Hid (Has (w2.setCell ⟨w.heap.size, k, none⟩ (V x)) w.heap.size 30 ((mixD ks l (k + 1) n).map V).toArray) := by
        have := g2.out.set k (V x)
        rw [List.setIfInBounds_toArray, hset.out] at this
        exact this
      clear hS2 hd2 hbut2 hx' g0 s0 n0 d0 b0 hsz bB
      go_wp2
      go_roundw
      case rel =>
        have hfar : ∀ i, i ≠ w.heap.size → (w2.setCell ⟨w.heap.size, k, none⟩ (V x)).heap[i]? = w2.heap[i]? := fun i hi => Below.heap_setCell w2 ⟨w.heap.size, k, none⟩ _ i hi
        refine ⟨k + 1, S2, by omega, by go_num, s2.out, n2.out, ndr_keep d2.out (fun i hi => hfar i (fun e => n2.out (e ▸ hi))), gN.out, ?_, by simpa using z2⟩
        have b := b2.out
        exact ⟨b.os, b.tape, b.output, by simpa using b.size, fun i hi hn => (hfar i (by omega)).trans (b.block i hi hn)⟩
      case measure => simp [intOf]; omega
    · obtain rfl : k = n := by omega
      have hall := mixD_all ks l k hkl'.out
      rw [hall] at g0
      go_wp2
      go_ret
      refine ⟨S', _, rfl, s0.out, d0.out, ⟨by rw [List.length_map, Drawm.many_len, hkl'.out, Nat.mul_one], .inr ⟨w.heap.size, k, _, rfl, Nat.le_refl _, g0.out, Nat.le_refl _, by omega, by simp [Drawm.many_len, hkl'.out], by rw [List.take_of_length_le (by simp [Drawm.many_len, hkl'.out])]⟩⟩, fun i hi => ?_, b0.out⟩
      simp [Value.ownBlock] at hi
      exact hi ▸ n0.out
set_option maxHeartbeats 4000000 in
theorem many_nil (w : World) (A : Option Addr) (n c : Nat) (ks : List (BitVec 64)) (h0 : 0 < w.heap.size) (hs : Steps w) (hk : LieU w w.heap.size A n c (ks.map K)) :
    Calls Tryd.prog 13 #[.pointer none, .slice A n c] w fun e w' => ∃ v, e = .returned v ∧ w'.ownsRow w.heap.size 30 1 v n ((ks.map Drawm.own).map V) ∧ Below w.heap.size w w' := by
  have hkl : ks.length = n := by have := hk.len; rwa [List.length_map] at this
  have hf := hk.few
  have hnc := hk.cap
  have hcm := hk.max
  have hmk := fun W => run_make_row' (P := Tryd.prog) 22 30 (.int .u64 0) 8 Tryd.underlying22 info_u64 rfl .i64 .i64 n (by omega) (by omega) W
  obtain ⟨Z, hZ⟩ : ∃ Z, ((List.replicate n 0#64).map V).toArray = Z := ⟨_, rfl⟩
  simp only [zerosD, hZ] at hmk
  have hk' := Lib.hid hk
  have hs' := Lib.hid hs
  have hb1 := Lib.hid ((Below.refl w.heap.size w).alloc (Nat.le_refl _) (.cells Z 30))
  have hh1 := Lib.hid (Has.new w 30 Z)
  have hkl' := Lib.hid hkl
  clear hk hs hkl
  go_enter Tryd.func13, Tryd.ntmps13
  go_wp2
  go_loopw [13] (fun i wr => ∃ (k : Nat), k ≤ n ∧ i = .int .i64 k ∧ Has wr w.heap.size 30 ((mixD ks [] k n).map V).toArray ∧ Below w.heap.size w wr ∧ w.heap.size < wr.heap.size) (fun i _ => n - (intOf i).toNat)
  case atStart => exact ⟨0, Nat.zero_le _, rfl, by rw [mixD_none, hZ]; exact hh1.out, hb1.out, hh1.out.lt⟩
  case round =>
    obtain ⟨k, hkn, rfl, hh, hbut, hsz⟩ := hrel
    have g0 := Lib.hid hh
    have b0 := Lib.hid hbut
    clear hh hbut
    by_cases hlk : k < n
    · have hkl : k < ks.length := by rw [hkl'.out]; exact hlk
      obtain ⟨ad, rfl, had, hcell⟩ := (hk'.out.next b0.out).row k (K ks[k]) (by rw [List.getElem?_map, List.getElem?_eq_getElem hkl]; rfl)
      have hset : Hid (((mixD ks [] k n).map V).set k (V (Drawm.own ks[k])) = (mixD ks [] (k + 1) n).map V) := by
        show ((mixD ks [] k n).map V).set k (V (Drawm.own ks[k])) = (mixD ks [] (k + 1) n).map V
        rw [← mixD_set ks [] k n hkl hkl'.out, List.map_set, List.drop_nil]; rfl
      have hx := next_nil wr ks[k] (Nat.lt_of_lt_of_le h0 b0.out.size) (steps_at h0 hs'.out b0.out)
      obtain ⟨x, hxe⟩ : ∃ x, Drawm.own ks[k] = x := ⟨_, rfl⟩
      rw [hxe] at hx hset
      obtain ⟨y, hye⟩ : ∃ y, ks[k] = y := ⟨_, rfl⟩
      rw [hye] at hx hcell
      have hx' := Lib.hid hx
      have hkk : (k : Int) < (n : Int) := by omega
      clear hx hxe hye had
      go_wp2_with fail
      refine hx'.out.mono ?_
      rintro e w2 ⟨rfl, hb2⟩
      have g2 := Lib.hid (g0.out.next hb2)
      have b2 := Lib.hid (Below.after b0.out hb2)
      have z2 : w.heap.size < w2.heap.size := Nat.lt_of_lt_of_le hsz hb2.size
      have c0 : w2.cell? ⟨w.heap.size, k, none⟩ = some (V 0#64) := by rw [g2.out.cell k]; simp [mixD_at ks [] k n hlk hkl'.out]
      have f0 := g2.out.free k
      have gN : Hid (Has (w2.setCell ⟨w.heap.size, k, none⟩ (V x)) w.heap.size 30 ((mixD ks [] (k + 1) n).map V).toArray) := by
        have := g2.out.set k (V x)
        rw [List.setIfInBounds_toArray, hset.out] at this
        exact this
      clear hb2 hx' g0 b0 hsz
      go_wp2
      go_roundw
      case rel => exact ⟨k + 1, by omega, by go_num, gN.out, b2.out.setCell (p := ⟨w.heap.size, k, none⟩) (Nat.le_refl _) (V x), by simpa using z2⟩
      case measure => simp [intOf]; omega
    · obtain rfl : k = n := by omega
      have hall := mixD_all ks [] k hkl'.out
      rw [hall, Drawm.many_none] at g0
      go_wp2
      go_ret
      exact ⟨_, rfl, ⟨by rw [List.length_map, List.length_map, hkl'.out, Nat.mul_one], .inr ⟨w.heap.size, k, _, rfl, Nat.le_refl _, g0.out, Nat.le_refl _, by omega, by simp [hkl'.out], by rw [List.take_of_length_le (by simp [hkl'.out])]⟩⟩, b0.out⟩
end Go.Proofs.YtmjlabnjgdiakaaDoor
