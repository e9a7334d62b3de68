/- The contracts of Keep and Split of package sift. -/
import Derived.Test.YtjjhmenkgcldeaaL6May
namespace Go.Proofs.Ytjjhmenkgcldeaa
open Go.RowKit Go.Shelf Go.Proofs.Rowm Go.Proofs.Siftm

/-- a slice of pairs that lies there -/
structure Lies (W : World) (A : Option Addr) (n c : Nat) (l : List Pr) : Prop where
  len : l.length = n
  few : n ≤ 900
  cap : n ≤ c
  nil : A = none → c = 0
  row : Row W W.heap.size A (flat l)
theorem Lies.next {W W' : World} {A : Option Addr} {n c : Nat} {l : List Pr} (h : Lies W A n c l) (hb : Below W.heap.size W W') : Lies W' A n c l := ⟨h.len, h.few, h.cap, h.nil, h.row.next hb⟩
theorem Lies.of_own {W : World} {base n : Nat} {v : Value} {l : List Pr} (hl : l.length = n) (h9 : n ≤ 900) (h : W.ownsRow base 25 2 v n (flat l)) : ∃ A c, v = .slice A n c ∧ Lies W A n c l ∧ (∀ ad, A = some ad → base ≤ ad.block) := by
  obtain ⟨A', c', rfl, k1, _, k3⟩ := own_slice h
  exact ⟨_, _, rfl, ⟨hl, h9, k1, k3, Row.of_own h⟩, fun ad e => (h.lt ad.block (by rw [e]; rfl)).1⟩
/-- a store at a block that lies elsewhere -/
theorem Lies.far {W : World} {A : Option Addr} {n c : Nat} {l : List Pr} (h : Lies W A n c l) {p : Addr} (hp : ∀ ad, A = some ad → p.block < ad.block) (u : Value) : Lies (W.setCell p u) A n c l :=
  ⟨h.len, h.few, h.cap, h.nil, fun j v hv => by
    obtain ⟨ad, e, hb, hc⟩ := h.row j v hv
    refine ⟨ad, e, by simpa using hb, ?_⟩
    rw [World.cell?_setCell_other _ _ _ _ (fun q => by have := hp ad e; have h2 := add_block ad j; rw [q] at this; omega)]
    exact hc⟩
/-- a call that makes a slice, and tells whether it could -/
def KeptH (W : World) (m : Nat) (l : List Pr) (e : Ending) (w' : World) : Prop :=
  ∃ A c, e = .returned (.tuple #[.slice A m c, .int .i64 0]) ∧ Lies w' A m c l ∧ (∀ ad, A = some ad → W.heap.size ≤ ad.block) ∧ Below W.heap.size W w'

set_option maxHeartbeats 1000000 in
theorem keep_no (p : Pd) (hm : may p = false) (A : Option Addr) (n c : Nat) (w : World) : Calls Try.prog 8 #[pdV p, .slice A n c] w fun e w' => e = .returned (.tuple #[.slice none 0 0, .int .i64 2]) ∧ Below w.heap.size w w' := by
  have b0 := Lib.hid ((Below.refl w.heap.size w).alloc (Nat.le_refl _) (.cells (pdC p) 23))
  go_enter Try.func8, Try.ntmps8
  go_wp2_with fail
  refine (taker_no p hm _).mono ?_
  rintro e w1 ⟨rfl, hb⟩
  have b1 := Lib.hid (Below.after b0.out hb)
  clear hb
  go_wp2
  go_ret2
  exact ⟨rfl, b1.out⟩

set_option maxHeartbeats 4000000 in
theorem keep_yes (p : Pd) (hm : may p = true) (A : Option Addr) (n c : Nat) (l s : List Pr) (m : Nat) (hs : keep p l = s) (hsm : s.length = m) (w : World) (h : Lies w A n c l) : Calls Try.prog 8 #[pdV p, .slice A n c] w (KeptH w m s) := by
  obtain ⟨i0, hi, hz0, hz1, hz2⟩ := info_parts info_pair
  have hf := h.few
  have h' := Lib.hid h
  have hs' := Lib.hid hs
  have hsm' := Lib.hid hsm
  clear h hs hsm
  have b0 := Lib.hid ((Below.refl w.heap.size w).alloc (Nat.le_refl _) (.cells (pdC p) 23))
  go_enter Try.func8, Try.ntmps8
  go_wp2_with fail
  refine (taker_yes p hm _).mono ?_
  rintro e w1 ⟨rr, pp, rfl, hC, hb⟩
  have b1 := Lib.hid (Below.after b0.out hb)
  have hC' := Lib.hid hC
  clear hb hC b0
  go_wp2
  go_loopw [8, 20] (fun v i wr => ∃ k j : Nat, k ≤ n ∧ (keep p (l.take k)).length = j ∧ i = .int .i64 k ∧ wr.ownsRow w1.heap.size 25 2 v j (flat (keep p (l.take k))) ∧ Below w1.heap.size w1 wr) (fun _ i _ => n - (intOf i).toNat)
  case atStart => exact ⟨0, 0, Nat.zero_le _, rfl, rfl, World.ownsRow_nil _ _ _ _, Below.refl _ _⟩
  case round =>
    obtain ⟨k, j, hk, hj, rfl, hown, hb⟩ := hrel
    have hjn : j ≤ n := by
      have h1 := keep_len p (l.take k)
      rw [List.length_take, h'.out.len] at h1
      omega
    have ho := Lib.hid hown
    have br := Lib.hid hb
    have bw := Lib.hid (Below.after b1.out hb)
    have hj' := Lib.hid hj
    clear hown hb hj
    by_cases hlt : k < n
    · have hkl : k < l.length := by rw [h'.out.len]; exact hlt
      have hkn := Lib.hid (keep_next p l k hkl)
      obtain ⟨ad, rfl, hb2, g1, g2⟩ := pair_at (h'.out.row.next bw.out) k hkl
      obtain ⟨L, hL⟩ : ∃ L, keep p (l.take k) = L := ⟨_, rfl⟩
      rw [hL] at ho hkn hj'
      clear hL
      obtain ⟨x, hx⟩ : ∃ x, l[k] = x := ⟨_, rfl⟩
      simp only [hx] at g1 g2 hkn
      clear hx
      have hCx := Lib.hid (hC'.out x (wr.alloc (.cells #[K x.1, K x.2] 25)) (br.out.alloc br.out.size _))
      have hbox := Lib.hid (Has.new wr 25 #[K x.1, K x.2])
      have b2 := Lib.hid ((Below.refl wr.heap.size wr).alloc (Nat.le_refl _) (.cells #[K x.1, K x.2] 25))
      cases htk : takes p x with
      | false =>
        have hkt : Hid (keep p (l.take (k + 1)) = L) := by show keep p (l.take (k + 1)) = L; rw [hkn.out, htk]; rfl
        rw [htk] at hCx
        clear htk
        go_wp2_with (go_at_call 21; refine hCx.out.mono ?_; rintro e w2 ⟨rfl, hb⟩; have b3 := Lib.hid (Below.after b2.out hb); clear hb)
        go_roundw
        case rel => exact ⟨k + 1, j, by omega, by rw [hkt.out]; exact hj'.out, by go_num, by rw [hkt.out]; exact owned_next ho.out b3.out, Below.after br.out b3.out⟩
        case measure => simp [intOf]; omega
      | true =>
        have hkt : Hid (keep p (l.take (k + 1)) = L ++ [x]) := by show keep p (l.take (k + 1)) = L ++ [x]; rw [hkn.out, htk]; rfl
        rw [htk] at hCx
        clear htk
        go_wp2_with (first | (go_at_call 21; refine hCx.out.mono ?_; rintro e w2 ⟨rfl, hb⟩; have b3 := Lib.hid (Below.after b2.out hb); have c0 := (hbox.out.next hb).c0; have c1 := (hbox.out.next hb).c1; have ho2 := Lib.hid (owned_next ho.out b3.out); clear hb) | (at_builtin; refine wpList_append_row rfl _ _ 26 rfl w1.heap.size 25 i0 (.agg #[.int .i64 0, .int .i64 0]) 2 16 Try.underlying26 hi hz0 hz1 hz2 rfl (by decide) _ j _ rfl (ho2.out.alloc _) (some ⟨w2.heap.size, 0, none⟩) 1 1 (flat [x]) rfl (by simp) (Nat.le_refl _) rfl _ (Has.new w2 25 #[K x.1, K x.2]).row (flat_one [x]) (by unfold maxLen; omega) (by omega) (by have := (Below.after br.out b3.out).size; simp; omega) ?_))
        intro v' w3 hown hgrow
        have ho3 := Lib.hid hown
        have b4 := Lib.hid (((Below.after br.out b3.out).alloc (Below.after br.out b3.out).size (.cells #[K x.1, K x.2] 25)).grown hgrow (by have := (Below.after br.out b3.out).size; simp; omega) (fun r e => (ho2.out.lt r e).1))
        clear hown hgrow
        go_wp2
        go_roundw
        case rel =>
          refine ⟨k + 1, j + 1, by omega, ?_, by go_num, ?_, b4.out⟩
          · rw [hkt.out, List.length_append, hj'.out]; rfl
          · rw [hkt.out, flat_append]; exact ho3.out
        case measure => simp [intOf]; omega
    · obtain rfl : k = n := by omega
      rw [List.take_of_length_le (by rw [h'.out.len]; exact Nat.le_refl _), hs'.out] at ho hj'
      obtain rfl : j = m := by rw [← hj'.out, hsm'.out]
      obtain ⟨A', c', rfl, hL, hab⟩ := Lies.of_own hj'.out (by omega) ho.out
      have hL' := Lib.hid hL
      have ha' := Lib.hid (fun ad e => Nat.le_trans b1.out.size (hab ad e))
      clear hL ho hab
      go_wp2
      go_ret2
      exact ⟨_, _, rfl, hL'.out, ha'.out, bw.out⟩
end Go.Proofs.Ytjjhmenkgcldeaa
