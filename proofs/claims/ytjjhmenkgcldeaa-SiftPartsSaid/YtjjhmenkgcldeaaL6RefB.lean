/- The document's own Keep of layer 6; the statements' own 'own' and 'pair'. -/
import Derived.Test.YtjjhmenkgcldeaaL6Ref
import Derived.Test.YtjjhmenkgcldeaaL6Keep
namespace Go.Proofs.Ytjjhmenkgcldeaa
open Go.RowKit Go.Shelf Go.Proofs.Rowm Go.Proofs.Siftm

/-- a call that makes a slice -/
def MadeL (W : World) (m : Nat) (l : List Pr) (e : Ending) (w' : World) : Prop :=
  ∃ A c, e = .returned (.slice A m c) ∧ Lies w' A m c l ∧ Below W.heap.size W w'

set_option maxHeartbeats 4000000 in
theorem refKeep_any (p : Pd) (A : Option Addr) (n c : Nat) (l s : List Pr) (m : Nat) (hs : keep p l = s) (hsm : s.length = m) (w : World) (h : Lies w A n c l) : Calls Try.prog 15 #[pdV p, .slice A n c] w (MadeL w m s) := by
  obtain ⟨i0, hi, hz0, hz1, hz2⟩ := info_parts info_pair
  have hf := h.few
  have h' := Lib.hid h
  have hs' := Lib.hid hs
  have hsm' := Lib.hid hsm
  clear h hs hsm
  have b0 := Lib.hid ((Below.refl w.heap.size w).alloc (Nat.le_refl _) (.cells (pdC p) 23))
  have g0 := Lib.hid (Has.new w 23 (pdC p))
  have hT := Lib.hid (fun x W => refTakes_any p x W)
  go_enter Try.func15, Try.ntmps15
  go_wp2
  go_loopw [5, 6] (fun v i wr => ∃ k j : Nat, k ≤ n ∧ (keep p (l.take k)).length = j ∧ i = .int .i64 k ∧ wr.ownsRow (w.heap.size + 1) 25 2 v j (flat (keep p (l.take k))) ∧ Has wr w.heap.size 23 (pdC p) ∧ Below (w.heap.size + 1) (w.alloc (.cells (pdC p) 23)) wr) (fun _ i _ => n - (intOf i).toNat)
  case atStart => exact ⟨0, 0, Nat.zero_le _, rfl, rfl, World.ownsRow_nil _ _ _ _, g0.out, Below.refl _ _⟩
  case round =>
    obtain ⟨k, j, hk, hj, rfl, hown, hp, hb⟩ := hrel
    have hjn : j ≤ n := by
      have h1 := keep_len p (l.take k)
      rw [List.length_take, h'.out.len] at h1
      omega
    have hsz : w.heap.size + 1 ≤ wr.heap.size := by have := hb.size; rw [World.size_alloc] at this; exact this
    have ho := Lib.hid hown
    have br := Lib.hid hb
    have bw : Hid (Below w.heap.size w wr) := b0.out.trans (hb.mono (Nat.le_succ _))
    have hj' := Lib.hid hj
    obtain ⟨c0, c1, c2, c3⟩ := pd_cells p _ _ hp
    have hp' := Lib.hid hp
    clear hown hb hj hp
    by_cases hlt : k < n
    · have hkl : k < l.length := by rw [h'.out.len]; exact hlt
      have hkn := Lib.hid (keep_next p l k hkl)
      obtain ⟨ad, rfl, hb2, g1, g2⟩ := pair_at (h'.out.row.next bw.out) k hkl
      obtain ⟨L, hL⟩ : ∃ L, keep p (l.take k) = L := ⟨_, rfl⟩
      rw [hL] at ho hkn hj'
      clear hL
      obtain ⟨x, hx⟩ : ∃ x, l[k] = x := ⟨_, rfl⟩
      simp only [hx] at g1 g2 hkn
      clear hx
      have hTx := Lib.hid (fun W => hT.out x W)
      have bq := Lib.hid (Below.refl wr.heap.size wr)
      obtain ⟨tk, htk⟩ : ∃ tk, takes p x = tk := ⟨_, rfl⟩
      rw [htk] at hTx hkn
      clear htk
      go_wp2_with fail
      go_region_held3 (fun w' => w'.cell? ⟨w.heap.size, 0, none⟩ = some (.int .u8 p.k) ∧ w'.cell? ⟨w.heap.size, 1, none⟩ = some (K p.a) ∧ w'.cell? ⟨w.heap.size, 2, none⟩ = some (K p.b) ∧ w'.cell? ⟨w.heap.size, 3, none⟩ = some (.bool p.n) ∧ w'.cell? (ad.add (k * 2)) = some (K x.1) ∧ w'.cell? ⟨(ad.add (k * 2)).block, (ad.add (k * 2)).off + 1, none⟩ = some (K x.2) ∧ Below wr.heap.size wr w')
        (first | exact ⟨c0, c1, c2, c3, g1, g2, bq.out.drew⟩ | assumption)
        ((go_at_call 13; refine (hTx.out _).mono ?_; rintro e w' ⟨rfl, hb⟩; have hS' := s6_next (w := wr) (by assumption) hb; clear hb))
      obtain ⟨_, _, _, _, e1, e2, hb⟩ := hS'
      have b2 := Lib.hid hb
      have ho2 := Lib.hid (owned_next ho.out hb)
      have hp2 := Lib.hid (hp'.out.next hb)
      have br2 := Lib.hid (br.out.trans (hb.mono hsz))
      have hsz2 := hb.size
      clear hb c0 c1 c2 c3 g1 g2
      cases tk with
      | false =>
        have hkt : Hid (keep p (l.take (k + 1)) = L) := by show keep p (l.take (k + 1)) = L; rw [hkn.out]; rfl
        go_wp2
        go_roundw
        case rel => exact ⟨k + 1, j, by omega, by rw [hkt.out]; exact hj'.out, by go_num, by rw [hkt.out]; exact ho2.out, hp2.out, br2.out⟩
        case measure => simp [intOf]; omega
      | true =>
        have hkt : Hid (keep p (l.take (k + 1)) = L ++ [x]) := by show keep p (l.take (k + 1)) = L ++ [x]; rw [hkn.out]; rfl
        go_wp2_with (at_builtin; refine wpList_append_row rfl _ _ 26 rfl (w.heap.size + 1) 25 i0 (.agg #[.int .i64 0, .int .i64 0]) 2 16 Try.underlying26 hi hz0 hz1 hz2 rfl (by decide) _ j _ rfl (ho2.out.alloc _) (some ⟨w'.heap.size, 0, none⟩) 1 1 (flat [x]) rfl (by simp) (Nat.le_refl _) rfl _ (Has.new w' 25 #[K x.1, K x.2]).row (flat_one [x]) (by unfold maxLen; omega) (by omega) (by simp; omega) ?_)
        intro v' w3 hown hgrow
        have ho3 := Lib.hid hown
        have b4 := Lib.hid ((br2.out.alloc (Nat.le_trans hsz hsz2) (.cells #[K x.1, K x.2] 25)).grown hgrow (by simp; omega) (fun r e => (ho2.out.lt r e).1))
        have hp3 := Lib.hid ((hp2.out.alloc (.cells #[K x.1, K x.2] 25)).below ((Below.refl (w.heap.size + 1) (w'.alloc (.cells #[K x.1, K x.2] 25))).grown hgrow (by simp; omega) (fun r e => (ho2.out.lt r e).1)) (Nat.lt_succ_self _))
        clear hown hgrow
        go_wp2
        go_roundw
        case rel =>
          refine ⟨k + 1, j + 1, by omega, ?_, by go_num, ?_, hp3.out, b4.out⟩
          · rw [hkt.out, List.length_append, hj'.out]; rfl
          · rw [hkt.out, flat_append]; exact ho3.out
        case measure => simp [intOf]; omega
    · obtain rfl : k = n := by omega
      rw [List.take_of_length_le (by rw [h'.out.len]; exact Nat.le_refl _), hs'.out] at ho hj'
      obtain rfl : j = m := by rw [← hj'.out, hsm'.out]
      obtain ⟨A', c', rfl, hL, _⟩ := Lies.of_own hj'.out (by omega) ho.out
      have hL' := Lib.hid hL
      clear hL ho c0 c1 c2 c3
      go_wp2
      go_ret
      exact ⟨_, _, rfl, hL'.out, bw.out⟩

set_option maxHeartbeats 1000000 in
theorem pair6_any (k : BitVec 64) (w : World) : Calls Try.prog 17 #[K k] w fun e w' => e = .returned (pV (k, 0#64)) ∧ Below w.heap.size w w' := by
  go_enter Try.func17, Try.ntmps17
  go_wp2
  refine bodyPost_ret (v := pV (k, 0#64)) (by simp [results, Try.results17, go_sem]) rfl ⟨rfl, ?_⟩
  exact (Below.refl _ _).alloc (Nat.le_refl _) _

/-- a row of the call's own -/
def OwnL (W : World) (n : Nat) (l : List Pr) (e : Ending) (w' : World) : Prop :=
  ∃ v, e = .returned v ∧ w'.ownsRow W.heap.size 25 2 v n (flat l) ∧ Below W.heap.size W w'
set_option maxHeartbeats 1000000 in
theorem own6_any (A : Option Addr) (n c : Nat) (l : List Pr) (w : World) (h : Lies w A n c l) : Calls Try.prog 7 #[.slice A n c] w (OwnL w n l) := by
  obtain ⟨i0, hi, hz0, hz1, hz2⟩ := info_parts info_pair
  have h' := Lib.hid h
  have hf := h.few
  clear h
  go_enter Try.func7, Try.ntmps7
  go_wp2_with (at_builtin; refine wpList_append_row rfl _ _ 26 rfl w.heap.size 25 i0 (.agg #[.int .i64 0, .int .i64 0]) 2 16 Try.underlying26 hi hz0 hz1 hz2 rfl (by decide) _ 0 [] rfl (World.ownsRow_nil _ _ _ _) A n c (flat l) rfl h'.out.nil h'.out.cap ?c1 _ h'.out.row (flat_one l) (by unfold maxLen; omega) (by omega) (Nat.le_refl _) ?_)
  case c1 => rw [flat_length, h'.out.len]
  intro v w1 hown hgrow
  have hb := (Below.refl w.heap.size w).grown hgrow (Nat.le_refl _) (fun r e => by simp [Value.ownBlock] at e)
  have o1 : Hid (w1.ownsRow w.heap.size 25 2 v n (flat l)) := by show w1.ownsRow w.heap.size 25 2 v n (flat l); simpa using hown
  have b1 := Lib.hid hb
  clear hown hgrow hb
  go_wp2
  go_ret
  exact ⟨_, rfl, o1.out, b1.out⟩
end Go.Proofs.Ytjjhmenkgcldeaa
