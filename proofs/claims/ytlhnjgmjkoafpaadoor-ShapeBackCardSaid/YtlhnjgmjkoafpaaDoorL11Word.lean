/- The document's own answers of layer 11: word. -/
import Derived.Test.YtlhnjgmjkoafpaaDoorGStr
import Derived.Test.YtlhnjgmjkoafpaaDoorL11Math
import Derived.Test.YtlhnjgmjkoafpaaDoorL9Ok
namespace Go.Proofs.YtlhnjgmjkoafpaaDoor
open Go.RowKit Go.Proofs.Treem

theorem word_take (s : List UInt8) (k : Nat) (hk : k ≤ s.length) (h : ∀ c ∈ s.take k, isW c = true) (he : k = s.length ∨ ∃ hl : k < s.length, isW s[k] = false) : wordL s = s.take k := by
  rcases he with rfl | ⟨hl, hn⟩
  · rw [List.take_length] at h ⊢
    unfold wordL
    rw [← List.append_nil s, List.takeWhile_append_of_pos h]; simp
  · have e : s = s.take k ++ s[k] :: s.drop (k + 1) := by rw [← List.drop_eq_getElem_cons hl, List.take_append_drop]
    rw [e, word_of h hn]
    simp
set_option maxHeartbeats 2000000 in
theorem word_any (s : List UInt8) (hs : s.length ≤ 1048576) (w : World) : Calls Tryd.prog 59 #[sV s] w fun e w' => e = .returned (sV (wordL s)) ∧ w = w' := by
  obtain ⟨n, hn⟩ : ∃ n, s.length = n := ⟨_, rfl⟩
  have hlen : (⟨s.toArray⟩ : ByteArray).size = n := by rw [← hn]; exact List.size_toArray
  have hn' := Lib.hid hn
  rw [hn] at hs
  clear hn
  go_enter Tryd.func59, Tryd.ntmps59
  go_wp2
  go_loop [3] (fun i => ∃ k : Nat, k ≤ n ∧ i = .int .i64 k ∧ ∀ c ∈ s.take k, isW c = true) (fun i => n - (intOf i).toNat)
  case atStart => exact ⟨0, Nat.zero_le _, rfl, by simp⟩
  case round =>
    obtain ⟨k, hk, rfl, hw⟩ := hrel
    have hw' := Lib.hid hw
    clear hw
    have cut := str_to (P := Tryd.prog) Tryd.underlying9 s k (by rw [hn'.out]; exact hk) k rfl
    by_cases hlt : k < n
    · have hkl : k < s.length := by rw [hn'.out]; exact hlt
      have hat := str_at (P := Tryd.prog) Tryd.underlying9 s k hkl k rfl
      obtain ⟨c, hc⟩ : ∃ c, s[k] = c := ⟨_, rfl⟩
      rw [hc] at hat
      have hc' := Lib.hid hc
      clear hc
      have d1 : decide ((k : Int) < (n : Int)) = true := decide_eq_true (by omega)
      have hnx : Hid (isW c = true → ∀ c' ∈ s.take (k + 1), isW c' = true) := fun h c' hc => by
        rw [List.take_succ_eq_append_getElem hkl, List.mem_append] at hc
        rcases hc with hc | hc
        · exact hw'.out c' hc
        · rw [List.mem_singleton.1 hc, hc'.out]; exact h
      have hstop : Hid (isW c = false → wordL s = s.take k) := fun h => word_take s k (by omega) hw'.out (.inr ⟨hkl, by rw [hc'.out]; exact h⟩)
      by_cases h1 : c.toNat = 45
      · have e1 : ((c.toNat : Int) == 45) = true := by rw [h1]; rfl
        go_wp2
        go_round
        case rel => exact ⟨k + 1, by omega, by go_num, hnx.out (by simp only [isW, Bool.or_eq_true, beq_iff_eq, Bool.and_eq_true, decide_eq_true_eq]; exact .inl (UInt8.toNat_inj.1 h1))⟩
        case measure => simp [intOf]; omega
      · have e1 : ((c.toNat : Int) == 45) = false := by rw [beq_eq_false_iff_ne]; omega
        by_cases h2 : 48 ≤ c.toNat
        · have e2 : decide ((48 : Int) ≤ (c.toNat : Int)) = true := decide_eq_true (by omega)
          by_cases h3 : c.toNat ≤ 57
          · have e3 : decide ((c.toNat : Int) ≤ 57) = true := decide_eq_true (by omega)
            go_wp2
            go_round
            case rel => exact ⟨k + 1, by omega, by go_num, hnx.out (by simp only [isW, Bool.or_eq_true, beq_iff_eq, Bool.and_eq_true, decide_eq_true_eq]; exact .inr ⟨h2, h3⟩)⟩
            case measure => simp [intOf]; omega
          · have e3 : decide ((c.toNat : Int) ≤ 57) = false := decide_eq_false (by omega)
            go_wp2
            go_ret
            exact ⟨by rw [hstop.out (by simp only [isW, Bool.or_eq_false_iff, Bool.and_eq_false_iff, decide_eq_false_iff_not]; exact ⟨by rw [beq_eq_false_iff_ne]; exact fun e => h1 (by rw [e]; rfl), by omega⟩)]; rfl, rfl⟩
        · have e2 : decide ((48 : Int) ≤ (c.toNat : Int)) = false := decide_eq_false (by omega)
          go_wp2
          go_ret
          exact ⟨by rw [hstop.out (by simp only [isW, Bool.or_eq_false_iff, Bool.and_eq_false_iff, decide_eq_false_iff_not]; exact ⟨by rw [beq_eq_false_iff_ne]; exact fun e => h1 (by rw [e]; rfl), by omega⟩)]; rfl, rfl⟩
    · obtain rfl : k = n := by omega
      have hall : Hid (wordL s = s.take k) := word_take s k (by rw [hn'.out]; exact Nat.le_refl _) hw'.out (.inl hn'.out.symm)
      have d1 : decide ((k : Int) < (k : Int)) = false := decide_eq_false (by omega)
      go_wp2
      go_ret
      exact ⟨by rw [hall.out]; rfl, rfl⟩
end Go.Proofs.YtlhnjgmjkoafpaaDoor
