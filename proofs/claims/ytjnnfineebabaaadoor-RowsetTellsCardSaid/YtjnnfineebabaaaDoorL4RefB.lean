/- The document's own answers of layer 4: Find, Get, Floor, Ceil, Sum, Same. -/
import Derived.Test.YtjnnfineebabaaaDoorL4Ref
namespace Go.Proofs.YtjnnfineebabaaaDoor
open Go.RowKit Go.Proofs.Rowm

set_option maxHeartbeats 1000000 in
theorem same4_yes (A A' : Option Addr) (n c c' : Nat) (l : List Pr) (hl : l.length = n) (hn : n ≤ 1000) (w : World) (hr : Row w w.heap.size A (flat l)) (hq : Row w w.heap.size A' (flat l)) :
    Calls Tryd.prog 11 #[.slice A n c, .slice A' n c'] w fun e w' => e = .returned (.bool true) ∧ Below w.heap.size w w' := by
  have hr' := Lib.hid hr
  have hq' := Lib.hid hq
  have hl' := Lib.hid hl
  clear hr hq hl
  go_enter Tryd.func11, Tryd.ntmps11
  go_wp2
  go_loopw [5] (fun i wr => ∃ k : Nat, k ≤ n ∧ i = .int .i64 k ∧ Below w.heap.size w wr) (fun i _ => n - (intOf i).toNat)
  case atStart => exact ⟨0, Nat.zero_le _, rfl, Below.refl _ _⟩
  case round =>
    obtain ⟨k, hk, rfl, hb⟩ := hrel
    have hb' := Lib.hid hb
    clear hb
    by_cases hlt : k < n
    · have hkl : k < l.length := by rw [hl'.out]; exact hlt
      obtain ⟨ad, rfl, hb2, g1, g2⟩ := pair_at (hr'.out.below hb'.out) k hkl
      obtain ⟨ad', rfl, hb3, g3, g4⟩ := pair_at (hq'.out.below hb'.out) k hkl
      go_wp2
      go_quiet (fail)
      go_wp2
      go_roundw
      case rel => exact ⟨k + 1, by omega, by go_num, below_drewN hb'.out _⟩
      case measure => simp [intOf]; omega
    · go_wp2
      go_ret
      exact ⟨rfl, hb'.out⟩

/-- whether a row may be, the answer under a name -/
theorem refMay4_is {o : Nat} {A : Option Addr} {n c : Nat} {l : List Pr} {t : Bool} (h : mayB o l = t) (hl : l.length = n) (hn : n ≤ 1000) {w : World} (hr : Row w w.heap.size A (flat l)) :
    Calls Tryd.prog 42 #[.int .u8 o, .slice A n c] w fun e w' => e = .returned (.bool t) ∧ Below w.heap.size w w' := h ▸ refMay4_any o A n c l hl hn w hr

set_option maxHeartbeats 1000000 in
theorem refFind_no (o : Nat) (A : Option Addr) (n c : Nat) (l : List Pr) (key : BitVec 64) (hm : mayB o l = false) (hl : l.length = n) (hn : n ≤ 1000) (w : World) (hr : Row w w.heap.size A (flat l)) :
    Calls Tryd.prog 52 #[.int .u8 o, .slice A n c, K key] w fun e w' => e = .returned (.tuple #[.int .i64 0, .bool false]) ∧ Below w.heap.size w w' := by
  have hr' := Lib.hid hr
  have hl' := Lib.hid hl
  have hm' := Lib.hid hm
  clear hr hl hm
  go_enter Tryd.func52, Tryd.ntmps52
  go_wp2_with fail
  refine (refMay4_is hm'.out hl'.out hn hr'.out).mono ?_
  rintro e w1 ⟨rfl, hb⟩
  have hb' := Lib.hid hb
  clear hb
  go_wp2
  go_ret2
  exact ⟨rfl, hb'.out⟩

set_option maxHeartbeats 1000000 in
theorem refFind_yes (o : Nat) (A : Option Addr) (n c : Nat) (l : List Pr) (key : BitVec 64) (i j : Nat) (t : Bool) (ht : decide (i < j) = t) (hm : mayB o l = true) (ha : At o l key i j) (hl : l.length = n) (hn : n ≤ 1000) (w : World) (hr : Row w w.heap.size A (flat l)) :
    Calls Tryd.prog 52 #[.int .u8 o, .slice A n c, K key] w fun e w' => e = .returned (.tuple #[.int .i64 i, .bool t]) ∧ Below w.heap.size w w' := by
  obtain ⟨h1, h7, _⟩ := mayB_parts hm
  have hij := ha.le
  have hjl := ha.len
  rw [hl] at hjl
  have hr' := Lib.hid hr
  have hl' := Lib.hid hl
  have hm' := Lib.hid hm
  have ht' := Lib.hid ht
  have ha' := Lib.hid ha
  clear hr hl hm ht ha
  go_enter Tryd.func52, Tryd.ntmps52
  go_wp2_with fail
  refine (refMay4_is hm'.out hl'.out hn hr'.out).mono ?_
  rintro e w1 ⟨rfl, hb⟩
  have hb' := Lib.hid hb
  clear hb
  go_wp2
  go_loop [8] (fun q => ∃ k : Nat, k ≤ i ∧ q = .int .i64 k) (fun q => n + 1 - (intOf q).toNat)
  case atStart => exact ⟨0, Nat.zero_le _, rfl⟩
  case round =>
    obtain ⟨k, hk, rfl⟩ := hrel
    by_cases hlt : k < n
    · have hkl : k < l.length := by rw [hl'.out]; exact hlt
      obtain ⟨ad, rfl, hb2, g1, g2⟩ := pair_at (hr'.out.below hb'.out) k hkl
      by_cases hlow : k < i
      · have hd := Lib.hid (decide_eq_true ((ha'.out.lt_iff k hkl).2 hlow))
        go_wp2_with (go_at_call 43; refine (refLess_at o h1 h7 hd.out _).mono ?_; rintro e w' ⟨rfl, rfl⟩)
        go_round
        case rel => exact ⟨k + 1, by omega, by go_num⟩
        case measure => simp [intOf]; omega
      · have hd := Lib.hid (decide_eq_false (fun h => hlow ((ha'.out.lt_iff k hkl).1 h)))
        obtain rfl : k = i := by omega
        have hk0 : (l[k].1.toInt == key.toInt) = t := by
          rw [i_beq, ← ht'.out, decide_eq_decide]
          exact ha'.out.is hkl
        go_wp2_with (go_at_call 43; refine (refLess_at o h1 h7 hd.out _).mono ?_; rintro e w' ⟨rfl, rfl⟩)
        go_quiet (fail)
        go_wp2
        go_ret2
        exact ⟨by simp, below_drewN hb'.out _⟩
    · have e1 : k = i := by omega
      have e2 : k = n := by omega
      have ht2 : t = false := by rw [← ht'.out]; exact decide_eq_false (by omega)
      subst e1 e2
      have ht3 := Lib.hid ht2
      clear ht2
      go_wp2
      go_ret2
      rw [ht3.out]
      exact ⟨rfl, hb'.out⟩

set_option maxHeartbeats 1000000 in
theorem refGet_no (o : Nat) (A : Option Addr) (n c : Nat) (l : List Pr) (key : BitVec 64) (hm : mayB o l = false) (hl : l.length = n) (hn : n ≤ 1000) (w : World) (hr : Row w w.heap.size A (flat l)) :
    Calls Tryd.prog 36 #[.int .u8 o, .slice A n c, K key] w fun e w' => e = .returned (.tuple #[.int .i64 0, .bool false]) ∧ Below w.heap.size w w' := by
  have hr' := Lib.hid hr
  have hl' := Lib.hid hl
  have hm' := Lib.hid hm
  clear hr hl hm
  go_enter Tryd.func36, Tryd.ntmps36
  go_wp2_with fail
  refine (refFind_no o A n c l key hm'.out hl'.out hn _ hr'.out).mono ?_
  rintro e w1 ⟨rfl, hb⟩
  have hb' := Lib.hid hb
  clear hb
  go_wp2
  go_ret2
  exact ⟨rfl, hb'.out⟩
set_option maxHeartbeats 1000000 in
theorem refGet_yes (o : Nat) (A : Option Addr) (n c : Nat) (l : List Pr) (key : BitVec 64) (i j : Nat) (t : Bool) (ht : decide (i < j) = t) (hm : mayB o l = true) (ha : At o l key i j) (hl : l.length = n) (hn : n ≤ 1000) (w : World) (hr : Row w w.heap.size A (flat l)) :
    Calls Tryd.prog 36 #[.int .u8 o, .slice A n c, K key] w fun e w' => e = .returned (.tuple #[K (valAt l i j), .bool t]) ∧ Below w.heap.size w w' := by
  have hjl := ha.len
  rw [hl] at hjl
  have hr' := Lib.hid hr
  have hl' := Lib.hid hl
  have hm' := Lib.hid hm
  have ha' := Lib.hid ha
  clear hr hl hm ha
  by_cases hij : i < j
  · obtain rfl : t = true := by rw [← ht]; exact decide_eq_true hij
    have ht' := Lib.hid ht
    clear ht
    have hil : i < l.length := by rw [hl'.out]; omega
    have hv : Hid (valAt l i j = l[i].2) := by show valAt l i j = l[i].2; unfold valAt; rw [if_pos hij, getD_at l i hil]
    have hin : i < n := by omega
    go_enter Tryd.func36, Tryd.ntmps36
    go_wp2_with fail
    refine (refFind_yes o A n c l key i j true ht'.out hm'.out ha'.out hl'.out hn _ hr'.out).mono ?_
    rintro e w1 ⟨rfl, hb⟩
    have hb' := Lib.hid hb
    clear hb
    obtain ⟨ad, rfl, hb2, g1, g2⟩ := pair_at (hr'.out.below hb'.out) i hil
    go_wp2
    go_ret2
    exact ⟨by rw [hv.out]; rfl, hb'.out⟩
  · obtain rfl : t = false := by rw [← ht]; exact decide_eq_false hij
    have ht' := Lib.hid ht
    clear ht
    have hv : Hid (valAt l i j = 0#64) := by show valAt l i j = 0#64; unfold valAt; rw [if_neg hij]
    go_enter Tryd.func36, Tryd.ntmps36
    go_wp2_with fail
    refine (refFind_yes o A n c l key i j false ht'.out hm'.out ha'.out hl'.out hn _ hr'.out).mono ?_
    rintro e w1 ⟨rfl, hb⟩
    have hb' := Lib.hid hb
    clear hb
    go_wp2
    go_ret2
    exact ⟨by rw [hv.out]; rfl, hb'.out⟩
end Go.Proofs.YtjnnfineebabaaaDoor
