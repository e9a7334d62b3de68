/- The document's own answers of layer 4 (package joineryref04): which rows may be, what is found, what is put, what is dropped. -/
import Derived.Test.YtjnnfineebabaaaDoorL4Row
import Derived.Test.YtjnnfineebabaaaDoorGApp
import Derived.Test.YtjnnfineebabaaaDoorL2Ref
import Derived.Test.YtjnnfineebabaaaDoorL3Pol
import Derived.IntWalk
import Derived.Deep.QuietTactic
import Derived.BigQuiet
import Derived.Outline
namespace Go.Proofs.YtjnnfineebabaaaDoor
open Go.RowKit Go.Proofs.Rowm

set_option maxHeartbeats 400000 in
theorem refLess_at (o : Nat) (h1 : 1 ≤ o) (h7 : o ≤ 7) {a b : BitVec 64} {t : Bool} (h : decide (num o a < num o b) = t) (w : World) :
    Calls Tryd.prog 43 #[.int .u8 o, K a, K b] w fun e w' => e = .returned (.bool t) ∧ w = w' := by
  have hs := stand_lt o a b
  have hc := Lib.hid fun W => refCompare_at o h1 h7 a b W
  generalize Ordm.stand o a b = s at hs hc
  have hd : decide (s < 0) = t := by rw [← h, decide_eq_decide]; exact hs
  clear h hs
  go_enter Tryd.func43, Tryd.ntmps43
  go_wp2_with (go_at_call 56; refine (hc.out _).mono ?_; rintro e w' ⟨rfl, rfl⟩)
  go_ret
  exact ⟨rfl, rfl⟩
set_option maxHeartbeats 400000 in
theorem refLess_none (o : Int) (h : ¬ (1 ≤ o ∧ o ≤ 7)) (a b : BitVec 64) (w : World) :
    Calls Tryd.prog 43 #[.int .u8 o, K a, K b] w fun e w' => e = .returned (.bool false) ∧ w = w' := by
  have h' := Lib.hid h
  clear h
  go_enter Tryd.func43, Tryd.ntmps43
  go_wp2_with (go_at_call 56; refine (refCompare_none o h'.out _ _ _).mono ?_; rintro e w' ⟨rfl, rfl⟩)
  go_ret
  exact ⟨rfl, rfl⟩
/-- a callee that leaves the world alone, within a region that only reads -/
theorem quiet_same {P : Program} {f : FuncId} {args : Array Value} {w : World} {n : Nat} {v : Value} (h : Calls P f args (w.drewN n) fun e w' => e = .returned v ∧ w.drewN n = w') :
    Calls P f args (w.drewN n) fun e w'' => e = .returned v ∧ ∃ m, w'' = w.drewN m := h.mono fun _ _ ⟨he, hm⟩ => ⟨he, n, hm.symm⟩

/-- the first k pairs rise -/
def Risen (o : Nat) (l : List Pr) (k : Nat) : Prop := ∀ i (h : i + 1 < l.length), i + 1 < k → num o l[i].1 < num o l[i + 1].1
theorem Risen.one (o : Nat) (l : List Pr) : Risen o l 1 := fun i _ h => by omega
theorem Risen.next {o : Nat} {l : List Pr} {k : Nat} (h : Risen o l (k + 1)) (hk : k + 1 < l.length) (hl : num o l[k].1 < num o l[k + 1].1) : Risen o l (k + 1 + 1) := fun i hi hik => by
  rcases Nat.lt_or_ge (i + 1) (k + 1) with h1 | h1
  · exact h i hi h1
  · have : i = k := by omega
    subst this; exact hl
theorem Risen.all {o : Nat} {l : List Pr} {k : Nat} (h : Risen o l k) (hk : l.length ≤ k) : rises o l = true := rises_of o l fun i hi => h i hi (by omega)
theorem fallen {o : Nat} {l : List Pr} {k : Nat} (hk : k + 1 < l.length) (h : ¬ num o l[k].1 < num o l[k + 1].1) : mayB o l = false := by
  cases hm : mayB o l with
  | false => rfl
  | true => exact absurd (rises_next o l (mayB_parts hm).2.2 k hk) h
theorem may_none_of {o : Nat} (h : ¬ (1 ≤ o ∧ o ≤ 7)) (l : List Pr) : mayB o l = false := by
  cases hm : mayB o l with
  | false => rfl
  | true => exact absurd ⟨(mayB_parts hm).1, (mayB_parts hm).2.1⟩ h

set_option maxHeartbeats 1000000 in
theorem refMay4_any (o : Nat) (A : Option Addr) (n c : Nat) (l : List Pr) (hl : l.length = n) (hn : n ≤ 1000) (w : World) (hr : Row w w.heap.size A (flat l)) :
    Calls Tryd.prog 42 #[.int .u8 o, .slice A n c] w fun e w' => e = .returned (.bool (mayB o l)) ∧ Below w.heap.size w w' := by
  have hr' := Lib.hid hr
  have hl' := Lib.hid hl
  clear hr hl
  by_cases ho : 1 ≤ o ∧ o ≤ 7
  · obtain ⟨h1, h7⟩ := ho
    go_enter Tryd.func42, Tryd.ntmps42
    go_wp2
    go_loopw [5] (fun i wr => ∃ m : Nat, m ≤ n ∧ i = .int .i64 ((m : Int) + 1) ∧ Risen o l (m + 1) ∧ Below w.heap.size w wr) (fun i _ => n + 1 - (intOf i).toNat)
    case atStart => exact ⟨0, Nat.zero_le _, rfl, Risen.one o l, Below.refl _ _⟩
    case round =>
      obtain ⟨m, hm, rfl, hR, hb⟩ := hrel
      have hb' := Lib.hid hb
      have hR' := Lib.hid hR
      clear hb hR
      by_cases hlt : m + 1 < n
      · have hkl : m + 1 < l.length := by rw [hl'.out]; exact hlt
        obtain ⟨ad, rfl, hb2, g1, g2⟩ := pair_at (hr'.out.below hb'.out) m (by omega)
        obtain ⟨ad', he', hb3, g3, g4⟩ := pair_at (hr'.out.below hb'.out) (m + 1) hkl
        cases he'
        by_cases hlow : num o l[m].1 < num o l[m + 1].1
        · have hd := Lib.hid (decide_eq_true hlow)
          have hR2 := Lib.hid (hR'.out.next hkl hlow)
          clear hlow
          have e0 : IntKind.i64.wrap ((m : Int) + 1 - 1) = (m : Int) := by rw [show (m : Int) + 1 - 1 = m by omega]; exact IntWalk.i64_in _ (by omega)
          have e1 : (0 : Int) ≤ (m : Int) + 1 := by omega
          have e2 : ((m : Int) + 1).toNat = m + 1 := by omega
          have e3 : (m : Int) + 1 < (n : Int) := by omega
          go_wp2
          go_quiet ((go_at_call 43; exact quiet_same (refLess_at o h1 h7 hd.out _)))
          clear e0 e2
          go_wp2
          go_roundw
          case rel => exact ⟨m + 1, by omega, by go_num, hR2.out, below_drewN hb'.out _⟩
          case measure => simp [intOf]; omega
        · have hd := Lib.hid (decide_eq_false hlow)
          have hf := Lib.hid (fallen hkl hlow)
          clear hlow
          have e0 : IntKind.i64.wrap ((m : Int) + 1 - 1) = (m : Int) := by rw [show (m : Int) + 1 - 1 = m by omega]; exact IntWalk.i64_in _ (by omega)
          have e1 : (0 : Int) ≤ (m : Int) + 1 := by omega
          have e2 : ((m : Int) + 1).toNat = m + 1 := by omega
          have e3 : (m : Int) + 1 < (n : Int) := by omega
          go_wp2
          go_quiet ((go_at_call 43; exact quiet_same (refLess_at o h1 h7 hd.out _)))
          clear e0 e2
          go_wp2
          go_ret
          exact ⟨by rw [hf.out]; rfl, below_drewN hb'.out _⟩
      · have hm := Lib.hid (mayB_mk h1 h7 (hR'.out.all (by rw [hl'.out]; omega)))
        have hlt' : ¬ ((m : Int) + 1 < (n : Int)) := by omega
        go_wp2_with (go_at_call 29; refine (refIs_yes _ h1 h7 _).mono ?_; rintro e w' ⟨rfl, rfl⟩)
        go_ret
        exact ⟨by rw [hm.out]; rfl, hb'.out⟩
  · have ho2 : Hid (¬ (1 ≤ (o : Int) ∧ (o : Int) ≤ 7)) := fun ⟨a, b⟩ => ho ⟨by omega, by omega⟩
    have hm := Lib.hid (may_none_of ho l)
    clear ho
    by_cases hlt : 1 < n
    · have hkl : 0 + 1 < l.length := by rw [hl'.out]; exact hlt
      go_enter Tryd.func42, Tryd.ntmps42
      go_wp2
      go_loopw [5] (fun i wr => ∃ m : Nat, Hid (m < 1) ∧ i = .int .i64 ((m : Int) + 1) ∧ wr = w) (fun i _ => 0)
      case atStart => exact ⟨0, Lib.hid Nat.zero_lt_one, rfl, rfl⟩
      case round =>
        obtain ⟨m, hm1, rfl, rfl⟩ := hrel
        have hkm : m + 1 < l.length := by have := hm1.out; omega
        have hm0 : m ≤ 1000 := by have := hm1.out; omega
        have hmn : m + 1 < n := by have := hm1.out; omega
        obtain ⟨ad, rfl, hb2, g1, g2⟩ := pair_at hr'.out m (by omega)
        obtain ⟨ad', he', hb3, g3, g4⟩ := pair_at hr'.out (m + 1) hkm
        cases he'
        have e1 : (0 : Int) ≤ (m : Int) + 1 := by omega
        have e3 : (m : Int) + 1 < (n : Int) := by omega
        have e4 : m < n := by omega
        have e0 : IntKind.i64.wrap ((m : Int) + 1 - 1) = (m : Int) := by rw [show (m : Int) + 1 - 1 = m by omega]; exact IntWalk.i64_in _ (by omega)
        have e2 : ((m : Int) + 1).toNat = m + 1 := by omega
        go_wp2
        go_quiet ((go_at_call 43; exact quiet_same (refLess_none o ho2.out _ _ _)))
        go_wp2
        go_ret
        exact ⟨by rw [hm.out]; rfl, below_drewN (Below.refl _ _) _⟩
    · have hlt' : ¬ ((1 : Int) < (n : Int)) := by omega
      go_enter Tryd.func42, Tryd.ntmps42
      go_wp2
      go_loopw [5] (fun i wr => i = .int .i64 1 ∧ wr = w) (fun i _ => 0)
      case atStart => exact ⟨rfl, rfl⟩
      case round =>
        obtain ⟨rfl, rfl⟩ := hrel
        go_wp2_with (go_at_call 29; refine (refIs_no _ ho2.out _).mono ?_; rintro e w' ⟨rfl, rfl⟩)
        go_ret
        exact ⟨by rw [hm.out]; rfl, Below.refl _ _⟩
end Go.Proofs.YtjnnfineebabaaaDoor
