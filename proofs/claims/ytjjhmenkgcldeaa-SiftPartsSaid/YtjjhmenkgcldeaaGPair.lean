/- Pairs, as values and in memory; whether two slices of pairs are the same (the document's own answer of layer 4), where they are. -/
import Derived.Test.YtjjhmenkgcldeaaL4Row
import Derived.Test.YtjjhmenkgcldeaaGApp
import Derived.IntWalk
import Derived.Deep.QuietTactic
import Derived.BigQuiet
import Derived.Outline
namespace Go.Proofs.Ytjjhmenkgcldeaa
open Go.RowKit Go.Proofs.Rowm

/-- a callee that leaves the world alone, within a region that only reads -/
theorem quiet_same {P : Program} {f : FuncId} {args : Array Value} {w : World} {n : Nat} {v : Value} (h : Calls P f args (w.drewN n) fun e w' => e = .returned v ∧ w.drewN n = w') :
    Calls P f args (w.drewN n) fun e w'' => e = .returned v ∧ ∃ m, w'' = w.drewN m := h.mono fun _ _ ⟨he, hm⟩ => ⟨he, n, hm.symm⟩

/-- a pair, as a value -/
abbrev pV (p : Pr) : Value := .agg #[K p.1, K p.2]
/-- a variable of two cells that is stored whole -/
theorem Has.two {w : World} {g : Nat} {t : TypeId} {a b : Value} (h : Has w g t #[a, b]) (u v : Value) : Has ((w.setCell ⟨g, 0, none⟩ u).setCell ⟨g, 1, none⟩ v) g t #[u, v] := (h.set 0 u).set 1 v
theorem Has.c0 {w : World} {g : Nat} {t : TypeId} {a b : Value} (h : Has w g t #[a, b]) : w.cell? ⟨g, 0, none⟩ = some a := h.cell 0
theorem Has.c1 {w : World} {g : Nat} {t : TypeId} {a b : Value} (h : Has w g t #[a, b]) : w.cell? ⟨g, 1, none⟩ = some b := h.cell 1
theorem Has.keep {w w' : World} {g B : Nat} {t : TypeId} {cs : Array Value} (h : Has w g t cs) (hb : Below B w w') (hB : B = w.heap.size) : Has w' g t cs := h.below hb (hB ▸ h.lt)

set_option maxHeartbeats 1000000 in
theorem same4_yes (A A' : Option Addr) (n c c' : Nat) (l : List Pr) (hl : l.length = n) (hn : n ≤ 1000) (w : World) (hr : Row w w.heap.size A (flat l)) (hq : Row w w.heap.size A' (flat l)) :
    Calls Try.prog 14 #[.slice A n c, .slice A' n c'] w fun e w' => e = .returned (.bool true) ∧ Below w.heap.size w w' := by
  have hr' := Lib.hid hr
  have hq' := Lib.hid hq
  have hl' := Lib.hid hl
  clear hr hq hl
  go_enter Try.func14, Try.ntmps14
  go_wp2
  go_loopw [5] (fun i wr => ∃ k : Nat, k ≤ n ∧ i = .int .i64 k ∧ Below w.heap.size w wr) (fun i _ => n - (intOf i).toNat)
  case atStart => exact ⟨0, Nat.zero_le _, rfl, Below.refl _ _⟩
  case round =>
    obtain ⟨k, hk, rfl, hb⟩ := hrel
    have hb' := Lib.hid hb
    clear hb
    by_cases hlt : k < n
    · have hkl : k < l.length := by rw [hl'.out]; exact hlt
      obtain ⟨ad, rfl, hb2, g1, g2⟩ := pair_at (hr'.out.below hb'.out) k hkl
      obtain ⟨ad', rfl, hb3, g3, g4⟩ := pair_at (hq'.out.below hb'.out) k hkl
      go_wp2
      go_quiet (fail)
      go_wp2
      go_roundw
      case rel => exact ⟨k + 1, by omega, by go_num, below_drewN hb'.out _⟩
      case measure => simp [intOf]; omega
    · go_wp2
      go_ret
      exact ⟨rfl, hb'.out⟩

end Go.Proofs.Ytjjhmenkgcldeaa
