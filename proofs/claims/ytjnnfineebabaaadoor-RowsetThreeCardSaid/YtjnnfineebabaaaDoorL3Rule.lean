/- The contract of ruleOf of package fold: which function a policy has, or that there is none; nothing that lay is changed. -/
import Derived.Test.YtjnnfineebabaaaDoorGMap
import Derived.Test.YtjnnfineebabaaaDoorProg
namespace Go.Proofs.YtjnnfineebabaaaDoor
open Go.RowKit

/-- the function of each policy -/
def polV : Nat → Value
  | 1 => .agg #[fnV 59]
  | 2 => .agg #[fnV 60]
  | 3 => .agg #[fnV 61]
  | _ => .agg #[.nilFunc]
/-- the map with its first k entries -/
def pols : Nat → Array MapEntry
  | 0 => #[]
  | k + 1 => (pols k).push ⟨.int .u8 ((k + 1 : Nat) : Int), polV (k + 1), k⟩
theorem zeroPol (w : World) : (zeroValue 70).run Tryd.prog w = .ok (.agg #[.nilFunc]) w := by kernel_rfl
theorem pol_put (w : World) (r : Nat) (hr : w.heap.size = r) (k : Nat) (v : Value) (n : Int) (hv : polV (k + 1) = v) (hn : ((k + 1 : Nat) : Int) = n) (hf : Instr.findNow (.int .u8) (.int .u8 n) (pols k).toList 0 = some none) :
    (Instr.mapUpdate 93 (.map (some r)) (.int .u8 n) v).run Tryd.prog (w.alloc (.map (pols k) k)) = .ok () (w.alloc (.map (pols (k + 1)) (k + 1))) := by
  subst hv hn
  exact put_fresh w Tryd.underlying93 Tryd.underlying5 hr hf

set_option maxHeartbeats 1000000 in
theorem polOf_at (o : Nat) (h1 : 1 ≤ o) (h3 : o ≤ 3) (f : FuncId) (hf : Hid (polV o = .agg #[fnV f])) (w : World) : Calls Tryd.prog 47 #[.int .u8 o] w fun e w' => e = .returned (.tuple #[.agg #[fnV f], .bool true]) ∧ Below w.heap.size w w' := by
  have hmm := @run_makeMap Tryd.prog
  have hl : (Instr.lookup 93 (.map (some (w.heap.size + 1))) (.int .u8 o) true).run Tryd.prog ((w.alloc (.cells #[.nilFunc] 70)).alloc (.map (pols 3) 3)) = .ok (.tuple #[.agg #[fnV f], .bool true]) ((w.alloc (.cells #[.nilFunc] 70)).alloc (.map (pols 3) 3)) := by
    refine look_there _ (i := o - 1) Tryd.underlying93 Tryd.underlying5 (by simp) ?_
    rw [← hf.out]
    have : o = 1 ∨ o = 2 ∨ o = 3 := by omega
    rcases this with rfl | rfl | rfl <;> rfl
  have q1 : (Instr.mapUpdate 93 (.map (some (w.heap.size + 1))) (.int .u8 1) (.agg #[fnV 59])).run Tryd.prog ((w.alloc (.cells #[.nilFunc] 70)).alloc (.map #[] 0)) = .ok () ((w.alloc (.cells #[.nilFunc] 70)).alloc (.map (pols 1) 1)) := pol_put _ _ (by simp) 0 _ _ rfl rfl rfl
  have q2 : (Instr.mapUpdate 93 (.map (some (w.heap.size + 1))) (.int .u8 2) (.agg #[fnV 60])).run Tryd.prog ((w.alloc (.cells #[.nilFunc] 70)).alloc (.map (pols 1) 1)) = .ok () ((w.alloc (.cells #[.nilFunc] 70)).alloc (.map (pols 2) 2)) := pol_put _ _ (by simp) 1 _ _ rfl rfl rfl
  have q3 : (Instr.mapUpdate 93 (.map (some (w.heap.size + 1))) (.int .u8 3) (.agg #[fnV 61])).run Tryd.prog ((w.alloc (.cells #[.nilFunc] 70)).alloc (.map (pols 2) 2)) = .ok () ((w.alloc (.cells #[.nilFunc] 70)).alloc (.map (pols 3) 3)) := pol_put _ _ (by simp) 2 _ _ rfl rfl rfl
  clear h1 h3 hf
  go_enter Tryd.func47, Tryd.ntmps47
  go_wp2
  refine bodyPost_ret (v := .tuple #[.agg #[fnV f], .bool true]) (by simp [results, Tryd.results47, go_sem]) rfl ⟨rfl, ?_⟩
  exact (((Below.refl _ _).alloc (Nat.le_refl _) _).alloc (by simp) _).alloc (by simp; omega) _

set_option maxHeartbeats 1000000 in
theorem polOf_none (o : Int) (h : ¬ (1 ≤ o ∧ o ≤ 3)) (w : World) : Calls Tryd.prog 47 #[.int .u8 o] w fun e w' => e = .returned (.tuple #[.agg #[.nilFunc], .bool false]) ∧ Below w.heap.size w w' := by
  have hmm := @run_makeMap Tryd.prog
  have hl : (Instr.lookup 93 (.map (some (w.heap.size + 1))) (.int .u8 o) true).run Tryd.prog ((w.alloc (.cells #[.nilFunc] 70)).alloc (.map (pols 3) 3)) = .ok (.tuple #[.agg #[.nilFunc], .bool false]) ((w.alloc (.cells #[.nilFunc] 70)).alloc (.map (pols 3) 3)) := by
    refine look_none _ Tryd.underlying93 Tryd.underlying5 (by simp) (zeroPol _) ?_
    have a1 : (o == 1) = false := by simp; omega
    have a2 : (o == 2) = false := by simp; omega
    have a3 : (o == 3) = false := by simp; omega
    simp [pols, Instr.findNow, Instr.sameNow, a1, a2, a3]
  have q1 : (Instr.mapUpdate 93 (.map (some (w.heap.size + 1))) (.int .u8 1) (.agg #[fnV 59])).run Tryd.prog ((w.alloc (.cells #[.nilFunc] 70)).alloc (.map #[] 0)) = .ok () ((w.alloc (.cells #[.nilFunc] 70)).alloc (.map (pols 1) 1)) := pol_put _ _ (by simp) 0 _ _ rfl rfl rfl
  have q2 : (Instr.mapUpdate 93 (.map (some (w.heap.size + 1))) (.int .u8 2) (.agg #[fnV 60])).run Tryd.prog ((w.alloc (.cells #[.nilFunc] 70)).alloc (.map (pols 1) 1)) = .ok () ((w.alloc (.cells #[.nilFunc] 70)).alloc (.map (pols 2) 2)) := pol_put _ _ (by simp) 1 _ _ rfl rfl rfl
  have q3 : (Instr.mapUpdate 93 (.map (some (w.heap.size + 1))) (.int .u8 3) (.agg #[fnV 61])).run Tryd.prog ((w.alloc (.cells #[.nilFunc] 70)).alloc (.map (pols 2) 2)) = .ok () ((w.alloc (.cells #[.nilFunc] 70)).alloc (.map (pols 3) 3)) := pol_put _ _ (by simp) 2 _ _ rfl rfl rfl
  clear h
  go_enter Tryd.func47, Tryd.ntmps47
  go_wp2
  refine bodyPost_ret (v := .tuple #[.agg #[.nilFunc], .bool false]) (by simp [results, Tryd.results47, go_sem]) rfl ⟨rfl, ?_⟩
  exact (((Below.refl _ _).alloc (Nat.le_refl _) _).alloc (by simp) _).alloc (by simp; omega) _
end Go.Proofs.YtjnnfineebabaaaDoor
