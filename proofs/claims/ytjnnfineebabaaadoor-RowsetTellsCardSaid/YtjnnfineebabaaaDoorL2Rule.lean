/- The contract of ruleOf of package order: which two functions an order has, or that there is none; nothing that lay is changed. -/
import Derived.Test.YtjnnfineebabaaaDoorGMap
import Derived.Test.YtjnnfineebabaaaDoorL1Num
import Derived.Test.YtjnnfineebabaaaDoorProg
namespace Go.Proofs.YtjnnfineebabaaaDoor
open Go.RowKit

/-- the two functions of each order -/
def ruleV : Nat → Value
  | 1 => .agg #[fnV 69, fnV 70]
  | 2 => .agg #[fnV 71, fnV 72]
  | 3 => .agg #[fnV 73, fnV 74]
  | 4 => .agg #[fnV 75, fnV 76]
  | 5 => .agg #[fnV 77, fnV 78]
  | 6 => .agg #[fnV 79, fnV 80]
  | 7 => .agg #[fnV 81, fnV 82]
  | _ => .agg #[.nilFunc, .nilFunc]
/-- the map with its first k entries -/
def rules : Nat → Array MapEntry
  | 0 => #[]
  | k + 1 => (rules k).push ⟨.int .u8 ((k + 1 : Nat) : Int), ruleV (k + 1), k⟩
theorem zeroRule (w : World) : (zeroValue 89).run Tryd.prog w = .ok (.agg #[.nilFunc, .nilFunc]) w := by kernel_rfl

/-- the eight equations that the walk of ruleOf takes, over the world in which the map is made -/
theorem rule_put (w : World) (r : Nat) (hr : w.heap.size = r) (k : Nat) (v : Value) (n : Int) (hv : ruleV (k + 1) = v) (hn : ((k + 1 : Nat) : Int) = n) (hf : Instr.findNow (.int .u8) (.int .u8 n) (rules k).toList 0 = some none) :
    (Instr.mapUpdate 102 (.map (some r)) (.int .u8 n) v).run Tryd.prog (w.alloc (.map (rules k) k)) = .ok () (w.alloc (.map (rules (k + 1)) (k + 1))) := by
  subst hv hn
  exact put_fresh w Tryd.underlying102 Tryd.underlying5 hr hf


set_option maxHeartbeats 1000000 in
theorem ruleOf_at (o : Nat) (h1 : 1 ≤ o) (h7 : o ≤ 7) (f g : FuncId) (hf : Hid (ruleV o = .agg #[fnV f, fnV g])) (w : World) : Calls Tryd.prog 57 #[.int .u8 o] w fun e w' => e = .returned (.tuple #[.agg #[fnV f, fnV g], .bool true]) ∧ Below w.heap.size w w' := by
  have hmm := @run_makeMap Tryd.prog
  have hl : (Instr.lookup 102 (.map (some (w.heap.size + 1))) (.int .u8 o) true).run Tryd.prog ((w.alloc (.cells #[.nilFunc, .nilFunc] 89)).alloc (.map (rules 7) 7)) = .ok (.tuple #[.agg #[fnV f, fnV g], .bool true]) ((w.alloc (.cells #[.nilFunc, .nilFunc] 89)).alloc (.map (rules 7) 7)) := by
    refine look_there _ (i := o - 1) Tryd.underlying102 Tryd.underlying5 (by simp) ?_
    rw [← hf.out]
    have : o = 1 ∨ o = 2 ∨ o = 3 ∨ o = 4 ∨ o = 5 ∨ o = 6 ∨ o = 7 := by omega
    rcases this with rfl | rfl | rfl | rfl | rfl | rfl | rfl <;> rfl
  have q1 : (Instr.mapUpdate 102 (.map (some (w.heap.size + 1))) (.int .u8 1) (.agg #[fnV 69, fnV 70])).run Tryd.prog ((w.alloc (.cells #[.nilFunc, .nilFunc] 89)).alloc (.map #[] 0)) = .ok () ((w.alloc (.cells #[.nilFunc, .nilFunc] 89)).alloc (.map (rules 1) 1)) := rule_put _ _ (by simp) 0 _ _ rfl rfl rfl
  have q2 : (Instr.mapUpdate 102 (.map (some (w.heap.size + 1))) (.int .u8 2) (.agg #[fnV 71, fnV 72])).run Tryd.prog ((w.alloc (.cells #[.nilFunc, .nilFunc] 89)).alloc (.map (rules 1) 1)) = .ok () ((w.alloc (.cells #[.nilFunc, .nilFunc] 89)).alloc (.map (rules 2) 2)) := rule_put _ _ (by simp) 1 _ _ rfl rfl rfl
  have q3 : (Instr.mapUpdate 102 (.map (some (w.heap.size + 1))) (.int .u8 3) (.agg #[fnV 73, fnV 74])).run Tryd.prog ((w.alloc (.cells #[.nilFunc, .nilFunc] 89)).alloc (.map (rules 2) 2)) = .ok () ((w.alloc (.cells #[.nilFunc, .nilFunc] 89)).alloc (.map (rules 3) 3)) := rule_put _ _ (by simp) 2 _ _ rfl rfl rfl
  have q4 : (Instr.mapUpdate 102 (.map (some (w.heap.size + 1))) (.int .u8 4) (.agg #[fnV 75, fnV 76])).run Tryd.prog ((w.alloc (.cells #[.nilFunc, .nilFunc] 89)).alloc (.map (rules 3) 3)) = .ok () ((w.alloc (.cells #[.nilFunc, .nilFunc] 89)).alloc (.map (rules 4) 4)) := rule_put _ _ (by simp) 3 _ _ rfl rfl rfl
  have q5 : (Instr.mapUpdate 102 (.map (some (w.heap.size + 1))) (.int .u8 5) (.agg #[fnV 77, fnV 78])).run Tryd.prog ((w.alloc (.cells #[.nilFunc, .nilFunc] 89)).alloc (.map (rules 4) 4)) = .ok () ((w.alloc (.cells #[.nilFunc, .nilFunc] 89)).alloc (.map (rules 5) 5)) := rule_put _ _ (by simp) 4 _ _ rfl rfl rfl
  have q6 : (Instr.mapUpdate 102 (.map (some (w.heap.size + 1))) (.int .u8 6) (.agg #[fnV 79, fnV 80])).run Tryd.prog ((w.alloc (.cells #[.nilFunc, .nilFunc] 89)).alloc (.map (rules 5) 5)) = .ok () ((w.alloc (.cells #[.nilFunc, .nilFunc] 89)).alloc (.map (rules 6) 6)) := rule_put _ _ (by simp) 5 _ _ rfl rfl rfl
  have q7 : (Instr.mapUpdate 102 (.map (some (w.heap.size + 1))) (.int .u8 7) (.agg #[fnV 81, fnV 82])).run Tryd.prog ((w.alloc (.cells #[.nilFunc, .nilFunc] 89)).alloc (.map (rules 6) 6)) = .ok () ((w.alloc (.cells #[.nilFunc, .nilFunc] 89)).alloc (.map (rules 7) 7)) := rule_put _ _ (by simp) 6 _ _ rfl rfl rfl
  clear h1 h7 hf
  go_enter Tryd.func57, Tryd.ntmps57
  go_wp2
  refine bodyPost_ret (v := .tuple #[.agg #[fnV f, fnV g], .bool true]) (by simp [results, Tryd.results57, go_sem]) rfl ⟨rfl, ?_⟩
  exact (((Below.refl _ _).alloc (Nat.le_refl _) _).alloc (by simp) _).alloc (by simp; omega) _

set_option maxHeartbeats 1000000 in
theorem ruleOf_none (o : Int) (h : ¬ (1 ≤ o ∧ o ≤ 7)) (w : World) : Calls Tryd.prog 57 #[.int .u8 o] w fun e w' => e = .returned (.tuple #[.agg #[.nilFunc, .nilFunc], .bool false]) ∧ Below w.heap.size w w' := by
  have hmm := @run_makeMap Tryd.prog
  have hl : (Instr.lookup 102 (.map (some (w.heap.size + 1))) (.int .u8 o) true).run Tryd.prog ((w.alloc (.cells #[.nilFunc, .nilFunc] 89)).alloc (.map (rules 7) 7)) = .ok (.tuple #[.agg #[.nilFunc, .nilFunc], .bool false]) ((w.alloc (.cells #[.nilFunc, .nilFunc] 89)).alloc (.map (rules 7) 7)) := by
    refine look_none _ Tryd.underlying102 Tryd.underlying5 (by simp) (zeroRule _) ?_
    have a1 : (o == 1) = false := by simp; omega
    have a2 : (o == 2) = false := by simp; omega
    have a3 : (o == 3) = false := by simp; omega
    have a4 : (o == 4) = false := by simp; omega
    have a5 : (o == 5) = false := by simp; omega
    have a6 : (o == 6) = false := by simp; omega
    have a7 : (o == 7) = false := by simp; omega
    simp [rules, Instr.findNow, Instr.sameNow, a1, a2, a3, a4, a5, a6, a7]
  have q1 : (Instr.mapUpdate 102 (.map (some (w.heap.size + 1))) (.int .u8 1) (.agg #[fnV 69, fnV 70])).run Tryd.prog ((w.alloc (.cells #[.nilFunc, .nilFunc] 89)).alloc (.map #[] 0)) = .ok () ((w.alloc (.cells #[.nilFunc, .nilFunc] 89)).alloc (.map (rules 1) 1)) := rule_put _ _ (by simp) 0 _ _ rfl rfl rfl
  have q2 : (Instr.mapUpdate 102 (.map (some (w.heap.size + 1))) (.int .u8 2) (.agg #[fnV 71, fnV 72])).run Tryd.prog ((w.alloc (.cells #[.nilFunc, .nilFunc] 89)).alloc (.map (rules 1) 1)) = .ok () ((w.alloc (.cells #[.nilFunc, .nilFunc] 89)).alloc (.map (rules 2) 2)) := rule_put _ _ (by simp) 1 _ _ rfl rfl rfl
  have q3 : (Instr.mapUpdate 102 (.map (some (w.heap.size + 1))) (.int .u8 3) (.agg #[fnV 73, fnV 74])).run Tryd.prog ((w.alloc (.cells #[.nilFunc, .nilFunc] 89)).alloc (.map (rules 2) 2)) = .ok () ((w.alloc (.cells #[.nilFunc, .nilFunc] 89)).alloc (.map (rules 3) 3)) := rule_put _ _ (by simp) 2 _ _ rfl rfl rfl
  have q4 : (Instr.mapUpdate 102 (.map (some (w.heap.size + 1))) (.int .u8 4) (.agg #[fnV 75, fnV 76])).run Tryd.prog ((w.alloc (.cells #[.nilFunc, .nilFunc] 89)).alloc (.map (rules 3) 3)) = .ok () ((w.alloc (.cells #[.nilFunc, .nilFunc] 89)).alloc (.map (rules 4) 4)) := rule_put _ _ (by simp) 3 _ _ rfl rfl rfl
  have q5 : (Instr.mapUpdate 102 (.map (some (w.heap.size + 1))) (.int .u8 5) (.agg #[fnV 77, fnV 78])).run Tryd.prog ((w.alloc (.cells #[.nilFunc, .nilFunc] 89)).alloc (.map (rules 4) 4)) = .ok () ((w.alloc (.cells #[.nilFunc, .nilFunc] 89)).alloc (.map (rules 5) 5)) := rule_put _ _ (by simp) 4 _ _ rfl rfl rfl
  have q6 : (Instr.mapUpdate 102 (.map (some (w.heap.size + 1))) (.int .u8 6) (.agg #[fnV 79, fnV 80])).run Tryd.prog ((w.alloc (.cells #[.nilFunc, .nilFunc] 89)).alloc (.map (rules 5) 5)) = .ok () ((w.alloc (.cells #[.nilFunc, .nilFunc] 89)).alloc (.map (rules 6) 6)) := rule_put _ _ (by simp) 5 _ _ rfl rfl rfl
  have q7 : (Instr.mapUpdate 102 (.map (some (w.heap.size + 1))) (.int .u8 7) (.agg #[fnV 81, fnV 82])).run Tryd.prog ((w.alloc (.cells #[.nilFunc, .nilFunc] 89)).alloc (.map (rules 6) 6)) = .ok () ((w.alloc (.cells #[.nilFunc, .nilFunc] 89)).alloc (.map (rules 7) 7)) := rule_put _ _ (by simp) 6 _ _ rfl rfl rfl
  clear h
  go_enter Tryd.func57, Tryd.ntmps57
  go_wp2
  refine bodyPost_ret (v := .tuple #[.agg #[.nilFunc, .nilFunc], .bool false]) (by simp [results, Tryd.results57, go_sem]) rfl ⟨rfl, ?_⟩
  exact (((Below.refl _ _).alloc (Nat.le_refl _) _).alloc (by simp) _).alloc (by simp; omega) _

end Go.Proofs.YtjnnfineebabaaaDoor
