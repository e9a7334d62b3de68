/- The contract of ruleOf of package order: which two functions an order has, or that there is none; nothing that lay is changed. -/
import Derived.WalkKit
import Derived.WalkSpells
import Derived.WideMake
import Derived.Laws.EntriesVeiled
import Derived.Lib.Hide
import Derived.Test.YtmiponffkhbniaaDoorL1Num
import Derived.Test.YtmiponffkhbniaaDoorProg
namespace Go.Proofs.YtmiponffkhbniaaDoor
open Go.RowKit

theorem set_push (a : Array Obj) (x y : Obj) : (a.push x).setIfInBounds a.size y = a.push y := by
  apply Array.ext'; simp
/-- a key that is not there is put into the map that was made last -/
theorem put_fresh {P : Program} (w : World) {t kt et : TypeId} {q : IntKind} {r : Nat} {es : Array MapEntry} {c : Nat} {k : Int} {v : Value} (hm : P.underlying t = some (.map kt et)) (hk : P.underlying kt = some (.int q)) (hr : w.heap.size = r)
    (hf : Instr.findNow (.int q) (.int q k) es.toList 0 = some none) :
    (Instr.mapUpdate t (.map (some r)) (.int q k) v).run P (w.alloc (.map es c)) = .ok () (w.alloc (.map (es.push ⟨.int q k, v, c⟩) (c + 1))) := by
  subst hr
  have hb : (w.alloc (.map es c)).heap[w.heap.size]? = some (.map es c) := (MapKept.heap_alloc w _).1
  have hc : (Instr.checkKey false 10000 kt (.int q k)).run P (w.alloc (.map es c)) = .ok () (w.alloc (.map es c)) := MapKept.run_checkKey (k := .int q k) hk (by simp [MapKept.IsKey]) false 9999
  simp [Instr.mapUpdate, run_underlying hm, MapKept.run_getObj_map hb, hc, MapKept.run_findKey hk hf, MapKept.run_setObj_map _ hb, Result.andThen]
  exact congrArg (fun h => ({ w with heap := h } : World)) (set_push w.heap _ _)
/-- a key that is there is found in the map that was made last -/
theorem look_there {P : Program} (w : World) {t kt et : TypeId} {q : IntKind} {r : Nat} {es : Array MapEntry} {c : Nat} {k : Int} {i : Nat} {v : Value} (hm : P.underlying t = some (.map kt et)) (hk : P.underlying kt = some (.int q)) (hr : w.heap.size = r)
    (hf : Instr.findNow (.int q) (.int q k) es.toList 0 = some (some (i, v))) :
    (Instr.lookup t (.map (some r)) (.int q k) true).run P (w.alloc (.map es c)) = .ok (.tuple #[v, .bool true]) (w.alloc (.map es c)) := by
  subst hr
  have hb : (w.alloc (.map es c)).heap[w.heap.size]? = some (.map es c) := (MapKept.heap_alloc w _).1
  have hc : (Instr.checkKey es.isEmpty 10000 kt (.int q k)).run P (w.alloc (.map es c)) = .ok () (w.alloc (.map es c)) := MapKept.run_checkKey (k := .int q k) hk (by simp [MapKept.IsKey]) _ 9999
  simp [Instr.lookup, run_underlying hm, MapKept.run_getObj_map hb, hc, MapKept.run_findKey hk hf, Result.andThen]
/-- one that is not there is told so -/
theorem look_none {P : Program} (w : World) {t kt et : TypeId} {q : IntKind} {r : Nat} {es : Array MapEntry} {c : Nat} {k : Int} {z : Value} (hm : P.underlying t = some (.map kt et)) (hk : P.underlying kt = some (.int q)) (hr : w.heap.size = r)
    (hz : (zeroValue et).run P (w.alloc (.map es c)) = .ok z (w.alloc (.map es c))) (hf : Instr.findNow (.int q) (.int q k) es.toList 0 = some none) :
    (Instr.lookup t (.map (some r)) (.int q k) true).run P (w.alloc (.map es c)) = .ok (.tuple #[z, .bool false]) (w.alloc (.map es c)) := by
  subst hr
  have hb : (w.alloc (.map es c)).heap[w.heap.size]? = some (.map es c) := (MapKept.heap_alloc w _).1
  have hc : (Instr.checkKey es.isEmpty 10000 kt (.int q k)).run P (w.alloc (.map es c)) = .ok () (w.alloc (.map es c)) := MapKept.run_checkKey (k := .int q k) hk (by simp [MapKept.IsKey]) _ 9999
  simp [Instr.lookup, run_underlying hm, MapKept.run_getObj_map hb, hc, MapKept.run_findKey hk hf, hz, Result.andThen]

/-- a function of the program, as a value -/
abbrev fnV (f : FuncId) : Value := .func (.func f) #[] #[]
/-- the two functions of each order -/
def ruleV : Nat → Value
  | 1 => .agg #[fnV 24, fnV 25]
  | 2 => .agg #[fnV 26, fnV 27]
  | 3 => .agg #[fnV 28, fnV 29]
  | 4 => .agg #[fnV 30, fnV 31]
  | 5 => .agg #[fnV 32, fnV 33]
  | 6 => .agg #[fnV 34, fnV 35]
  | 7 => .agg #[fnV 36, fnV 37]
  | _ => .agg #[.nilFunc, .nilFunc]
/-- the map with its first k entries -/
def rules : Nat → Array MapEntry
  | 0 => #[]
  | k + 1 => (rules k).push ⟨.int .u8 ((k + 1 : Nat) : Int), ruleV (k + 1), k⟩
theorem zeroRule (w : World) : (zeroValue 41).run Tryd.prog w = .ok (.agg #[.nilFunc, .nilFunc]) w := by kernel_rfl

/-- the eight equations that the walk of ruleOf takes, over the world in which the map is made -/
theorem rule_put (w : World) (r : Nat) (hr : w.heap.size = r) (k : Nat) (v : Value) (n : Int) (hv : ruleV (k + 1) = v) (hn : ((k + 1 : Nat) : Int) = n) (hf : Instr.findNow (.int .u8) (.int .u8 n) (rules k).toList 0 = some none) :
    (Instr.mapUpdate 48 (.map (some r)) (.int .u8 n) v).run Tryd.prog (w.alloc (.map (rules k) k)) = .ok () (w.alloc (.map (rules (k + 1)) (k + 1))) := by
  subst hv hn
  exact put_fresh w Tryd.underlying48 Tryd.underlying5 hr hf


set_option maxHeartbeats 1000000 in
theorem ruleOf_at (o : Nat) (h1 : 1 ≤ o) (h7 : o ≤ 7) (f g : FuncId) (hf : Hid (ruleV o = .agg #[fnV f, fnV g])) (w : World) : Calls Tryd.prog 18 #[.int .u8 o] w fun e w' => e = .returned (.tuple #[.agg #[fnV f, fnV g], .bool true]) ∧ Below w.heap.size w w' := by
  have hmm := @run_makeMap Tryd.prog
  have hl : (Instr.lookup 48 (.map (some (w.heap.size + 1))) (.int .u8 o) true).run Tryd.prog ((w.alloc (.cells #[.nilFunc, .nilFunc] 41)).alloc (.map (rules 7) 7)) = .ok (.tuple #[.agg #[fnV f, fnV g], .bool true]) ((w.alloc (.cells #[.nilFunc, .nilFunc] 41)).alloc (.map (rules 7) 7)) := by
    refine look_there _ (i := o - 1) Tryd.underlying48 Tryd.underlying5 (by simp) ?_
    rw [← hf.out]
    have : o = 1 ∨ o = 2 ∨ o = 3 ∨ o = 4 ∨ o = 5 ∨ o = 6 ∨ o = 7 := by omega
    rcases this with rfl | rfl | rfl | rfl | rfl | rfl | rfl <;> rfl
  have q1 : (Instr.mapUpdate 48 (.map (some (w.heap.size + 1))) (.int .u8 1) (.agg #[fnV 24, fnV 25])).run Tryd.prog ((w.alloc (.cells #[.nilFunc, .nilFunc] 41)).alloc (.map #[] 0)) = .ok () ((w.alloc (.cells #[.nilFunc, .nilFunc] 41)).alloc (.map (rules 1) 1)) := rule_put _ _ (by simp) 0 _ _ rfl rfl rfl
  have q2 : (Instr.mapUpdate 48 (.map (some (w.heap.size + 1))) (.int .u8 2) (.agg #[fnV 26, fnV 27])).run Tryd.prog ((w.alloc (.cells #[.nilFunc, .nilFunc] 41)).alloc (.map (rules 1) 1)) = .ok () ((w.alloc (.cells #[.nilFunc, .nilFunc] 41)).alloc (.map (rules 2) 2)) := rule_put _ _ (by simp) 1 _ _ rfl rfl rfl
  have q3 : (Instr.mapUpdate 48 (.map (some (w.heap.size + 1))) (.int .u8 3) (.agg #[fnV 28, fnV 29])).run Tryd.prog ((w.alloc (.cells #[.nilFunc, .nilFunc] 41)).alloc (.map (rules 2) 2)) = .ok () ((w.alloc (.cells #[.nilFunc, .nilFunc] 41)).alloc (.map (rules 3) 3)) := rule_put _ _ (by simp) 2 _ _ rfl rfl rfl
  have q4 : (Instr.mapUpdate 48 (.map (some (w.heap.size + 1))) (.int .u8 4) (.agg #[fnV 30, fnV 31])).run Tryd.prog ((w.alloc (.cells #[.nilFunc, .nilFunc] 41)).alloc (.map (rules 3) 3)) = .ok () ((w.alloc (.cells #[.nilFunc, .nilFunc] 41)).alloc (.map (rules 4) 4)) := rule_put _ _ (by simp) 3 _ _ rfl rfl rfl
  have q5 : (Instr.mapUpdate 48 (.map (some (w.heap.size + 1))) (.int .u8 5) (.agg #[fnV 32, fnV 33])).run Tryd.prog ((w.alloc (.cells #[.nilFunc, .nilFunc] 41)).alloc (.map (rules 4) 4)) = .ok () ((w.alloc (.cells #[.nilFunc, .nilFunc] 41)).alloc (.map (rules 5) 5)) := rule_put _ _ (by simp) 4 _ _ rfl rfl rfl
  have q6 : (Instr.mapUpdate 48 (.map (some (w.heap.size + 1))) (.int .u8 6) (.agg #[fnV 34, fnV 35])).run Tryd.prog ((w.alloc (.cells #[.nilFunc, .nilFunc] 41)).alloc (.map (rules 5) 5)) = .ok () ((w.alloc (.cells #[.nilFunc, .nilFunc] 41)).alloc (.map (rules 6) 6)) := rule_put _ _ (by simp) 5 _ _ rfl rfl rfl
  have q7 : (Instr.mapUpdate 48 (.map (some (w.heap.size + 1))) (.int .u8 7) (.agg #[fnV 36, fnV 37])).run Tryd.prog ((w.alloc (.cells #[.nilFunc, .nilFunc] 41)).alloc (.map (rules 6) 6)) = .ok () ((w.alloc (.cells #[.nilFunc, .nilFunc] 41)).alloc (.map (rules 7) 7)) := rule_put _ _ (by simp) 6 _ _ rfl rfl rfl
  clear h1 h7 hf
  go_enter Tryd.func18, Tryd.ntmps18
  go_wp2
  refine bodyPost_ret (v := .tuple #[.agg #[fnV f, fnV g], .bool true]) (by simp [results, Tryd.results18, go_sem]) rfl ⟨rfl, ?_⟩
  exact (((Below.refl _ _).alloc (Nat.le_refl _) _).alloc (by simp) _).alloc (by simp; omega) _

set_option maxHeartbeats 1000000 in
theorem ruleOf_none (o : Int) (h : ¬ (1 ≤ o ∧ o ≤ 7)) (w : World) : Calls Tryd.prog 18 #[.int .u8 o] w fun e w' => e = .returned (.tuple #[.agg #[.nilFunc, .nilFunc], .bool false]) ∧ Below w.heap.size w w' := by
  have hmm := @run_makeMap Tryd.prog
  have hl : (Instr.lookup 48 (.map (some (w.heap.size + 1))) (.int .u8 o) true).run Tryd.prog ((w.alloc (.cells #[.nilFunc, .nilFunc] 41)).alloc (.map (rules 7) 7)) = .ok (.tuple #[.agg #[.nilFunc, .nilFunc], .bool false]) ((w.alloc (.cells #[.nilFunc, .nilFunc] 41)).alloc (.map (rules 7) 7)) := by
    refine look_none _ Tryd.underlying48 Tryd.underlying5 (by simp) (zeroRule _) ?_
    have a1 : (o == 1) = false := by simp; omega
    have a2 : (o == 2) = false := by simp; omega
    have a3 : (o == 3) = false := by simp; omega
    have a4 : (o == 4) = false := by simp; omega
    have a5 : (o == 5) = false := by simp; omega
    have a6 : (o == 6) = false := by simp; omega
    have a7 : (o == 7) = false := by simp; omega
    simp [rules, Instr.findNow, Instr.sameNow, a1, a2, a3, a4, a5, a6, a7]
  have q1 : (Instr.mapUpdate 48 (.map (some (w.heap.size + 1))) (.int .u8 1) (.agg #[fnV 24, fnV 25])).run Tryd.prog ((w.alloc (.cells #[.nilFunc, .nilFunc] 41)).alloc (.map #[] 0)) = .ok () ((w.alloc (.cells #[.nilFunc, .nilFunc] 41)).alloc (.map (rules 1) 1)) := rule_put _ _ (by simp) 0 _ _ rfl rfl rfl
  have q2 : (Instr.mapUpdate 48 (.map (some (w.heap.size + 1))) (.int .u8 2) (.agg #[fnV 26, fnV 27])).run Tryd.prog ((w.alloc (.cells #[.nilFunc, .nilFunc] 41)).alloc (.map (rules 1) 1)) = .ok () ((w.alloc (.cells #[.nilFunc, .nilFunc] 41)).alloc (.map (rules 2) 2)) := rule_put _ _ (by simp) 1 _ _ rfl rfl rfl
  have q3 : (Instr.mapUpdate 48 (.map (some (w.heap.size + 1))) (.int .u8 3) (.agg #[fnV 28, fnV 29])).run Tryd.prog ((w.alloc (.cells #[.nilFunc, .nilFunc] 41)).alloc (.map (rules 2) 2)) = .ok () ((w.alloc (.cells #[.nilFunc, .nilFunc] 41)).alloc (.map (rules 3) 3)) := rule_put _ _ (by simp) 2 _ _ rfl rfl rfl
  have q4 : (Instr.mapUpdate 48 (.map (some (w.heap.size + 1))) (.int .u8 4) (.agg #[fnV 30, fnV 31])).run Tryd.prog ((w.alloc (.cells #[.nilFunc, .nilFunc] 41)).alloc (.map (rules 3) 3)) = .ok () ((w.alloc (.cells #[.nilFunc, .nilFunc] 41)).alloc (.map (rules 4) 4)) := rule_put _ _ (by simp) 3 _ _ rfl rfl rfl
  have q5 : (Instr.mapUpdate 48 (.map (some (w.heap.size + 1))) (.int .u8 5) (.agg #[fnV 32, fnV 33])).run Tryd.prog ((w.alloc (.cells #[.nilFunc, .nilFunc] 41)).alloc (.map (rules 4) 4)) = .ok () ((w.alloc (.cells #[.nilFunc, .nilFunc] 41)).alloc (.map (rules 5) 5)) := rule_put _ _ (by simp) 4 _ _ rfl rfl rfl
  have q6 : (Instr.mapUpdate 48 (.map (some (w.heap.size + 1))) (.int .u8 6) (.agg #[fnV 34, fnV 35])).run Tryd.prog ((w.alloc (.cells #[.nilFunc, .nilFunc] 41)).alloc (.map (rules 5) 5)) = .ok () ((w.alloc (.cells #[.nilFunc, .nilFunc] 41)).alloc (.map (rules 6) 6)) := rule_put _ _ (by simp) 5 _ _ rfl rfl rfl
  have q7 : (Instr.mapUpdate 48 (.map (some (w.heap.size + 1))) (.int .u8 7) (.agg #[fnV 36, fnV 37])).run Tryd.prog ((w.alloc (.cells #[.nilFunc, .nilFunc] 41)).alloc (.map (rules 6) 6)) = .ok () ((w.alloc (.cells #[.nilFunc, .nilFunc] 41)).alloc (.map (rules 7) 7)) := rule_put _ _ (by simp) 6 _ _ rfl rfl rfl
  clear h
  go_enter Tryd.func18, Tryd.ntmps18
  go_wp2
  refine bodyPost_ret (v := .tuple #[.agg #[.nilFunc, .nilFunc], .bool false]) (by simp [results, Tryd.results18, go_sem]) rfl ⟨rfl, ?_⟩
  exact (((Below.refl _ _).alloc (Nat.le_refl _) _).alloc (by simp) _).alloc (by simp; omega) _

end Go.Proofs.YtmiponffkhbniaaDoor
