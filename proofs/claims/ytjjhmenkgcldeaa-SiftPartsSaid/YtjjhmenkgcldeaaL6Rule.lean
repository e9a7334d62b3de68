/- The contract of ruleOf of package sift: which rule a predicate's kind has, or that there is none; nothing that lay is changed. -/
import Derived.Test.YtjjhmenkgcldeaaL6Leaf
import Derived.Test.YtjjhmenkgcldeaaProg
import Derived.Shelf.Abstract
namespace Go.Proofs.Ytjjhmenkgcldeaa
open Go.RowKit Go.Shelf Go.Proofs.Rowm Go.Proofs.Siftm

/-- a closure over the predicate -/
abbrev cloV (f : FuncId) (r : Nat) : Value := .func (.func f) #[] #[.pointer (some ⟨r, 0, none⟩)]
/-- the rule of each kind: whether it may be (of the three kinds that ask), the block of the predicate -/
def rulV (m1 m4 m5 : Bool) (r : Nat) : Nat → Value
  | 1 => .agg #[.bool m1, fnV 23]
  | 2 => .agg #[.bool true, cloV 24 r]
  | 3 => .agg #[.bool true, cloV 25 r]
  | 4 => .agg #[.bool m4, cloV 26 r]
  | 5 => .agg #[.bool m5, cloV 28 r]
  | _ => .agg #[.bool false, .nilFunc]
/-- the map with its first k entries -/
def ruls (m1 m4 m5 : Bool) (r : Nat) : Nat → Array MapEntry
  | 0 => #[]
  | k + 1 => (ruls m1 m4 m5 r k).push ⟨.int .u8 ((k + 1 : Nat) : Int), rulV m1 m4 m5 r (k + 1), k⟩
theorem zeroRule (w : World) : (zeroValue 48).run Try.prog w = .ok (.agg #[.bool false, .nilFunc]) w := by kernel_rfl
theorem rule_put {m1 m4 m5 : Bool} {s : Nat} (w : World) (r : Nat) (hr : w.heap.size = r) (k : Nat) (v : Value) (n : Int) (hv : rulV m1 m4 m5 s (k + 1) = v) (hn : ((k + 1 : Nat) : Int) = n) (hf : Instr.findNow (.int .u8) (.int .u8 n) (ruls m1 m4 m5 s k).toList 0 = some none) :
    (Instr.mapUpdate 52 (.map (some r)) (.int .u8 n) v).run Try.prog (w.alloc (.map (ruls m1 m4 m5 s k) k)) = .ok () (w.alloc (.map (ruls m1 m4 m5 s (k + 1)) (k + 1))) := by
  subst hv hn
  exact put_fresh w Try.underlying52 Try.underlying5 hr hf

/-- the world ahead of the map: the predicate, and the result -/
abbrev ruleW (w : World) (p : Pd) : World := (w.alloc (.cells (pdC p) 23)).alloc (.cells #[.bool false, .nilFunc] 48)
theorem look_rule {m1 m4 m5 : Bool} (w : World) (p : Pd) (h1 : 1 ≤ p.k) (h5 : p.k ≤ 5) (v : Value) (hv : rulV m1 m4 m5 w.heap.size p.k = v) :
    (Instr.lookup 52 (.map (some (w.heap.size + 2))) (.int .u8 p.k) true).run Try.prog ((ruleW w p).alloc (.map (ruls m1 m4 m5 w.heap.size 5) 5)) = .ok (.tuple #[v, .bool true]) ((ruleW w p).alloc (.map (ruls m1 m4 m5 w.heap.size 5) 5)) := by
  refine look_there _ (i := p.k - 1) Try.underlying52 Try.underlying5 (by simp) ?_
  rw [← hv]
  generalize p.k = k at h1 h5 ⊢
  have : k = 1 ∨ k = 2 ∨ k = 3 ∨ k = 4 ∨ k = 5 := by omega
  rcases this with rfl | rfl | rfl | rfl | rfl <;> rfl
theorem look_norule {m1 m4 m5 : Bool} (w : World) (p : Pd) (h : ¬ (1 ≤ p.k ∧ p.k ≤ 5)) :
    (Instr.lookup 52 (.map (some (w.heap.size + 2))) (.int .u8 p.k) true).run Try.prog ((ruleW w p).alloc (.map (ruls m1 m4 m5 w.heap.size 5) 5)) = .ok (.tuple #[.agg #[.bool false, .nilFunc], .bool false]) ((ruleW w p).alloc (.map (ruls m1 m4 m5 w.heap.size 5) 5)) := by
  refine look_none _ Try.underlying52 Try.underlying5 (by simp) (zeroRule _) ?_
  generalize p.k = k at h
  have a1 : ((k : Int) == 1) = false := by simp; omega
  have a2 : ((k : Int) == 2) = false := by simp; omega
  have a3 : ((k : Int) == 3) = false := by simp; omega
  have a4 : ((k : Int) == 4) = false := by simp; omega
  have a5 : ((k : Int) == 5) = false := by simp; omega
  simp [ruls, Instr.findNow, Instr.sameNow, a1, a2, a3, a4, a5]

theorem below3 (w : World) (a b c : Obj) : Below w.heap.size w (((w.alloc a).alloc b).alloc c) := (((Below.refl _ _).alloc (Nat.le_refl _) _).alloc (by simp) _).alloc (by simp; omega) _
set_option maxHeartbeats 4000000 in
theorem ruleOf_at (p : Pd) (w : World) (t1 t2 u1 u2 u3 m1 m4 : Bool) (e1 : (p.a.toInt == 0) = t1) (e2 : decide (0 ≤ p.b.toInt) = t2) (e3 : (p.b.toInt == 0) = u1) (e4 : decide (p.b.toInt < p.a.toInt) = u2) (e5 : (bits BinOp.andNot IntKind.i64 p.b.toInt p.a.toInt == 0) = u3)
    (c1 : Hid ((t1 = true ∧ u1 = m1) ∨ (t1 = false ∧ false = m1))) (c2 : Hid ((t2 = true ∧ u2 = m4) ∨ (t2 = false ∧ false = m4)))
    (h1 : 1 ≤ p.k) (h5 : p.k ≤ 5) (m : Bool) (f : FuncId) (cs : Array Value) (hf : rulV m1 m4 u3 w.heap.size p.k = .agg #[.bool m, .func (.func f) #[] cs]) :
    Calls Try.prog 20 #[pdV p] w fun e w' => e = .returned (.tuple #[.agg #[.bool m, .func (.func f) #[] cs], .bool true]) ∧ Has w' w.heap.size 23 (pdC p) ∧ Below w.heap.size w w' := by
  have hmm := @run_makeMap Try.prog
  have hl := look_rule w p h1 h5 _ hf
  have q1 := rule_put (m1 := m1) (m4 := m4) (m5 := u3) (s := w.heap.size) (ruleW w p) (w.heap.size + 2) (by simp) 0 _ 1 rfl rfl rfl
  have q2 := rule_put (m1 := m1) (m4 := m4) (m5 := u3) (s := w.heap.size) (ruleW w p) (w.heap.size + 2) (by simp) 1 _ 2 rfl rfl rfl
  have q3 := rule_put (m1 := m1) (m4 := m4) (m5 := u3) (s := w.heap.size) (ruleW w p) (w.heap.size + 2) (by simp) 2 _ 3 rfl rfl rfl
  have q4 := rule_put (m1 := m1) (m4 := m4) (m5 := u3) (s := w.heap.size) (ruleW w p) (w.heap.size + 2) (by simp) 3 _ 4 rfl rfl rfl
  have q5 := rule_put (m1 := m1) (m4 := m4) (m5 := u3) (s := w.heap.size) (ruleW w p) (w.heap.size + 2) (by simp) 4 _ 5 rfl rfl rfl
  rw [show ruls m1 m4 u3 w.heap.size 0 = #[] from rfl] at q1
  simp only [rulV, Nat.zero_add, Nat.reduceAdd] at q1 q2 q3 q4 q5
  clear h1 h5 hf
  go_enter Try.func20, Try.ntmps20
  rcases c1.out with ⟨rfl, rfl⟩ | ⟨rfl, rfl⟩ <;> rcases c2.out with ⟨rfl, rfl⟩ | ⟨rfl, rfl⟩
  all_goals
    go_wp2
    refine bodyPost_ret (v := .tuple #[.agg #[.bool m, .func (.func f) #[] cs], .bool true]) (by simp [results, Try.results20, go_sem]) rfl ⟨rfl, ?_, ?_⟩
    · exact (((Has.new w 23 (pdC p)).alloc _).alloc _).alloc _
    · exact (below3 w _ _ _).alloc (by simp; omega) _
set_option maxHeartbeats 4000000 in
theorem ruleOf_none (p : Pd) (w : World) (t1 t2 u1 u2 u3 m1 m4 : Bool) (e1 : (p.a.toInt == 0) = t1) (e2 : decide (0 ≤ p.b.toInt) = t2) (e3 : (p.b.toInt == 0) = u1) (e4 : decide (p.b.toInt < p.a.toInt) = u2) (e5 : (bits BinOp.andNot IntKind.i64 p.b.toInt p.a.toInt == 0) = u3)
    (c1 : Hid ((t1 = true ∧ u1 = m1) ∨ (t1 = false ∧ false = m1))) (c2 : Hid ((t2 = true ∧ u2 = m4) ∨ (t2 = false ∧ false = m4)))
    (h : ¬ (1 ≤ p.k ∧ p.k ≤ 5)) :
    Calls Try.prog 20 #[pdV p] w fun e w' => e = .returned (.tuple #[.agg #[.bool false, .nilFunc], .bool false]) ∧ Has w' w.heap.size 23 (pdC p) ∧ Below w.heap.size w w' := by
  have hmm := @run_makeMap Try.prog
  have hl := look_norule (m1 := m1) (m4 := m4) (m5 := u3) w p h
  have q1 := rule_put (m1 := m1) (m4 := m4) (m5 := u3) (s := w.heap.size) (ruleW w p) (w.heap.size + 2) (by simp) 0 _ 1 rfl rfl rfl
  have q2 := rule_put (m1 := m1) (m4 := m4) (m5 := u3) (s := w.heap.size) (ruleW w p) (w.heap.size + 2) (by simp) 1 _ 2 rfl rfl rfl
  have q3 := rule_put (m1 := m1) (m4 := m4) (m5 := u3) (s := w.heap.size) (ruleW w p) (w.heap.size + 2) (by simp) 2 _ 3 rfl rfl rfl
  have q4 := rule_put (m1 := m1) (m4 := m4) (m5 := u3) (s := w.heap.size) (ruleW w p) (w.heap.size + 2) (by simp) 3 _ 4 rfl rfl rfl
  have q5 := rule_put (m1 := m1) (m4 := m4) (m5 := u3) (s := w.heap.size) (ruleW w p) (w.heap.size + 2) (by simp) 4 _ 5 rfl rfl rfl
  rw [show ruls m1 m4 u3 w.heap.size 0 = #[] from rfl] at q1
  simp only [rulV, Nat.zero_add, Nat.reduceAdd] at q1 q2 q3 q4 q5
  clear h
  go_enter Try.func20, Try.ntmps20
  rcases c1.out with ⟨rfl, rfl⟩ | ⟨rfl, rfl⟩ <;> rcases c2.out with ⟨rfl, rfl⟩ | ⟨rfl, rfl⟩
  all_goals
    go_wp2
    refine bodyPost_ret (v := .tuple #[.agg #[.bool false, .nilFunc], .bool false]) (by simp [results, Try.results20, go_sem]) rfl ⟨rfl, ?_, ?_⟩
    · exact (((Has.new w 23 (pdC p)).alloc _).alloc _).alloc _
    · exact (below3 w _ _ _).alloc (by simp; omega) _

/-- what ruleOf tells of a predicate that may be: a function, and whether it takes a pair, as long as the predicate lies there -/
def RuleYes (p : Pd) (w : World) (r : Nat) (e : Ending) (w' : World) : Prop :=
  ∃ (f : FuncId) (cs : Array Value), (cs = #[] ∨ cs = #[.pointer (some ⟨r, 0, none⟩)]) ∧ e = .returned (.tuple #[.agg #[.bool true, .func (.func f) #[] cs], .bool true]) ∧
    (∀ args w, (callFunc f args).run Try.prog w = .ok (.enter f args) w) ∧
    (∀ x W, Has W r 23 (pdC p) → Calls Try.prog f (#[pV x] ++ cs) W fun e W' => e = .returned (.bool (sel p.k p.a p.b x)) ∧ Below W.heap.size W W') ∧
    Has w' r 23 (pdC p) ∧ Below w.heap.size w w'
/-- what it tells of one that may not be -/
def RuleNo (w : World) (e : Ending) (w' : World) : Prop :=
  ((∃ (f : FuncId) (cs : Array Value), e = .returned (.tuple #[.agg #[.bool false, .func (.func f) #[] cs], .bool true])) ∨ e = .returned (.tuple #[.agg #[.bool false, .nilFunc], .bool false])) ∧ Below w.heap.size w w'

theorem and_cases (t u : Bool) : Hid ((t = true ∧ u = (t && u)) ∨ (t = false ∧ false = (t && u))) := by
  show (t = true ∧ u = (t && u)) ∨ (t = false ∧ false = (t && u))
  cases t <;> simp
theorem bits_none (a b : BitVec 64) : (bits BinOp.andNot IntKind.i64 b.toInt a.toInt == 0) = decide (b &&& ~~~a = 0#64) := by
  rw [b_andNot]
  exact i_beq (b &&& ~~~a) 0#64
theorem rule_is (p : Pd) (r : Nat) (h : 1 ≤ p.k ∧ p.k ≤ 5) : ∃ f cs, (cs = #[] ∨ cs = #[.pointer (some ⟨r, 0, none⟩)]) ∧ rulV ((p.a.toInt == 0) && (p.b.toInt == 0)) (decide (0 ≤ p.b.toInt) && decide (p.b.toInt < p.a.toInt)) (decide (p.b &&& ~~~p.a = 0#64)) r p.k = .agg #[.bool (may p), .func (.func f) #[] cs] ∧
    (∀ args w, (callFunc f args).run Try.prog w = .ok (.enter f args) w) ∧
    (may p = true → ∀ x W, Has W r 23 (pdC p) → Calls Try.prog f (#[pV x] ++ cs) W fun e W' => e = .returned (.bool (sel p.k p.a p.b x)) ∧ Below W.heap.size W W') := by
  obtain ⟨k, a, b, n⟩ := p
  have : k = 1 ∨ k = 2 ∨ k = 3 ∨ k = 4 ∨ k = 5 := by simp at h; omega
  rcases this with rfl | rfl | rfl | rfl | rfl
  · exact ⟨_, _, .inl rfl, rfl, enters_of Try.func23 (by kernel_rfl) rfl, fun _ x W _ => all_any x W⟩
  · exact ⟨_, _, .inr rfl, rfl, enters_of Try.func24 (by kernel_rfl) rfl, fun _ x W hW => key_any _ x r W hW⟩
  · exact ⟨_, _, .inr rfl, rfl, enters_of Try.func25 (by kernel_rfl) rfl, fun _ x W hW => val_any _ x r W hW⟩
  · exact ⟨_, _, .inr rfl, rfl, enters_of Try.func26 (by kernel_rfl) rfl, fun hm x W hW => mod_any _ (may_pos hm) x r W hW⟩
  · exact ⟨_, _, .inr rfl, rfl, enters_of Try.func28 (by kernel_rfl) rfl, fun _ x W hW => bits_any _ x r W hW⟩

theorem ruleOf_yes (p : Pd) (hm : may p = true) (w : World) (r : Nat) (hz : w.heap.size = r) : Calls Try.prog 20 #[pdV p] w (RuleYes p w r) := by
  subst hz
  have hr := may_range hm
  obtain ⟨f, cs, hcs, hv, he, hC⟩ := rule_is p w.heap.size hr
  rw [hm] at hv
  refine (ruleOf_at p w _ _ _ _ _ _ _ rfl rfl rfl rfl (bits_none _ _) (and_cases _ _) (and_cases _ _) hr.1 hr.2 true f cs hv).mono ?_
  rintro e w' ⟨rfl, hh, hb⟩
  exact ⟨f, cs, hcs, rfl, he, hC hm, hh, hb⟩
theorem ruleOf_no (p : Pd) (hm : may p = false) (w : World) : Calls Try.prog 20 #[pdV p] w (RuleNo w) := by
  by_cases hr : 1 ≤ p.k ∧ p.k ≤ 5
  · obtain ⟨f, cs, hcs, hv, he, hC⟩ := rule_is p w.heap.size hr
    rw [hm] at hv
    refine (ruleOf_at p w _ _ _ _ _ _ _ rfl rfl rfl rfl (bits_none _ _) (and_cases _ _) (and_cases _ _) hr.1 hr.2 false f cs hv).mono ?_
    rintro e w' ⟨rfl, hh, hb⟩
    exact ⟨.inl ⟨f, cs, rfl⟩, hb⟩
  · refine (ruleOf_none p w _ _ _ _ _ _ _ rfl rfl rfl rfl (bits_none _ _) (and_cases _ _) (and_cases _ _) hr).mono ?_
    rintro e w' ⟨rfl, hh, hb⟩
    exact ⟨.inr rfl, hb⟩
end Go.Proofs.Ytjjhmenkgcldeaa
