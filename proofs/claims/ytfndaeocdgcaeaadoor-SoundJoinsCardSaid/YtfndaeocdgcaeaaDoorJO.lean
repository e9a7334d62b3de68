/- Layer 12: package sound as it landed answers as it has to. -/
import Derived.WalkKit
import Derived.WalkSpells
import Derived.WideMake
import Derived.Laws.EntriesVeiled
import Derived.Lib.Hide
import Derived.Test.YtfndaeocdgcaeaaDoorL1Num
import Derived.Test.YtfndaeocdgcaeaaDoorProg
import Derived.Test.YtfndaeocdgcaeaaDoorL2Leaf
import Derived.Deep.RegionHeld3
import Derived.Test.YtfndaeocdgcaeaaDoorJF
import Derived.Test.YtfndaeocdgcaeaaDoorL9Steps
import Derived.Laws.StructEq
import Derived.StillTailTactics
import Derived.Test.YtfndaeocdgcaeaaDoorJC
import Derived.Test.YtfndaeocdgcaeaaDoorJE
/- Maps that a call makes, by a literal, keyed by integers: a key put that is not there, a key looked up that is there, or that is not. -/
namespace Go.Proofs.YtfndaeocdgcaeaaDoor
open Go.RowKit

theorem set_push (a : Array Obj) (x y : Obj) : (a.push x).setIfInBounds a.size y = a.push y := by
  apply Array.ext'; simp
/-- a key that is not there is put into the map that was made last -/
theorem put_fresh {P : Program} (w : World) {t kt et : TypeId} {q : IntKind} {r : Nat} {es : Array MapEntry} {c : Nat} {k : Int} {v : Value} (hm : P.underlying t = some (.map kt et)) (hk : P.underlying kt = some (.int q)) (hr : w.heap.size = r)
    (hf : Instr.findNow (.int q) (.int q k) es.toList 0 = some none) :
    (Instr.mapUpdate t (.map (some r)) (.int q k) v).run P (w.alloc (.map es c)) = .ok () (w.alloc (.map (es.push ⟨.int q k, v, c⟩) (c + 1))) := by
  subst hr
  have hb : (w.alloc (.map es c)).heap[w.heap.size]? = some (.map es c) := (MapKept.heap_alloc w _).1
  have hc : (Instr.checkKey false 10000 kt (.int q k)).run P (w.alloc (.map es c)) = .ok () (w.alloc (.map es c)) := MapKept.run_checkKey (k := .int q k) hk (by simp [MapKept.IsKey]) false 9999
  simp [Instr.mapUpdate, run_underlying hm, MapKept.run_getObj_map hb, hc, MapKept.run_findKey hk hf, MapKept.run_setObj_map _ hb, Result.andThen]
  exact congrArg (fun h => ({ w with heap := h } : World)) (set_push w.heap _ _)
/-- a key that is there is found in the map that was made last -/
theorem look_there {P : Program} (w : World) {t kt et : TypeId} {q : IntKind} {r : Nat} {es : Array MapEntry} {c : Nat} {k : Int} {i : Nat} {v : Value} (hm : P.underlying t = some (.map kt et)) (hk : P.underlying kt = some (.int q)) (hr : w.heap.size = r)
    (hf : Instr.findNow (.int q) (.int q k) es.toList 0 = some (some (i, v))) :
    (Instr.lookup t (.map (some r)) (.int q k) true).run P (w.alloc (.map es c)) = .ok (.tuple #[v, .bool true]) (w.alloc (.map es c)) := by
  subst hr
  have hb : (w.alloc (.map es c)).heap[w.heap.size]? = some (.map es c) := (MapKept.heap_alloc w _).1
  have hc : (Instr.checkKey es.isEmpty 10000 kt (.int q k)).run P (w.alloc (.map es c)) = .ok () (w.alloc (.map es c)) := MapKept.run_checkKey (k := .int q k) hk (by simp [MapKept.IsKey]) _ 9999
  simp [Instr.lookup, run_underlying hm, MapKept.run_getObj_map hb, hc, MapKept.run_findKey hk hf, Result.andThen]
/-- one that is not there is told so -/
theorem look_none {P : Program} (w : World) {t kt et : TypeId} {q : IntKind} {r : Nat} {es : Array MapEntry} {c : Nat} {k : Int} {z : Value} (hm : P.underlying t = some (.map kt et)) (hk : P.underlying kt = some (.int q)) (hr : w.heap.size = r)
    (hz : (zeroValue et).run P (w.alloc (.map es c)) = .ok z (w.alloc (.map es c))) (hf : Instr.findNow (.int q) (.int q k) es.toList 0 = some none) :
    (Instr.lookup t (.map (some r)) (.int q k) true).run P (w.alloc (.map es c)) = .ok (.tuple #[z, .bool false]) (w.alloc (.map es c)) := by
  subst hr
  have hb : (w.alloc (.map es c)).heap[w.heap.size]? = some (.map es c) := (MapKept.heap_alloc w _).1
  have hc : (Instr.checkKey es.isEmpty 10000 kt (.int q k)).run P (w.alloc (.map es c)) = .ok () (w.alloc (.map es c)) := MapKept.run_checkKey (k := .int q k) hk (by simp [MapKept.IsKey]) _ 9999
  simp [Instr.lookup, run_underlying hm, MapKept.run_getObj_map hb, hc, MapKept.run_findKey hk hf, hz, Result.andThen]

/-- a function of the program, as a value -/
abbrev fnV (f : FuncId) : Value := .func (.func f) #[] #[]
end Go.Proofs.YtfndaeocdgcaeaaDoor
/- The contract of ruleOf of package order: which two functions an order has, or that there is none; nothing that lay is changed. -/
namespace Go.Proofs.YtfndaeocdgcaeaaDoor
open Go.RowKit

/-- the two functions of each order -/
def ruleV : Nat → Value
  | 1 => .agg #[fnV 50, fnV 51]
  | 2 => .agg #[fnV 52, fnV 53]
  | 3 => .agg #[fnV 54, fnV 55]
  | 4 => .agg #[fnV 56, fnV 57]
  | 5 => .agg #[fnV 58, fnV 59]
  | 6 => .agg #[fnV 60, fnV 61]
  | 7 => .agg #[fnV 62, fnV 63]
  | _ => .agg #[.nilFunc, .nilFunc]
/-- the map with its first k entries -/
def rules : Nat → Array MapEntry
  | 0 => #[]
  | k + 1 => (rules k).push ⟨.int .u8 ((k + 1 : Nat) : Int), ruleV (k + 1), k⟩
theorem zeroRule (w : World) : (zeroValue 72).run Tryd.prog w = .ok (.agg #[.nilFunc, .nilFunc]) w := by kernel_rfl

/-- the eight equations that the walk of ruleOf takes, over the world in which the map is made -/
theorem rule_put (w : World) (r : Nat) (hr : w.heap.size = r) (k : Nat) (v : Value) (n : Int) (hv : ruleV (k + 1) = v) (hn : ((k + 1 : Nat) : Int) = n) (hf : Instr.findNow (.int .u8) (.int .u8 n) (rules k).toList 0 = some none) :
    (Instr.mapUpdate 95 (.map (some r)) (.int .u8 n) v).run Tryd.prog (w.alloc (.map (rules k) k)) = .ok () (w.alloc (.map (rules (k + 1)) (k + 1))) := by
  subst hv hn
  exact put_fresh w Tryd.underlying95 Tryd.underlying5 hr hf


set_option maxHeartbeats 1000000 in
theorem ruleOf_at (o : Nat) (h1 : 1 ≤ o) (h7 : o ≤ 7) (f g : FuncId) (hf : Hid (ruleV o = .agg #[fnV f, fnV g])) (w : World) : Calls Tryd.prog 34 #[.int .u8 o] w fun e w' => e = .returned (.tuple #[.agg #[fnV f, fnV g], .bool true]) ∧ Below w.heap.size w w' := by
  have hmm := @run_makeMap Tryd.prog
  have hl : (Instr.lookup 95 (.map (some (w.heap.size + 1))) (.int .u8 o) true).run Tryd.prog ((w.alloc (.cells #[.nilFunc, .nilFunc] 72)).alloc (.map (rules 7) 7)) = .ok (.tuple #[.agg #[fnV f, fnV g], .bool true]) ((w.alloc (.cells #[.nilFunc, .nilFunc] 72)).alloc (.map (rules 7) 7)) := by
    refine look_there _ (i := o - 1) Tryd.underlying95 Tryd.underlying5 (by simp) ?_
    rw [← hf.out]
    have : o = 1 ∨ o = 2 ∨ o = 3 ∨ o = 4 ∨ o = 5 ∨ o = 6 ∨ o = 7 := by omega
    rcases this with rfl | rfl | rfl | rfl | rfl | rfl | rfl <;> rfl
  have q1 : (Instr.mapUpdate 95 (.map (some (w.heap.size + 1))) (.int .u8 1) (.agg #[fnV 50, fnV 51])).run Tryd.prog ((w.alloc (.cells #[.nilFunc, .nilFunc] 72)).alloc (.map #[] 0)) = .ok () ((w.alloc (.cells #[.nilFunc, .nilFunc] 72)).alloc (.map (rules 1) 1)) := rule_put _ _ (by simp) 0 _ _ rfl rfl rfl
  have q2 : (Instr.mapUpdate 95 (.map (some (w.heap.size + 1))) (.int .u8 2) (.agg #[fnV 52, fnV 53])).run Tryd.prog ((w.alloc (.cells #[.nilFunc, .nilFunc] 72)).alloc (.map (rules 1) 1)) = .ok () ((w.alloc (.cells #[.nilFunc, .nilFunc] 72)).alloc (.map (rules 2) 2)) := rule_put _ _ (by simp) 1 _ _ rfl rfl rfl
  have q3 : (Instr.mapUpdate 95 (.map (some (w.heap.size + 1))) (.int .u8 3) (.agg #[fnV 54, fnV 55])).run Tryd.prog ((w.alloc (.cells #[.nilFunc, .nilFunc] 72)).alloc (.map (rules 2) 2)) = .ok () ((w.alloc (.cells #[.nilFunc, .nilFunc] 72)).alloc (.map (rules 3) 3)) := rule_put _ _ (by simp) 2 _ _ rfl rfl rfl
  have q4 : (Instr.mapUpdate 95 (.map (some (w.heap.size + 1))) (.int .u8 4) (.agg #[fnV 56, fnV 57])).run Tryd.prog ((w.alloc (.cells #[.nilFunc, .nilFunc] 72)).alloc (.map (rules 3) 3)) = .ok () ((w.alloc (.cells #[.nilFunc, .nilFunc] 72)).alloc (.map (rules 4) 4)) := rule_put _ _ (by simp) 3 _ _ rfl rfl rfl
  have q5 : (Instr.mapUpdate 95 (.map (some (w.heap.size + 1))) (.int .u8 5) (.agg #[fnV 58, fnV 59])).run Tryd.prog ((w.alloc (.cells #[.nilFunc, .nilFunc] 72)).alloc (.map (rules 4) 4)) = .ok () ((w.alloc (.cells #[.nilFunc, .nilFunc] 72)).alloc (.map (rules 5) 5)) := rule_put _ _ (by simp) 4 _ _ rfl rfl rfl
  have q6 : (Instr.mapUpdate 95 (.map (some (w.heap.size + 1))) (.int .u8 6) (.agg #[fnV 60, fnV 61])).run Tryd.prog ((w.alloc (.cells #[.nilFunc, .nilFunc] 72)).alloc (.map (rules 5) 5)) = .ok () ((w.alloc (.cells #[.nilFunc, .nilFunc] 72)).alloc (.map (rules 6) 6)) := rule_put _ _ (by simp) 5 _ _ rfl rfl rfl
  have q7 : (Instr.mapUpdate 95 (.map (some (w.heap.size + 1))) (.int .u8 7) (.agg #[fnV 62, fnV 63])).run Tryd.prog ((w.alloc (.cells #[.nilFunc, .nilFunc] 72)).alloc (.map (rules 6) 6)) = .ok () ((w.alloc (.cells #[.nilFunc, .nilFunc] 72)).alloc (.map (rules 7) 7)) := rule_put _ _ (by simp) 6 _ _ rfl rfl rfl
  clear h1 h7 hf
  go_enter Tryd.func34, Tryd.ntmps34
  go_wp2
  refine bodyPost_ret (v := .tuple #[.agg #[fnV f, fnV g], .bool true]) (by simp [results, Tryd.results34, go_sem]) rfl ⟨rfl, ?_⟩
  exact (((Below.refl _ _).alloc (Nat.le_refl _) _).alloc (by simp) _).alloc (by simp; omega) _

set_option maxHeartbeats 1000000 in
theorem ruleOf_none (o : Int) (h : ¬ (1 ≤ o ∧ o ≤ 7)) (w : World) : Calls Tryd.prog 34 #[.int .u8 o] w fun e w' => e = .returned (.tuple #[.agg #[.nilFunc, .nilFunc], .bool false]) ∧ Below w.heap.size w w' := by
  have hmm := @run_makeMap Tryd.prog
  have hl : (Instr.lookup 95 (.map (some (w.heap.size + 1))) (.int .u8 o) true).run Tryd.prog ((w.alloc (.cells #[.nilFunc, .nilFunc] 72)).alloc (.map (rules 7) 7)) = .ok (.tuple #[.agg #[.nilFunc, .nilFunc], .bool false]) ((w.alloc (.cells #[.nilFunc, .nilFunc] 72)).alloc (.map (rules 7) 7)) := by
    refine look_none _ Tryd.underlying95 Tryd.underlying5 (by simp) (zeroRule _) ?_
    have a1 : (o == 1) = false := by simp; omega
    have a2 : (o == 2) = false := by simp; omega
    have a3 : (o == 3) = false := by simp; omega
    have a4 : (o == 4) = false := by simp; omega
    have a5 : (o == 5) = false := by simp; omega
    have a6 : (o == 6) = false := by simp; omega
    have a7 : (o == 7) = false := by simp; omega
    simp [rules, Instr.findNow, Instr.sameNow, a1, a2, a3, a4, a5, a6, a7]
  have q1 : (Instr.mapUpdate 95 (.map (some (w.heap.size + 1))) (.int .u8 1) (.agg #[fnV 50, fnV 51])).run Tryd.prog ((w.alloc (.cells #[.nilFunc, .nilFunc] 72)).alloc (.map #[] 0)) = .ok () ((w.alloc (.cells #[.nilFunc, .nilFunc] 72)).alloc (.map (rules 1) 1)) := rule_put _ _ (by simp) 0 _ _ rfl rfl rfl
  have q2 : (Instr.mapUpdate 95 (.map (some (w.heap.size + 1))) (.int .u8 2) (.agg #[fnV 52, fnV 53])).run Tryd.prog ((w.alloc (.cells #[.nilFunc, .nilFunc] 72)).alloc (.map (rules 1) 1)) = .ok () ((w.alloc (.cells #[.nilFunc, .nilFunc] 72)).alloc (.map (rules 2) 2)) := rule_put _ _ (by simp) 1 _ _ rfl rfl rfl
  have q3 : (Instr.mapUpdate 95 (.map (some (w.heap.size + 1))) (.int .u8 3) (.agg #[fnV 54, fnV 55])).run Tryd.prog ((w.alloc (.cells #[.nilFunc, .nilFunc] 72)).alloc (.map (rules 2) 2)) = .ok () ((w.alloc (.cells #[.nilFunc, .nilFunc] 72)).alloc (.map (rules 3) 3)) := rule_put _ _ (by simp) 2 _ _ rfl rfl rfl
  have q4 : (Instr.mapUpdate 95 (.map (some (w.heap.size + 1))) (.int .u8 4) (.agg #[fnV 56, fnV 57])).run Tryd.prog ((w.alloc (.cells #[.nilFunc, .nilFunc] 72)).alloc (.map (rules 3) 3)) = .ok () ((w.alloc (.cells #[.nilFunc, .nilFunc] 72)).alloc (.map (rules 4) 4)) := rule_put _ _ (by simp) 3 _ _ rfl rfl rfl
  have q5 : (Instr.mapUpdate 95 (.map (some (w.heap.size + 1))) (.int .u8 5) (.agg #[fnV 58, fnV 59])).run Tryd.prog ((w.alloc (.cells #[.nilFunc, .nilFunc] 72)).alloc (.map (rules 4) 4)) = .ok () ((w.alloc (.cells #[.nilFunc, .nilFunc] 72)).alloc (.map (rules 5) 5)) := rule_put _ _ (by simp) 4 _ _ rfl rfl rfl
  have q6 : (Instr.mapUpdate 95 (.map (some (w.heap.size + 1))) (.int .u8 6) (.agg #[fnV 60, fnV 61])).run Tryd.prog ((w.alloc (.cells #[.nilFunc, .nilFunc] 72)).alloc (.map (rules 5) 5)) = .ok () ((w.alloc (.cells #[.nilFunc, .nilFunc] 72)).alloc (.map (rules 6) 6)) := rule_put _ _ (by simp) 5 _ _ rfl rfl rfl
  have q7 : (Instr.mapUpdate 95 (.map (some (w.heap.size + 1))) (.int .u8 7) (.agg #[fnV 62, fnV 63])).run Tryd.prog ((w.alloc (.cells #[.nilFunc, .nilFunc] 72)).alloc (.map (rules 6) 6)) = .ok () ((w.alloc (.cells #[.nilFunc, .nilFunc] 72)).alloc (.map (rules 7) 7)) := rule_put _ _ (by simp) 6 _ _ rfl rfl rfl
  clear h
  go_enter Tryd.func34, Tryd.ntmps34
  go_wp2
  refine bodyPost_ret (v := .tuple #[.agg #[.nilFunc, .nilFunc], .bool false]) (by simp [results, Tryd.results34, go_sem]) rfl ⟨rfl, ?_⟩
  exact (((Below.refl _ _).alloc (Nat.le_refl _) _).alloc (by simp) _).alloc (by simp; omega) _

end Go.Proofs.YtfndaeocdgcaeaaDoor
/- The contracts of Code, Key and Compare of package order: each returns what the plain mathematics says and changes nothing that lay, while the table of steps reads as its initialiser lays it. -/
namespace Go.Proofs.YtfndaeocdgcaeaaDoor
open Go.RowKit Go.Proofs.Mixm

set_option maxHeartbeats 400000 in
theorem code_by (o : Nat) (h1 : 1 ≤ o) (h7 : o ≤ 7) (f g : FuncId) (hf : Hid (ruleV o = .agg #[fnV f, fnV g])) (he : ∀ args w, (callFunc f args).run Tryd.prog w = .ok (.enter f args) w) (b c : BitVec 64) (w : World)
    (hC : Hid (∀ w1, Below w.heap.size w w1 → Calls Tryd.prog f #[K b] w1 fun e w2 => e = .returned (V c) ∧ Below w1.heap.size w1 w2)) :
    Calls Tryd.prog 23 #[.int .u8 o, K b] w fun e w' => e = .returned (.tuple #[V c, .int .i64 0]) ∧ Below w.heap.size w w' := by
  go_enter Tryd.func23, Tryd.ntmps23
  go_wp2_with fail
  refine (ruleOf_at o h1 h7 f g hf _).mono ?_
  rintro e w1 ⟨rfl, hb⟩
  have hb1 := Lib.hid hb
  clear hb
  go_wp2_with fail
  have hb2 := Lib.hid (hb1.out.alloc hb1.out.size (.cells #[fnV f, fnV g] 72))
  refine (hC.out _ hb2.out).mono ?_
  rintro e w2 ⟨rfl, hb⟩
  have hb3 := Lib.hid (hb2.out.trans (hb.mono hb2.out.size))
  clear hb
  go_wp2
  go_ret2
  exact ⟨rfl, hb3.out⟩

set_option maxHeartbeats 400000 in
theorem code_none (o : Int) (h : ¬ (1 ≤ o ∧ o ≤ 7)) (b : BitVec 64) (w : World) :
    Calls Tryd.prog 23 #[.int .u8 o, K b] w fun e w' => e = .returned (.tuple #[.int .u64 0, .int .i64 2]) ∧ Below w.heap.size w w' := by
  have h' := Lib.hid h
  clear h
  go_enter Tryd.func23, Tryd.ntmps23
  go_wp2_with fail
  refine (ruleOf_none o h'.out _).mono ?_
  rintro e w1 ⟨rfl, hb⟩
  have hb1 := Lib.hid hb
  clear hb
  go_wp2
  go_ret2
  exact ⟨rfl, hb1.out.alloc hb1.out.size _⟩

set_option maxHeartbeats 400000 in
theorem compare_none (o : Int) (h : ¬ (1 ≤ o ∧ o ≤ 7)) (a b : BitVec 64) (w : World) :
    Calls Tryd.prog 15 #[.int .u8 o, K a, K b] w fun e w' => e = .returned (.int .i64 0) ∧ Below w.heap.size w w' := by
  have h' := Lib.hid h
  clear h
  go_enter Tryd.func15, Tryd.ntmps15
  go_wp2_with fail
  refine (ruleOf_none o h'.out _).mono ?_
  rintro e w1 ⟨rfl, hb⟩
  have hb1 := Lib.hid hb
  clear hb
  go_wp2
  go_ret
  exact ⟨rfl, hb1.out.alloc hb1.out.size _⟩

end Go.Proofs.YtfndaeocdgcaeaaDoor
/- The contract of Compare of package order: it returns how two keys stand and changes nothing that lay, while the table of steps reads as its initialiser lays it. -/
namespace Go.Proofs.YtfndaeocdgcaeaaDoor
open Go.RowKit Go.Shelf Go.Proofs.Mixm

theorem held_next {w : World} {n : Nat} {v : Value} {x y : World} (h : x.cell? ⟨n, 0, none⟩ = some v ∧ n < x.heap.size ∧ Below w.heap.size w x) (hb : Below x.heap.size x y) : y.cell? ⟨n, 0, none⟩ = some v ∧ n < y.heap.size ∧ Below w.heap.size w y :=
  ⟨(hb.cell (p := ⟨n, 0, none⟩) h.2.1).trans h.1, Nat.lt_of_lt_of_le h.2.1 hb.size, h.2.2.trans (hb.mono h.2.2.size)⟩

set_option maxRecDepth 100000 in
set_option maxHeartbeats 2000000 in
theorem compare_by (o : Nat) (h1 : 1 ≤ o) (h7 : o ≤ 7) (f g : FuncId) (hf : Hid (ruleV o = .agg #[fnV f, fnV g])) (he : ∀ args w, (callFunc f args).run Tryd.prog w = .ok (.enter f args) w) (cd : BitVec 64 → BitVec 64) (a b : BitVec 64) (w : World)
    (hC : Hid (∀ x w1, Below w.heap.size w w1 → Calls Tryd.prog f #[K x] w1 fun e w2 => e = .returned (V (cd x)) ∧ Below w1.heap.size w1 w2)) :
    Calls Tryd.prog 15 #[.int .u8 o, K a, K b] w fun e w' => e = .returned (.int .i64 (Ordm.cmp (cd a) (cd b))) ∧ Below w.heap.size w w' := by
  go_enter Tryd.func15, Tryd.ntmps15
  go_wp2_with fail
  refine (ruleOf_at o h1 h7 f g hf _).mono ?_
  rintro e w1 ⟨rfl, hb⟩
  have hb1 := Lib.hid hb
  clear hb
  go_wp2_with fail
  have hb2 := Lib.hid (hb1.out.alloc hb1.out.size (.cells #[fnV f, fnV g] 72))
  have hc2 : (w1.alloc (.cells #[fnV f, fnV g] 72)).cell? ⟨w1.heap.size, 0, none⟩ = some (fnV f) := by simp
  have hz2 : w1.heap.size < (w1.alloc (.cells #[fnV f, fnV g] 72)).heap.size := by simp
  obtain ⟨W2, hW2⟩ : ∃ W2, w1.alloc (.cells #[fnV f, fnV g] 72) = W2 := ⟨_, rfl⟩
  rw [hW2] at hb2 hc2 hz2
  rw [show w1.alloc (.cells #[Value.func (Fn.func f) #[] #[], Value.func (Fn.func g) #[] #[]] 72) = W2 from hW2]
  clear hW2
  go_region_held3 (fun w' => w'.cell? ⟨w1.heap.size, 0, none⟩ = some (fnV f) ∧ w1.heap.size < w'.heap.size ∧ Below w.heap.size w w') (first | exact ⟨hc2, hz2, hb2.out.drew⟩ | assumption)
    (first | (go_at_call 35; refine (cmp_any _ _ _).mono ?_; rintro e w' ⟨rfl, rfl⟩) | (refine (hC.out _ _ (And.right (And.right (by assumption)))).mono ?_; rintro e w' ⟨rfl, hb⟩; have hS' := held_next (w := w) (by assumption) hb; clear hb))
  go_wp2
  go_ret
  exact ⟨rfl, And.right (And.right (by assumption))⟩

/-- a call that leaves the world alone changes nothing that lay -/
theorem still {P : Program} {f : FuncId} {xs : Array Value} {v : Value} {w : World} (h : Calls P f xs w fun e w' => e = .returned v ∧ w = w') : Calls P f xs w fun e w' => e = .returned v ∧ Below w.heap.size w w' :=
  h.mono fun _ _ ⟨he, hw⟩ => ⟨he, hw ▸ Below.refl _ _⟩

theorem code_at (o : Nat) (h1 : 1 ≤ o) (h7 : o ≤ 7) (b : BitVec 64) (w : World) (h0 : 0 < w.heap.size) (hs : Steps w) :
    Calls Tryd.prog 23 #[.int .u8 o, K b] w fun e w' => e = .returned (.tuple #[V (Ordm.code o b), .int .i64 0]) ∧ Below w.heap.size w w' := by
  have : o = 1 ∨ o = 2 ∨ o = 3 ∨ o = 4 ∨ o = 5 ∨ o = 6 ∨ o = 7 := by omega
  rcases this with rfl | rfl | rfl | rfl | rfl | rfl | rfl
  · exact code_by 1 (by omega) (by omega) _ _ (Lib.hid rfl) (enters_of Tryd.func50 (by kernel_rfl) rfl) b _ w (Lib.hid fun w1 _ => still (up_any b w1))
  · exact code_by 2 (by omega) (by omega) _ _ (Lib.hid rfl) (enters_of Tryd.func52 (by kernel_rfl) rfl) b _ w (Lib.hid fun w1 _ => still (down_any b w1))
  · exact code_by 3 (by omega) (by omega) _ _ (Lib.hid rfl) (enters_of Tryd.func54 (by kernel_rfl) rfl) b _ w (Lib.hid fun w1 _ => still (size_any b w1))
  · exact code_by 4 (by omega) (by omega) _ _ (Lib.hid rfl) (enters_of Tryd.func56 (by kernel_rfl) rfl) b _ w (Lib.hid fun w1 _ => still (bits_any b w1))
  · exact code_by 5 (by omega) (by omega) _ _ (Lib.hid rfl) (enters_of Tryd.func58 (by kernel_rfl) rfl) b _ w (Lib.hid fun w1 _ => still (even_any b w1))
  · exact code_by 6 (by omega) (by omega) _ _ (Lib.hid rfl) (enters_of Tryd.func60 (by kernel_rfl) rfl) b _ w (Lib.hid fun w1 _ => still (low_any b w1))
  · exact code_by 7 (by omega) (by omega) _ _ (Lib.hid rfl) (enters_of Tryd.func62 (by kernel_rfl) rfl) b _ w (Lib.hid fun w1 hb => mixed_any b w1 (Nat.lt_of_lt_of_le h0 hb.size) (hs.below h0 hb))

theorem compare_at (o : Nat) (h1 : 1 ≤ o) (h7 : o ≤ 7) (a b : BitVec 64) (w : World) (h0 : 0 < w.heap.size) (hs : Steps w) :
    Calls Tryd.prog 15 #[.int .u8 o, K a, K b] w fun e w' => e = .returned (.int .i64 (Ordm.stand o a b)) ∧ Below w.heap.size w w' := by
  have : o = 1 ∨ o = 2 ∨ o = 3 ∨ o = 4 ∨ o = 5 ∨ o = 6 ∨ o = 7 := by omega
  rcases this with rfl | rfl | rfl | rfl | rfl | rfl | rfl
  · exact compare_by 1 (by omega) (by omega) _ _ (Lib.hid rfl) (enters_of Tryd.func50 (by kernel_rfl) rfl) _ a b w (Lib.hid fun x w1 _ => still (up_any x w1))
  · exact compare_by 2 (by omega) (by omega) _ _ (Lib.hid rfl) (enters_of Tryd.func52 (by kernel_rfl) rfl) _ a b w (Lib.hid fun x w1 _ => still (down_any x w1))
  · exact compare_by 3 (by omega) (by omega) _ _ (Lib.hid rfl) (enters_of Tryd.func54 (by kernel_rfl) rfl) _ a b w (Lib.hid fun x w1 _ => still (size_any x w1))
  · exact compare_by 4 (by omega) (by omega) _ _ (Lib.hid rfl) (enters_of Tryd.func56 (by kernel_rfl) rfl) _ a b w (Lib.hid fun x w1 _ => still (bits_any x w1))
  · exact compare_by 5 (by omega) (by omega) _ _ (Lib.hid rfl) (enters_of Tryd.func58 (by kernel_rfl) rfl) _ a b w (Lib.hid fun x w1 _ => still (even_any x w1))
  · exact compare_by 6 (by omega) (by omega) _ _ (Lib.hid rfl) (enters_of Tryd.func60 (by kernel_rfl) rfl) _ a b w (Lib.hid fun x w1 _ => still (low_any x w1))
  · exact compare_by 7 (by omega) (by omega) _ _ (Lib.hid rfl) (enters_of Tryd.func62 (by kernel_rfl) rfl) _ a b w (Lib.hid fun x w1 hb => mixed_any x w1 (Nat.lt_of_lt_of_le h0 hb.size) (hs.below h0 hb))

end Go.Proofs.YtfndaeocdgcaeaaDoor
/- Layer 12: what package order answers, over a world where the steps of package mix lie. -/
namespace Go.Proofs.YtfndaeocdgcaeaaDoor
open Go.RowKit Go.Proofs.Treem

/-- the steps of package mix lie there -/
def Std (w : World) : Prop := 0 < w.heap.size ∧ Steps w
theorem ord_says : OrdSays Std where
  next := fun h hb => ⟨Nat.lt_of_lt_of_le h.1 hb.size, h.2.below h.1 hb⟩
  code := fun w o a h1 h7 h => code_at o h1 h7 a w h.1 h.2
  codeNo := fun w o a h => code_none o (by omega) a w
  cmp := fun w o a b h1 h7 h => compare_at o h1 h7 a b w h.1 h.2
end Go.Proofs.YtfndaeocdgcaeaaDoor
/- Layer 9: the program's own package node: a node in memory, the getters. -/
namespace Go.Proofs.YtfndaeocdgcaeaaDoor
open Go.RowKit Go.Proofs.Treem
set_option maxRecDepth 100000

/-- a node in memory -/
def NdS : NdP := fun W B a x => ∃ g, a = ⟨g, 0, none⟩ ∧ g < B ∧ Has W g 79 #[K x.k, K x.v, G64 x.g, K x.size, K x.sum, .pointer x.l, .pointer x.r] ∧ (x.l ≠ none ∨ x.r ≠ none ∨ x.size ≠ 0#64)
/-- nothing, and noughts -/
abbrev noughts : Array Value := #[.int .i64 0, .int .i64 0, .int .u64 0, .int .i64 0, .int .i64 0, .pointer none, .pointer none]
theorem k_zero {b : BitVec 64} (h : b ≠ 0#64) : (b.toInt == 0) = false := by
  rw [beq_eq_false_iff_ne]
  intro e
  exact h (BitVec.eq_of_toInt_eq (by rw [e]; decide))
theorem ptr_some {p : Option Addr} (h : p ≠ none) : ∃ a, p = some a := by
  cases p with
  | none => exact absurd rfl h
  | some a => exact ⟨a, rfl⟩
theorem fields50 : Tryd.prog.fieldsOf 79 = #[{ name := "kept", type := 77, offset := 0, embedded := true, tag := "", pkgPath := "joinery/node", byteOffset := 0 }, { name := "left", type := 25, offset := 5, embedded := false, tag := "", pkgPath := "joinery/node", byteOffset := 40 }, { name := "right", type := 25, offset := 6, embedded := false, tag := "", pkgPath := "joinery/node", byteOffset := 48 }] := by
  simp only [Program.fieldsOf, Tryd.underlying79]
theorem fields48 : Tryd.prog.fieldsOf 77 = #[{ name := "key", type := 2, offset := 0, embedded := false, tag := "", pkgPath := "joinery/node", byteOffset := 0 }, { name := "val", type := 2, offset := 1, embedded := false, tag := "", pkgPath := "joinery/node", byteOffset := 8 }, { name := "tag", type := 42, offset := 2, embedded := false, tag := "", pkgPath := "joinery/node", byteOffset := 16 }, { name := "size", type := 3, offset := 3, embedded := false, tag := "", pkgPath := "joinery/node", byteOffset := 24 }, { name := "sum", type := 2, offset := 4, embedded := false, tag := "", pkgPath := "joinery/node", byteOffset := 32 }] := by
  simp only [Program.fieldsOf, Tryd.underlying77]
theorem held50 : Tryd.prog.stoodInHeld 79 = false := by kernel_rfl
theorem held48 : Tryd.prog.stoodInHeld 77 = false := by kernel_rfl
theorem size48 : (Tryd.prog.info? 77).map (·.size) = some 5 := by kernel_rfl
theorem part_agg (W : World) (cs : Array Value) : (part 77 cs 0).run Tryd.prog W = .ok (.agg (cs.extract 0 5)) W := by
  have h : ∃ j, Tryd.prog.info? 77 = some j ∧ j.size = 5 := by simpa [Option.map_eq_some_iff] using size48
  obtain ⟨j, hj, hs⟩ := h
  simp [part, isAgg, run_underlying Tryd.underlying77, sizeOf, typeInfo, hj, hs]
theorem part2 (W : World) (cs : Array Value) (k : Nat) (v : Value) (hv : cs[k]? = some v) : (part 2 cs k).run Tryd.prog W = .ok v W := by
  simp [part, isAgg, run_underlying Tryd.underlying2, hv]
theorem part3 (W : World) (cs : Array Value) (k : Nat) (v : Value) (hv : cs[k]? = some v) : (part 3 cs k).run Tryd.prog W = .ok v W := by
  simp [part, isAgg, run_underlying Tryd.underlying3, hv]
theorem part29 (W : World) (cs : Array Value) (k : Nat) (v : Value) (hv : cs[k]? = some v) : (part 42 cs k).run Tryd.prog W = .ok v W := by
  simp [part, isAgg, run_underlying Tryd.underlying42, hv]
theorem part26 (W : World) (cs : Array Value) (k : Nat) (v : Value) (hv : cs[k]? = some v) : (part 25 cs k).run Tryd.prog W = .ok v W := by
  simp [part, isAgg, run_underlying Tryd.underlying25, hv]
theorem eq_i (W : World) (d : Nat) (a b : Int) : (Op.equalIn (d + 1) 2 (.int .i64 a) (.int .i64 b)).run Tryd.prog W = .ok (a == b) W := run_equalIn_int W d 2 .i64 .i64 a b Tryd.underlying2
theorem eq_n (W : World) (d : Nat) (a b : Int) : (Op.equalIn (d + 1) 3 (.int .i64 a) (.int .i64 b)).run Tryd.prog W = .ok (a == b) W := run_equalIn_int W d 3 .i64 .i64 a b Tryd.underlying3
theorem eq_u (W : World) (d : Nat) (a b : Int) : (Op.equalIn (d + 1) 42 (.int .u64 a) (.int .u64 b)).run Tryd.prog W = .ok (a == b) W := run_equalIn_int W d 42 .u64 .u64 a b Tryd.underlying42
theorem eq_p (W : World) (d : Nat) (p : Option Addr) : (Op.equalIn (d + 1) 25 (.pointer p) (.pointer none)).run Tryd.prog W = .ok p.isNone W := by
  cases p <;> simp [Op.equalIn, run_underlying Tryd.underlying25]
theorem kept_eql (W : World) (d : Nat) (k v g s m : Int) : (Op.equalIn (d + 2) 77 (.agg #[.int .i64 k, .int .i64 v, .int .u64 g, .int .i64 s, .int .i64 m]) (.agg #[.int .i64 0, .int .i64 0, .int .u64 0, .int .i64 0, .int .i64 0])).run Tryd.prog W = .ok (k == 0 && (v == 0 && (g == 0 && (s == 0 && m == 0)))) W := by
  rw [run_equalIn_struct W (d + 1) 77 _ _ (by rw [fields48]; exact Tryd.underlying77) held48, fields48]
  simp only [Op.eqFields, ne_eq, String.reduceEq, not_false_eq_true, if_true]
  simp [part2 W _ _ _ (rfl : (#[Value.int .i64 k, .int .i64 v, .int .u64 g, .int .i64 s, .int .i64 m])[0]? = some (.int .i64 k)),
    part2 W _ _ _ (rfl : (#[Value.int .i64 k, .int .i64 v, .int .u64 g, .int .i64 s, .int .i64 m])[1]? = some (.int .i64 v)),
    part29 W _ _ _ (rfl : (#[Value.int .i64 k, .int .i64 v, .int .u64 g, .int .i64 s, .int .i64 m])[2]? = some (.int .u64 g)),
    part3 W _ _ _ (rfl : (#[Value.int .i64 k, .int .i64 v, .int .u64 g, .int .i64 s, .int .i64 m])[3]? = some (.int .i64 s)),
    part2 W _ _ _ (rfl : (#[Value.int .i64 k, .int .i64 v, .int .u64 g, .int .i64 s, .int .i64 m])[4]? = some (.int .i64 m)),
    part2 W _ _ _ (rfl : (#[Value.int .i64 0, .int .i64 0, .int .u64 0, .int .i64 0, .int .i64 0])[0]? = some (.int .i64 0)),
    part2 W _ _ _ (rfl : (#[Value.int .i64 0, .int .i64 0, .int .u64 0, .int .i64 0, .int .i64 0])[1]? = some (.int .i64 0)),
    part29 W _ _ _ (rfl : (#[Value.int .i64 0, .int .i64 0, .int .u64 0, .int .i64 0, .int .i64 0])[2]? = some (.int .u64 0)),
    part3 W _ _ _ (rfl : (#[Value.int .i64 0, .int .i64 0, .int .u64 0, .int .i64 0, .int .i64 0])[3]? = some (.int .i64 0)),
    part2 W _ _ _ (rfl : (#[Value.int .i64 0, .int .i64 0, .int .u64 0, .int .i64 0, .int .i64 0])[4]? = some (.int .i64 0)),
    eq_i, eq_u, eq_n]
  cases hk : (k == 0) <;> cases hv : (v == 0) <;> cases hg : (g == 0) <;> cases hs : (s == 0) <;> cases hm : (m == 0) <;> simp_all
theorem node_eql (W : World) (k v g s m : Int) (l r : Option Addr) : (binOp .eql 79 (.agg #[.int .i64 k, .int .i64 v, .int .u64 g, .int .i64 s, .int .i64 m, .pointer l, .pointer r]) (.agg noughts)).run Tryd.prog W = .ok (.bool ((k == 0 && (v == 0 && (g == 0 && (s == 0 && m == 0)))) && (l.isNone && r.isNone))) W := by
  rw [run_eql_struct, run_equalIn_struct W 9999 79 _ _ (by rw [fields50]; exact Tryd.underlying79) held50, fields50]
  simp only [Op.eqFields, ne_eq, String.reduceEq, not_false_eq_true, if_true]
  have e1 : (#[Value.int .i64 k, .int .i64 v, .int .u64 g, .int .i64 s, .int .i64 m, .pointer l, .pointer r] : Array Value).extract 0 5 = #[.int .i64 k, .int .i64 v, .int .u64 g, .int .i64 s, .int .i64 m] := rfl
  have e2 : noughts.extract 0 5 = #[.int .i64 0, .int .i64 0, .int .u64 0, .int .i64 0, .int .i64 0] := rfl
  simp only [Sem.run_bind, part_agg, e1, e2, Result.andThen_ok, kept_eql W 9997,
    part26 W _ _ _ (rfl : (#[Value.int .i64 k, .int .i64 v, .int .u64 g, .int .i64 s, .int .i64 m, .pointer l, .pointer r])[5]? = some (.pointer l)),
    part26 W _ _ _ (rfl : noughts[5]? = some (.pointer none)), Sem.run_ite, Sem.run_pure]
  generalize (k == 0 && (v == 0 && (g == 0 && (s == 0 && m == 0)))) = b
  cases b <;> cases l <;> cases r <;> rfl
/-- a node is no noughts -/
theorem not_noughts (W : World) (x : No) (h : x.l ≠ none ∨ x.r ≠ none ∨ x.size ≠ 0#64) :
    (binOp .eql 79 (.agg #[K x.k, K x.v, G64 x.g, K x.size, K x.sum, .pointer x.l, .pointer x.r]) (.agg noughts)).run Tryd.prog W = .ok (.bool false) W := by
  rw [node_eql]
  congr 2
  rcases h with h | h | h
  · obtain ⟨a, ha⟩ := ptr_some h
    rw [ha]; simp
  · obtain ⟨a, ha⟩ := ptr_some h
    rw [ha]; simp
  · rw [k_zero h]; simp
theorem is_noughts (W : World) : (binOp .eql 79 (.agg noughts) (.agg noughts)).run Tryd.prog W = .ok (.bool true) W := by
  rw [node_eql]; rfl
set_option maxHeartbeats 1000000 in
theorem told0 (w : World) : Calls Tryd.prog 36 #[.pointer none] w fun e w' => ∃ g, e = .returned (.pointer (some ⟨g, 0, none⟩)) ∧ Has w' g 79 noughts ∧ Below w.heap.size w w' := by
  go_enter Tryd.func36, Tryd.ntmps36
  go_wp2
  go_ret
  exact ⟨_, rfl, Has.new w _ _, (Below.refl _ _).alloc (Nat.le_refl _) _⟩
set_option maxHeartbeats 1000000 in
theorem told1 (w : World) (a : Addr) : Calls Tryd.prog 36 #[.pointer (some a)] w fun e w' => e = .returned (.pointer (some a)) ∧ w = w' := by
  go_enter Tryd.func36, Tryd.ntmps36
  go_wp2
  go_ret
  exact ⟨rfl, rfl⟩
set_option maxHeartbeats 1000000 in
theorem leftS (W : World) (B : Nat) (a : Addr) (x : No) (h : NdS W B a x) : Calls Tryd.prog 16 #[.pointer (some a)] W fun e w' => e = .returned (.pointer x.l) ∧ W = w' := by
  obtain ⟨g, rfl, hg, hh, hn⟩ := h
  obtain ⟨y0, y1, y2, y3, y4, y5, y6⟩ := hh.seven
  have c := Lib.hid (told1 W ⟨g, 0, none⟩)
  clear hh hg hn
  go_enter Tryd.func16, Tryd.ntmps16
  go_wp2_with (go_at_call 36; (with_reducible refine c.out.mono ?_); rintro e w' ⟨rfl, rfl⟩)
  go_ret
  exact ⟨rfl, rfl⟩
set_option maxHeartbeats 1000000 in
theorem leftS0 (W : World) : Calls Tryd.prog 16 #[.pointer none] W fun e w' => e = .returned (.pointer none) ∧ Below W.heap.size W w' := by
  have c := Lib.hid (told0 W)
  go_enter Tryd.func16, Tryd.ntmps16
  go_wp2_with (go_at_call 36; (with_reducible refine c.out.mono ?_); rintro e w' ⟨g, rfl, hh, hb⟩; obtain ⟨y0, y1, y2, y3, y4, y5, y6⟩ := hh.seven; have b := Lib.hid hb; clear hh hb)
  go_ret
  exact ⟨rfl, b.out⟩
set_option maxHeartbeats 1000000 in
theorem rightS (W : World) (B : Nat) (a : Addr) (x : No) (h : NdS W B a x) : Calls Tryd.prog 17 #[.pointer (some a)] W fun e w' => e = .returned (.pointer x.r) ∧ W = w' := by
  obtain ⟨g, rfl, hg, hh, hn⟩ := h
  obtain ⟨y0, y1, y2, y3, y4, y5, y6⟩ := hh.seven
  have c := Lib.hid (told1 W ⟨g, 0, none⟩)
  clear hh hg hn
  go_enter Tryd.func17, Tryd.ntmps17
  go_wp2_with (go_at_call 36; (with_reducible refine c.out.mono ?_); rintro e w' ⟨rfl, rfl⟩)
  go_ret
  exact ⟨rfl, rfl⟩
set_option maxHeartbeats 1000000 in
theorem rightS0 (W : World) : Calls Tryd.prog 17 #[.pointer none] W fun e w' => e = .returned (.pointer none) ∧ Below W.heap.size W w' := by
  have c := Lib.hid (told0 W)
  go_enter Tryd.func17, Tryd.ntmps17
  go_wp2_with (go_at_call 36; (with_reducible refine c.out.mono ?_); rintro e w' ⟨g, rfl, hh, hb⟩; obtain ⟨y0, y1, y2, y3, y4, y5, y6⟩ := hh.seven; have b := Lib.hid hb; clear hh hb)
  go_ret
  exact ⟨rfl, b.out⟩
set_option maxHeartbeats 1000000 in
theorem keyS (W : World) (B : Nat) (a : Addr) (x : No) (h : NdS W B a x) : Calls Tryd.prog 19 #[.pointer (some a)] W fun e w' => e = .returned (K x.k) ∧ W = w' := by
  obtain ⟨g, rfl, hg, hh, hn⟩ := h
  obtain ⟨y0, y1, y2, y3, y4, y5, y6⟩ := hh.seven
  have c := Lib.hid (told1 W ⟨g, 0, none⟩)
  clear hh hg hn
  go_enter Tryd.func19, Tryd.ntmps19
  go_wp2_with (go_at_call 36; (with_reducible refine c.out.mono ?_); rintro e w' ⟨rfl, rfl⟩)
  go_ret
  exact ⟨rfl, rfl⟩
set_option maxHeartbeats 1000000 in
theorem keyS0 (W : World) : Calls Tryd.prog 19 #[.pointer none] W fun e w' => e = .returned (.int .i64 0) ∧ Below W.heap.size W w' := by
  have c := Lib.hid (told0 W)
  go_enter Tryd.func19, Tryd.ntmps19
  go_wp2_with (go_at_call 36; (with_reducible refine c.out.mono ?_); rintro e w' ⟨g, rfl, hh, hb⟩; obtain ⟨y0, y1, y2, y3, y4, y5, y6⟩ := hh.seven; have b := Lib.hid hb; clear hh hb)
  go_ret
  exact ⟨rfl, b.out⟩
set_option maxHeartbeats 1000000 in
theorem valS (W : World) (B : Nat) (a : Addr) (x : No) (h : NdS W B a x) : Calls Tryd.prog 48 #[.pointer (some a)] W fun e w' => e = .returned (K x.v) ∧ W = w' := by
  obtain ⟨g, rfl, hg, hh, hn⟩ := h
  obtain ⟨y0, y1, y2, y3, y4, y5, y6⟩ := hh.seven
  have c := Lib.hid (told1 W ⟨g, 0, none⟩)
  clear hh hg hn
  go_enter Tryd.func48, Tryd.ntmps48
  go_wp2_with (go_at_call 36; (with_reducible refine c.out.mono ?_); rintro e w' ⟨rfl, rfl⟩)
  go_ret
  exact ⟨rfl, rfl⟩
set_option maxHeartbeats 1000000 in
theorem valS0 (W : World) : Calls Tryd.prog 48 #[.pointer none] W fun e w' => e = .returned (.int .i64 0) ∧ Below W.heap.size W w' := by
  have c := Lib.hid (told0 W)
  go_enter Tryd.func48, Tryd.ntmps48
  go_wp2_with (go_at_call 36; (with_reducible refine c.out.mono ?_); rintro e w' ⟨g, rfl, hh, hb⟩; obtain ⟨y0, y1, y2, y3, y4, y5, y6⟩ := hh.seven; have b := Lib.hid hb; clear hh hb)
  go_ret
  exact ⟨rfl, b.out⟩
set_option maxHeartbeats 1000000 in
theorem sizeS (W : World) (B : Nat) (a : Addr) (x : No) (h : NdS W B a x) : Calls Tryd.prog 37 #[.pointer (some a)] W fun e w' => e = .returned (K x.size) ∧ W = w' := by
  obtain ⟨g, rfl, hg, hh, hn⟩ := h
  obtain ⟨y0, y1, y2, y3, y4, y5, y6⟩ := hh.seven
  have c := Lib.hid (told1 W ⟨g, 0, none⟩)
  clear hh hg hn
  go_enter Tryd.func37, Tryd.ntmps37
  go_wp2_with (go_at_call 36; (with_reducible refine c.out.mono ?_); rintro e w' ⟨rfl, rfl⟩)
  go_ret
  exact ⟨rfl, rfl⟩
set_option maxHeartbeats 1000000 in
theorem sizeS0 (W : World) : Calls Tryd.prog 37 #[.pointer none] W fun e w' => e = .returned (.int .i64 0) ∧ Below W.heap.size W w' := by
  have c := Lib.hid (told0 W)
  go_enter Tryd.func37, Tryd.ntmps37
  go_wp2_with (go_at_call 36; (with_reducible refine c.out.mono ?_); rintro e w' ⟨g, rfl, hh, hb⟩; obtain ⟨y0, y1, y2, y3, y4, y5, y6⟩ := hh.seven; have b := Lib.hid hb; clear hh hb)
  go_ret
  exact ⟨rfl, b.out⟩
set_option maxHeartbeats 1000000 in
theorem sumS (W : World) (B : Nat) (a : Addr) (x : No) (h : NdS W B a x) : Calls Tryd.prog 38 #[.pointer (some a)] W fun e w' => e = .returned (K x.sum) ∧ W = w' := by
  obtain ⟨g, rfl, hg, hh, hn⟩ := h
  obtain ⟨y0, y1, y2, y3, y4, y5, y6⟩ := hh.seven
  have c := Lib.hid (told1 W ⟨g, 0, none⟩)
  clear hh hg hn
  go_enter Tryd.func38, Tryd.ntmps38
  go_wp2_with (go_at_call 36; (with_reducible refine c.out.mono ?_); rintro e w' ⟨rfl, rfl⟩)
  go_ret
  exact ⟨rfl, rfl⟩
set_option maxHeartbeats 1000000 in
theorem sumS0 (W : World) : Calls Tryd.prog 38 #[.pointer none] W fun e w' => e = .returned (.int .i64 0) ∧ Below W.heap.size W w' := by
  have c := Lib.hid (told0 W)
  go_enter Tryd.func38, Tryd.ntmps38
  go_wp2_with (go_at_call 36; (with_reducible refine c.out.mono ?_); rintro e w' ⟨g, rfl, hh, hb⟩; obtain ⟨y0, y1, y2, y3, y4, y5, y6⟩ := hh.seven; have b := Lib.hid hb; clear hh hb)
  go_ret
  exact ⟨rfl, b.out⟩
theorem lookS_size {W : World} {B : Nat} {p : Option Addr} {s m : BitVec 64} (h : Look NdS W B p s m) : Calls Tryd.prog 37 #[.pointer p] W fun e w' => e = .returned (K s) ∧ Below W.heap.size W w' := by
  rcases h with ⟨rfl, rfl, rfl⟩ | ⟨a, x, rfl, hx, rfl, rfl⟩
  · exact sizeS0 W
  · exact (sizeS W B a x hx).mono (by rintro e w' ⟨rfl, rfl⟩; exact ⟨rfl, Below.refl _ _⟩)
theorem lookS_sum {W : World} {B : Nat} {p : Option Addr} {s m : BitVec 64} (h : Look NdS W B p s m) : Calls Tryd.prog 38 #[.pointer p] W fun e w' => e = .returned (K m) ∧ Below W.heap.size W w' := by
  rcases h with ⟨rfl, rfl, rfl⟩ | ⟨a, x, rfl, hx, rfl, rfl⟩
  · exact sumS0 W
  · exact (sumS W B a x hx).mono (by rintro e w' ⟨rfl, rfl⟩; exact ⟨rfl, Below.refl _ _⟩)
theorem sizes_in (s r : BitVec 64) : wrap64 (wrap64 (s.toInt + 1) + r.toInt) = (s + r + 1#64).toInt := by
  have h2 := i_add s 1#64
  rw [show (1#64 : BitVec 64).toInt = 1 by decide] at h2
  rw [h2, i_add]; congr 1; ac_rfl
theorem sums_in (s v r : BitVec 64) : wrap64 (wrap64 (s.toInt + v.toInt) + r.toInt) = (s + v + r).toInt := by rw [i_add, i_add]
theorem nextS {W W' : World} {B : Nat} {a : Addr} {x : No} (h : NdS W B a x) (hb : Below B W W') : NdS W' B a x := by
  obtain ⟨g, rfl, hg, hh, hn⟩ := h
  exact ⟨g, rfl, hg, hh.below hb hg, hn⟩
theorem lookS_next {W W' : World} {B : Nat} {p : Option Addr} {s m : BitVec 64} (h : Look NdS W B p s m) (hb : Below B W W') : Look NdS W' B p s m := by
  rcases h with ⟨rfl, rfl, rfl⟩ | ⟨a, x, rfl, hx, rfl, rfl⟩
  · exact .inl ⟨rfl, rfl, rfl⟩
  · exact .inr ⟨a, x, rfl, nextS hx hb, rfl, rfl⟩
/-- a node of two empty trees has the size 1 -/
theorem look_not {W : World} {B : Nat} {pl pr : Option Addr} {sl ml sr mr : BitVec 64} (h1 : Look NdS W B pl sl ml) (h2 : Look NdS W B pr sr mr) : pl ≠ none ∨ pr ≠ none ∨ sl + sr + 1#64 ≠ 0#64 := by
  rcases h1 with ⟨rfl, rfl, rfl⟩ | ⟨a, x, rfl, _⟩
  · rcases h2 with ⟨rfl, rfl, rfl⟩ | ⟨a, x, rfl, _⟩
    · exact .inr (.inr (by decide))
    · exact .inr (.inl (by simp))
  · exact .inl (by simp)
end Go.Proofs.YtfndaeocdgcaeaaDoor
/- Layer 9: what the program's own package node answers. -/
namespace Go.Proofs.YtfndaeocdgcaeaaDoor
open Go.RowKit Go.Proofs.Treem
set_option maxRecDepth 100000

set_option maxHeartbeats 2000000 in
theorem newS (w : World) (B : Nat) (pl pr : Option Addr) (k v g sl ml sr mr : BitVec 64) (hB : B ≤ w.heap.size) (h1 : Look NdS w B pl sl ml) (h2 : Look NdS w B pr sr mr) :
    Calls Tryd.prog 20 #[.pointer pl, K k, K v, G64 g, .pointer pr] w (Born NdS w ⟨pl, pr, k, v, g, sl + sr + 1#64, ml + v + mr⟩) := by
  have hn := Lib.hid (look_not h1 h2)
  have c1 : Hid (∀ W, Below w.heap.size w W → Calls Tryd.prog 37 #[.pointer pl] W fun e w' => e = .returned (K sl) ∧ Below W.heap.size W w') := fun W hb => lookS_size (lookS_next h1 (hb.mono hB))
  have c2 : Hid (∀ W, Below w.heap.size w W → Calls Tryd.prog 37 #[.pointer pr] W fun e w' => e = .returned (K sr) ∧ Below W.heap.size W w') := fun W hb => lookS_size (lookS_next h2 (hb.mono hB))
  have c3 : Hid (∀ W, Below w.heap.size w W → Calls Tryd.prog 38 #[.pointer pl] W fun e w' => e = .returned (K ml) ∧ Below W.heap.size W w') := fun W hb => lookS_sum (lookS_next h1 (hb.mono hB))
  have c4 : Hid (∀ W, Below w.heap.size w W → Calls Tryd.prog 38 #[.pointer pr] W fun e w' => e = .returned (K mr) ∧ Below W.heap.size W w') := fun W hb => lookS_sum (lookS_next h2 (hb.mono hB))
  have e1 := sizes_in sl sr
  have e2 := sums_in ml v mr
  obtain ⟨S, hS⟩ : ∃ S, sl + sr + 1#64 = S := ⟨_, rfl⟩
  obtain ⟨M, hM⟩ : ∃ M, ml + v + mr = M := ⟨_, rfl⟩
  rw [hS] at e1 hn ⊢
  rw [hM] at e2 ⊢
  clear h1 h2 hS hM hB
  go_enter Tryd.func20, Tryd.ntmps20
  go_wp2_with fail
  refine (c1.out w (Below.refl _ _)).mono ?_
  rintro e w1 ⟨rfl, hb1⟩
  have b1 := Lib.hid hb1
  clear hb1 c1
  go_wp2_with fail
  refine (c2.out w1 b1.out).mono ?_
  rintro e w2 ⟨rfl, hb2⟩
  have b2 := Lib.hid (Below.after b1.out hb2)
  clear hb2 c2 b1
  go_wp2_with fail
  refine (c3.out w2 b2.out).mono ?_
  rintro e w3 ⟨rfl, hb3⟩
  have b3 := Lib.hid (Below.after b2.out hb3)
  clear hb3 c3 b2
  go_wp2_with fail
  refine (c4.out w3 b3.out).mono ?_
  rintro e w4 ⟨rfl, hb4⟩
  have b4 := Lib.hid (Below.after b3.out hb4)
  clear hb4 c4 b3
  go_wp2
  go_ret
  exact ⟨_, rfl, b4.out.size, ⟨_, rfl, by simp, Has.new w4 _ _, hn.out⟩, b4.out.alloc b4.out.size _⟩
set_option maxHeartbeats 400000 in
theorem withV (w : World) (g : Nat) (l r : Option Addr) (k v xk xv xg xs xm S M : BitVec 64) (hh : Has w g 79 #[K xk, K xv, G64 xg, K xs, K xm, .pointer l, .pointer r])
    (nz : ∀ W, (binOp .eql 79 (.agg #[K xk, K xv, G64 xg, K xs, K xm, .pointer l, .pointer r]) (.agg #[.int .i64 0, .int .i64 0, .int .u64 0, .int .i64 0, .int .i64 0, .pointer none, .pointer none])).run Tryd.prog W = .ok (.bool false) W)
    (h : Calls Tryd.prog 20 #[.pointer l, K k, K v, G64 xg, .pointer r] w.drew (Born NdS w.drew ⟨l, r, k, v, xg, S, M⟩)) :
    Calls Tryd.prog 18 #[.pointer (some ⟨g, 0, none⟩), K k, K v] w (Born NdS w ⟨l, r, k, v, xg, S, M⟩) := by
  obtain ⟨y0, y1, y2, y3, y4, y5, y6⟩ := hh.seven
  have c0 := Lib.hid (told1 w ⟨g, 0, none⟩)
  have bd : Hid (Below w.heap.size w w.drew) := (Below.refl _ _).drew
  have c1 := Lib.hid h
  clear hh h
  go_enter Tryd.func18, Tryd.ntmps18
  go_wp2_with fail
  refine c0.out.mono ?_
  rintro e w' ⟨rfl, rfl⟩
  go_wp2_with fail
  go_still_tail 15, (by kernel_rfl)
  change wpList _ _ _ _ _ w.drew
  generalize w.drew = w2 at *
  go_wp2_with fail
  refine c1.out.mono ?_
  rintro e w1 ⟨b, rfl, hb1, hb2, hb3⟩
  have r1 := Lib.hid hb1
  have r2 := Lib.hid hb2
  have r3 := Lib.hid hb3
  clear hb1 hb2 hb3
  go_wp2
  go_ret
  exact ⟨b, rfl, Nat.le_trans bd.out.size r1.out, r2.out, Below.after bd.out r3.out⟩
theorem withS (w : World) (B : Nat) (a : Addr) (x : No) (k v sl ml sr mr : BitVec 64) (hB : B ≤ w.heap.size) (h : NdS w B a x) (h1 : Look NdS w B x.l sl ml) (h2 : Look NdS w B x.r sr mr) :
    Calls Tryd.prog 18 #[.pointer (some a), K k, K v] w (Born NdS w ⟨x.l, x.r, k, v, x.g, sl + sr + 1#64, ml + v + mr⟩) := by
  obtain ⟨g, rfl, hg, hh, hn⟩ := h
  have bd : Below w.heap.size w w.drew := (Below.refl _ _).drew
  exact withV w g x.l x.r k v x.k x.v x.g x.size x.sum _ _ hh (fun W => not_noughts W x hn) (newS w.drew B x.l x.r k v x.g sl ml sr mr hB (lookS_next h1 (bd.mono hB)) (lookS_next h2 (bd.mono hB)))
set_option maxHeartbeats 1000000 in
theorem withS0 (w : World) (k v : BitVec 64) : Calls Tryd.prog 18 #[.pointer none, K k, K v] w fun e w' => e = .returned (.pointer none) ∧ Below w.heap.size w w' := by
  have c := Lib.hid (told0 w)
  have nz := is_noughts
  go_enter Tryd.func18, Tryd.ntmps18
  go_wp2_with (go_at_call 36; (with_reducible refine c.out.mono ?_); rintro e w' ⟨g, rfl, hh, hb⟩; obtain ⟨y0, y1, y2, y3, y4, y5, y6⟩ := hh.seven; have b := Lib.hid hb; clear hh hb)
  go_ret
  exact ⟨rfl, b.out⟩
theorem node_says : NodeSays NdS where
  next := nextS
  more := fun ⟨g, e, hg, hh⟩ hb => ⟨g, e, Nat.lt_of_lt_of_le hg hb, hh⟩
  lt := fun ⟨g, e, hg, _⟩ => by rw [e]; exact hg
  lies := fun ⟨g, e, _, hh, _⟩ => by rw [e]; exact ⟨_, _, hh⟩
  new := newS
  with_ := withS
  with0 := withS0
  left := leftS
  left0 := leftS0
  right := rightS
  right0 := rightS0
  key := keyS
  key0 := keyS0
  val := valS
  val0 := valS0
  size := sizeS
  size0 := sizeS0
  sum := sumS
  sum0 := sumS0
end Go.Proofs.YtfndaeocdgcaeaaDoor
namespace Go.Proofs.YtfndaeocdgcaeaaDoor
open Go.RowKit Go.Proofs.Treem
variable {Nd : NdP} {T : World → Prop}

theorem sound_of (hN : NodeSays Nd) (hO : OrdSays T) : SoundSays Nd T where
  check := fun w o t p hT hp h5 => checkS_any hN hO w o t p hT hp h5
  exact := fun w t p hp h5 => exactS_any hN w t p hp h5
  ahead := fun w o t u p q hT hp hq h5 h6 => aheadS_any hN hO w o t u p q hT hp hq h5 h6
end Go.Proofs.YtfndaeocdgcaeaaDoor
