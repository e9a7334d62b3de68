/- Maps that a call makes, by a literal, keyed by integers: a key put that is not there, a key looked up that is there, or that is not. -/
import Derived.WalkKit
import Derived.WalkSpells
import Derived.WideMake
import Derived.Laws.EntriesVeiled
import Derived.Lib.Hide
namespace Go.Proofs.Ytfbmpgffekhmhaa
open Go.RowKit

theorem set_push (a : Array Obj) (x y : Obj) : (a.push x).setIfInBounds a.size y = a.push y := by
  apply Array.ext'; simp
/-- a key that is not there is put into the map that was made last -/
theorem put_fresh {P : Program} (w : World) {t kt et : TypeId} {q : IntKind} {r : Nat} {es : Array MapEntry} {c : Nat} {k : Int} {v : Value} (hm : P.underlying t = some (.map kt et)) (hk : P.underlying kt = some (.int q)) (hr : w.heap.size = r)
    (hf : Instr.findNow (.int q) (.int q k) es.toList 0 = some none) :
    (Instr.mapUpdate t (.map (some r)) (.int q k) v).run P (w.alloc (.map es c)) = .ok () (w.alloc (.map (es.push ⟨.int q k, v, c⟩) (c + 1))) := by
  subst hr
  have hb : (w.alloc (.map es c)).heap[w.heap.size]? = some (.map es c) := (MapKept.heap_alloc w _).1
  have hc : (Instr.checkKey false 10000 kt (.int q k)).run P (w.alloc (.map es c)) = .ok () (w.alloc (.map es c)) := MapKept.run_checkKey (k := .int q k) hk (by simp [MapKept.IsKey]) false 9999
  simp [Instr.mapUpdate, run_underlying hm, MapKept.run_getObj_map hb, hc, MapKept.run_findKey hk hf, MapKept.run_setObj_map _ hb, Result.andThen]
  exact congrArg (fun h => ({ w with heap := h } : World)) (set_push w.heap _ _)
/-- a key that is there is found in the map that was made last -/
theorem look_there {P : Program} (w : World) {t kt et : TypeId} {q : IntKind} {r : Nat} {es : Array MapEntry} {c : Nat} {k : Int} {i : Nat} {v : Value} (hm : P.underlying t = some (.map kt et)) (hk : P.underlying kt = some (.int q)) (hr : w.heap.size = r)
    (hf : Instr.findNow (.int q) (.int q k) es.toList 0 = some (some (i, v))) :
    (Instr.lookup t (.map (some r)) (.int q k) true).run P (w.alloc (.map es c)) = .ok (.tuple #[v, .bool true]) (w.alloc (.map es c)) := by
  subst hr
  have hb : (w.alloc (.map es c)).heap[w.heap.size]? = some (.map es c) := (MapKept.heap_alloc w _).1
  have hc : (Instr.checkKey es.isEmpty 10000 kt (.int q k)).run P (w.alloc (.map es c)) = .ok () (w.alloc (.map es c)) := MapKept.run_checkKey (k := .int q k) hk (by simp [MapKept.IsKey]) _ 9999
  simp [Instr.lookup, run_underlying hm, MapKept.run_getObj_map hb, hc, MapKept.run_findKey hk hf, Result.andThen]
/-- one that is not there is told so -/
theorem look_none {P : Program} (w : World) {t kt et : TypeId} {q : IntKind} {r : Nat} {es : Array MapEntry} {c : Nat} {k : Int} {z : Value} (hm : P.underlying t = some (.map kt et)) (hk : P.underlying kt = some (.int q)) (hr : w.heap.size = r)
    (hz : (zeroValue et).run P (w.alloc (.map es c)) = .ok z (w.alloc (.map es c))) (hf : Instr.findNow (.int q) (.int q k) es.toList 0 = some none) :
    (Instr.lookup t (.map (some r)) (.int q k) true).run P (w.alloc (.map es c)) = .ok (.tuple #[z, .bool false]) (w.alloc (.map es c)) := by
  subst hr
  have hb : (w.alloc (.map es c)).heap[w.heap.size]? = some (.map es c) := (MapKept.heap_alloc w _).1
  have hc : (Instr.checkKey es.isEmpty 10000 kt (.int q k)).run P (w.alloc (.map es c)) = .ok () (w.alloc (.map es c)) := MapKept.run_checkKey (k := .int q k) hk (by simp [MapKept.IsKey]) _ 9999
  simp [Instr.lookup, run_underlying hm, MapKept.run_getObj_map hb, hc, MapKept.run_findKey hk hf, hz, Result.andThen]

/-- a function of the program, as a value -/
abbrev fnV (f : FuncId) : Value := .func (.func f) #[] #[]
end Go.Proofs.Ytfbmpgffekhmhaa
