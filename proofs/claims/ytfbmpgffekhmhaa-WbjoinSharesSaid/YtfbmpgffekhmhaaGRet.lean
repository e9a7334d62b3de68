/- Results that lie in cells; a store of what lies there already; what a call keeps: shared by the landed packages from layer 16 on. No program but its types in it. -/
import Derived.Test.YtfbmpgffekhmhaaL9Ok
import Derived.Test.YtfbmpgffekhmhaaGRow
import Derived.Test.YtfbmpgffekhmhaaGRuns
import Derived.Laws.EntriesVeiled
namespace Go.Proofs.Ytfbmpgffekhmhaa
open Go.RowKit
attribute [local go_sem] Oper.semAt_some
set_option maxRecDepth 100000
namespace Ret

theorem row {P : Program} {fn : Func} {p : Tmp} {ty : TypeId} (h : fn.results = #[.cell p ty]) (tmps : Array Value) (w : World) (g : Nat) (t : TypeId) (cs : Array Value) (fr : Nat × Nat) (d : TypeDesc)
    (hp : tmps.getD p undef = .pointer (some ⟨g, 0, none⟩)) (hg : w.heap[g]? = some (.cells cs t fr))
    (hu : P.underlying ty = some d) (hd : (match d with | .struct _ | .array _ _ => true | _ => false) = true) (hi : (P.info? ty).map (·.size) = some cs.size) :
    (results fn tmps).run P w = .ok (.agg cs) w := by
  have hp' : tmps[p]?.getD undef = .pointer (some ⟨g, 0, none⟩) := by simpa using hp
  simp [results, h, hp', asAddr, run_loadVar_row w g t ty cs fr d hg hu hd hi]
theorem two {P : Program} {fn : Func} {p q : Tmp} {t u : TypeId} (h : fn.results = #[.cell p t, .cell q u]) (tmps : Array Value) (w : World) (gp gq : Nat) (x y : Value)
    (hp : tmps.getD p undef = .pointer (some ⟨gp, 0, none⟩)) (hq : tmps.getD q undef = .pointer (some ⟨gq, 0, none⟩)) (lp : (loadVar t ⟨gp, 0, none⟩).run P w = .ok x w) (lq : (loadVar u ⟨gq, 0, none⟩).run P w = .ok y w) :
    (results fn tmps).run P w = .ok (.tuple #[x, y]) w := by
  have hp' : tmps[p]?.getD undef = .pointer (some ⟨gp, 0, none⟩) := by simpa using hp
  have hq' : tmps[q]?.getD undef = .pointer (some ⟨gq, 0, none⟩) := by simpa using hq
  simp [results, h, hp', hq', asAddr, Sem.run_bind, Result.andThen, lp, lq]
/-- a store of what lies there changes nothing -/
theorem set_same {W : World} {g : Nat} {t : TypeId} {v : Value} (h : Boxed W g t v) : W.setCell ⟨g, 0, none⟩ v = W := by
  have h0 : W.heap[g]? = some (.cells #[v] t (0, 0)) := h
  obtain ⟨hlt, hg⟩ := Array.getElem?_eq_some_iff.1 h0
  have : (W.setCell ⟨g, 0, none⟩ v).heap = W.heap := by
    apply Array.ext_getElem?
    intro i
    simp only [World.setCell, Array.getElem?_modify]
    by_cases e : g = i
    · subst e
      rw [if_pos rfl, h0]
      simp
    · rw [if_neg e]
  cases W
  simp only [World.setCell] at this ⊢
  rw [this]
theorem load_int (w : World) (a : Addr) (x : Value) (h : w.cell? a = some x) : (loadVar 3 a).run Try.prog w = .ok x w := by
  simp [loadVar, h]
theorem load_errno (w : World) (a : Addr) (x : Value) (h : w.cell? a = some x) : (loadVar 70 a).run Try.prog w = .ok x w := by
  simp [loadVar, h]
theorem keeps_below {W W' : World} (h : Below W.heap.size W W') : KeepsOthers W W' := ⟨h.size, fun k _ hk _ => (h.block k (Array.getElem?_eq_some_iff.1 hk).1).trans hk⟩
theorem keeps_drew (W : World) : KeepsOthers W W.drew := ⟨Nat.le_refl _, fun _ _ h _ => h⟩
/-- two cells of a block, written -/
theorem put2 {w : World} {g : Nat} {t : TypeId} {a b : Value} (h : Has w g t #[a, b]) (x y : Value) : Has ((w.setCell ⟨g, 0, none⟩ x).setCell ⟨g, 1, none⟩ y) g t #[x, y] := by
  have k := (h.set 0 x).set 1 y
  rw [show ((#[a, b].setIfInBounds 0 x).setIfInBounds 1 y) = #[x, y] by simp] at k
  exact k
end Ret
end Go.Proofs.Ytfbmpgffekhmhaa
