/- Layer 10: LookStops, where it makes no tree. -/
import Derived.Test.YtadncdcblckpjaaL10Alive
import Derived.Test.YtadncdcblckpjaaGRound
import Derived.Laws.EntriesVeiled
import Derived.Laws.ResultCell
namespace Go.Proofs.Ytadncdcblckpjaa
open Go.RowKit Go.Shelf Go.Proofs.Rowm Go.Proofs.Treem
variable {Nd : NdP}
theorem results_bool {P : Program} {fn : Func} {p : Tmp} {ty : TypeId} (h : fn.results = #[.cell p ty]) (tmps : Array Value) (w : World) (g : Nat) (b : Bool)
    (hp : tmps.getD p undef = .pointer (some ⟨g, 0, none⟩)) (hu : P.underlying ty = some .bool) (hc : w.cell? ⟨g, 0, none⟩ = some (.bool b)) : (results fn tmps).run P w = .ok (.bool b) w := by
  have hp' : tmps[p]?.getD undef = .pointer (some ⟨g, 0, none⟩) := by simpa using hp
  have ha : (isAgg ty).run P w = .ok false w := by simp [isAgg, run_underlying hu]
  simp [results, h, hp', asAddr, go_sem, ha, hc]
/-- the call that ends each way, and its answer in the result's cell -/
theorem boxed_next {W W' : World} {B : Nat} {t : TypeId} {v : Value} (h : Boxed W B t v) (hb : Below W.heap.size W W') : Boxed W' B t v := (hb.block B h.lt).trans h
set_option maxHeartbeats 2000000 in
theorem lookStops_long (hN : NodeSays Nd) (hS : LookSays Nd) (A : Option Addr) (n c : Nat) (x : Nat) (w : World) (h : LongAt w A n c true) : Calls Try.prog 4 #[.slice A n c, .int .u8 x] w fun e w' => e = .returned (.bool true) ∧ Below w.heap.size w w' := by
  have c0 := Lib.hid (h _ ((Below.refl _ _).alloc (Nat.le_refl _) (.cells #[.bool false] 4)))
  have c1 := Lib.hid (alive10_any hN hS)
  have b0 := Lib.hid ((Below.refl _ w).alloc (Nat.le_refl _) (.cells #[.bool false] 4))
  have g0 := Lib.hid (Boxed.new w 4 (.bool false))
  clear h hN hS
  go_enter Try.func4, Try.ntmps4
  go_wp2_with (first
    | (go_at_call 6; (with_reducible refine c0.out.mono ?_); rintro e w' ⟨rfl, rfl⟩)
    | fail)
  refine (c1.out _).mono ?_
  rintro e w1 ⟨rfl, hb⟩
  have b1 := Lib.hid (Below.after b0.out hb)
  have g1 : Boxed w1 w.heap.size 4 (.bool false) := (hb.block w.heap.size g0.out.lt).trans g0.out
  have cc := g1.cell
  have cf := g1.frozen
  clear hb
  go_wp2
  exact bodyPost_ret (results_bool rfl _ _ w.heap.size true rfl Try.underlying4 (g1.set (.bool true)).cell) rfl ⟨rfl, b1.out.setCell (p := ⟨w.heap.size, 0, none⟩) (Nat.le_refl _) _⟩
set_option maxHeartbeats 2000000 in
theorem lookStops_big (hN : NodeSays Nd) (hS : LookSays Nd) (A : Option Addr) (n c : Nat) (x : Nat) (w : World) (h : LongAt w A n c false) (h6 : 60 < n) : Calls Try.prog 4 #[.slice A n c, .int .u8 x] w fun e w' => e = .returned (.bool true) ∧ Below w.heap.size w w' := by
  have c0 := Lib.hid (h _ ((Below.refl _ _).alloc (Nat.le_refl _) (.cells #[.bool false] 4)))
  have c1 := Lib.hid (alive10_any hN hS)
  have b0 := Lib.hid ((Below.refl _ w).alloc (Nat.le_refl _) (.cells #[.bool false] 4))
  have g0 := Lib.hid (Boxed.new w 4 (.bool false))
  clear h hN hS
  go_enter Try.func4, Try.ntmps4
  go_wp2_with (first
    | (go_at_call 6; (with_reducible refine c0.out.mono ?_); rintro e w' ⟨rfl, rfl⟩)
    | fail)
  refine (c1.out _).mono ?_
  rintro e w1 ⟨rfl, hb⟩
  have b1 := Lib.hid (Below.after b0.out hb)
  have g1 : Boxed w1 w.heap.size 4 (.bool false) := boxed_next g0.out hb
  have cc := g1.cell
  have cf := g1.frozen
  clear hb
  go_wp2
  exact bodyPost_ret (results_bool rfl _ _ w.heap.size true rfl Try.underlying4 (g1.set (.bool true)).cell) rfl ⟨rfl, b1.out.setCell (p := ⟨w.heap.size, 0, none⟩) (Nat.le_refl _) _⟩
end Go.Proofs.Ytadncdcblckpjaa
