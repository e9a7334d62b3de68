/- Layer 10, package look as it landed: All, Back. -/
import Derived.Test.YtadncdcblckpjaaN10Runs
namespace Go.Proofs.Ytadncdcblckpjaa
open Go.RowKit Go.Shelf Go.Proofs.Treem Go.Proofs.Rowm
attribute [local go_sem] Oper.semAt_some
set_option maxRecDepth 100000
variable {Nd : NdP}

theorem pairs_goes (hN : NodeSays Nd) (d : Bool) (fN fF : FuncId) (hd : Sides Nd d fN fF) (T : AT) (hs : T.size ≤ 1000) (w : World) (B : Nat) (hB : B ≤ w.heap.size) (hl : T.lies Nd w B) :
    Calls Try.prog 33 #[wayV fN fF, .pointer T.ptr] w fun e w' => ∃ v, e = .returned v ∧ Goes B w' v ((AT.spots d 1 T).map Sp.pr) ∧ Below w.heap.size w w' := by
  refine (pairs_any _ _ _ w).mono ?_
  rintro e w' ⟨rfl, rfl⟩
  have hb := ((Below.refl w.heap.size w).alloc (Nat.le_refl _) (.cells #[.func (.func fN) #[] #[], .func (.func fF) #[] #[]] 63)).alloc (by simp) (.cells #[.pointer T.ptr] 25)
  have h1 : Has ((w.alloc (.cells #[.func (.func fN) #[] #[], .func (.func fF) #[] #[]] 63)).alloc (.cells #[.pointer T.ptr] 25)) w.heap.size 63 #[.func (.func fN) #[] #[], .func (.func fF) #[] #[]] := (Has.new w _ _).alloc _
  have h2 : Boxed ((w.alloc (.cells #[.func (.func fN) #[] #[], .func (.func fF) #[] #[]] 63)).alloc (.cells #[.pointer T.ptr] 25)) (w.heap.size + 1) 25 (.pointer T.ptr) := by
    have := Boxed.new (w.alloc (.cells #[.func (.func fN) #[] #[], .func (.func fF) #[] #[]] 63)) 25 (.pointer T.ptr)
    rw [World.size_alloc] at this
    exact this
  refine ⟨_, rfl, ⟨Nat.le_trans hB hb.size, _, _, rfl, enters_of Try.func44 (by kernel_rfl) rfl, fun W hW n => ?_⟩, hb⟩
  exact pairs_runs hN d fN fF hd _ _ T hs W B (Nat.le_trans hB (Nat.le_trans hb.size hW.size)) (hl.next hN ((hb.mono hB).trans (hW.mono (Nat.le_trans hB hb.size)))) (h1.next hW) (Has.next (show Has _ _ _ _ from h2) hW) n
set_option maxHeartbeats 1000000 in
theorem all_goes (hN : NodeSays Nd) (w : World) (t : Tr) (p : Option Addr) (B : Nat) (hB : B ≤ w.heap.size) (hT : TreeAt Nd w B t p) (hs : t.size ≤ 1000) : Calls Try.prog 14 #[.pointer p] w fun e w' => ∃ v, e = .returned v ∧ Goes B w' v t.pairs ∧ Below w.heap.size w w' := by
  obtain ⟨T, rfl, hl, rfl⟩ := AT.of_tree t p hT
  rw [AT.size_tr] at hs
  have c0 := Lib.hid (rightward_any w)
  have c1 := Lib.hid (fun W (hb : Below w.heap.size w W) => pairs_goes hN true _ _ (sides_right hN) T hs W B (Nat.le_trans hB hb.size) (hl.next hN (hb.mono hB)))
  have hp := AT.spots_right T 1
  rw [hp] at c1
  clear hT hN hl hp hB hs
  go_enter Try.func14, Try.ntmps14
  go_wp2_with fail
  refine c0.out.mono ?_
  rintro e w1 ⟨rfl, hb⟩
  have b1 := Lib.hid hb
  clear hb
  go_wp2_with fail
  refine (c1.out w1 b1.out).mono ?_
  rintro e w2 ⟨v, rfl, hg, hb⟩
  have hg' := Lib.hid hg
  have b2 := Lib.hid (Below.after b1.out hb)
  clear hg hb
  go_wp2
  go_ret
  exact ⟨v, rfl, hg'.out, b2.out⟩
set_option maxHeartbeats 1000000 in
theorem back_goes (hN : NodeSays Nd) (w : World) (t : Tr) (p : Option Addr) (B : Nat) (hB : B ≤ w.heap.size) (hT : TreeAt Nd w B t p) (hs : t.size ≤ 1000) : Calls Try.prog 15 #[.pointer p] w fun e w' => ∃ v, e = .returned v ∧ Goes B w' v t.pairs.reverse ∧ Below w.heap.size w w' := by
  obtain ⟨T, rfl, hl, rfl⟩ := AT.of_tree t p hT
  rw [AT.size_tr] at hs
  have c0 := Lib.hid (leftward_any w)
  have c1 := Lib.hid (fun W (hb : Below w.heap.size w W) => pairs_goes hN false _ _ (sides_left hN) T hs W B (Nat.le_trans hB hb.size) (hl.next hN (hb.mono hB)))
  have hp := AT.spots_left T 1
  rw [hp] at c1
  clear hT hN hl hp hB hs
  go_enter Try.func15, Try.ntmps15
  go_wp2_with fail
  refine c0.out.mono ?_
  rintro e w1 ⟨rfl, hb⟩
  have b1 := Lib.hid hb
  clear hb
  go_wp2_with fail
  refine (c1.out w1 b1.out).mono ?_
  rintro e w2 ⟨v, rfl, hg, hb⟩
  have hg' := Lib.hid hg
  have b2 := Lib.hid (Below.after b1.out hb)
  clear hg hb
  go_wp2
  go_ret
  exact ⟨v, rfl, hg'.out, b2.out⟩
end Go.Proofs.Ytadncdcblckpjaa
