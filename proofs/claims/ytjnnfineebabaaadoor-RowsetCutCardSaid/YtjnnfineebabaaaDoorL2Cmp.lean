/- The contract of Compare of package order: it returns how two keys stand and changes nothing that lay, while the table of steps reads as its initialiser lays it. -/
import Derived.Test.YtjnnfineebabaaaDoorL2Code
import Derived.Deep.RegionHeld3
namespace Go.Proofs.YtjnnfineebabaaaDoor
open Go.RowKit Go.Shelf Go.Proofs.Mixm

theorem held_next {w : World} {n : Nat} {v : Value} {x y : World} (h : x.cell? ⟨n, 0, none⟩ = some v ∧ n < x.heap.size ∧ Below w.heap.size w x) (hb : Below x.heap.size x y) : y.cell? ⟨n, 0, none⟩ = some v ∧ n < y.heap.size ∧ Below w.heap.size w y :=
  ⟨(hb.cell (p := ⟨n, 0, none⟩) h.2.1).trans h.1, Nat.lt_of_lt_of_le h.2.1 hb.size, h.2.2.trans (hb.mono h.2.2.size)⟩

set_option maxRecDepth 100000 in
set_option maxHeartbeats 2000000 in
theorem compare_by (o : Nat) (h1 : 1 ≤ o) (h7 : o ≤ 7) (f g : FuncId) (hf : Hid (ruleV o = .agg #[fnV f, fnV g])) (he : ∀ args w, (callFunc f args).run Tryd.prog w = .ok (.enter f args) w) (cd : BitVec 64 → BitVec 64) (a b : BitVec 64) (w : World)
    (hC : Hid (∀ x w1, Below w.heap.size w w1 → Calls Tryd.prog f #[K x] w1 fun e w2 => e = .returned (V (cd x)) ∧ Below w1.heap.size w1 w2)) :
    Calls Tryd.prog 46 #[.int .u8 o, K a, K b] w fun e w' => e = .returned (.int .i64 (Ordm.cmp (cd a) (cd b))) ∧ Below w.heap.size w w' := by
  go_enter Tryd.func46, Tryd.ntmps46
  go_wp2_with fail
  refine (ruleOf_at o h1 h7 f g hf _).mono ?_
  rintro e w1 ⟨rfl, hb⟩
  have hb1 := Lib.hid hb
  clear hb
  go_wp2_with fail
  have hb2 := Lib.hid (hb1.out.alloc hb1.out.size (.cells #[fnV f, fnV g] 89))
  have hc2 : (w1.alloc (.cells #[fnV f, fnV g] 89)).cell? ⟨w1.heap.size, 0, none⟩ = some (fnV f) := by simp
  have hz2 : w1.heap.size < (w1.alloc (.cells #[fnV f, fnV g] 89)).heap.size := by simp
  obtain ⟨W2, hW2⟩ : ∃ W2, w1.alloc (.cells #[fnV f, fnV g] 89) = W2 := ⟨_, rfl⟩
  rw [hW2] at hb2 hc2 hz2
  rw [show w1.alloc (.cells #[Value.func (Fn.func f) #[] #[], Value.func (Fn.func g) #[] #[]] 89) = W2 from hW2]
  clear hW2
  go_region_held3 (fun w' => w'.cell? ⟨w1.heap.size, 0, none⟩ = some (fnV f) ∧ w1.heap.size < w'.heap.size ∧ Below w.heap.size w w') (first | exact ⟨hc2, hz2, hb2.out.drew⟩ | assumption)
    (first | (go_at_call 51; refine (cmp_any _ _ _).mono ?_; rintro e w' ⟨rfl, rfl⟩) | (refine (hC.out _ _ (And.right (And.right (by assumption)))).mono ?_; rintro e w' ⟨rfl, hb⟩; have hS' := held_next (w := w) (by assumption) hb; clear hb))
  go_wp2
  go_ret
  exact ⟨rfl, And.right (And.right (by assumption))⟩

/-- a call that leaves the world alone changes nothing that lay -/
theorem still {P : Program} {f : FuncId} {xs : Array Value} {v : Value} {w : World} (h : Calls P f xs w fun e w' => e = .returned v ∧ w = w') : Calls P f xs w fun e w' => e = .returned v ∧ Below w.heap.size w w' :=
  h.mono fun _ _ ⟨he, hw⟩ => ⟨he, hw ▸ Below.refl _ _⟩

theorem code_at (o : Nat) (h1 : 1 ≤ o) (h7 : o ≤ 7) (b : BitVec 64) (w : World) (h0 : 0 < w.heap.size) (hs : Steps w) :
    Calls Tryd.prog 44 #[.int .u8 o, K b] w fun e w' => e = .returned (.tuple #[V (Ordm.code o b), .int .i64 0]) ∧ Below w.heap.size w w' := by
  have : o = 1 ∨ o = 2 ∨ o = 3 ∨ o = 4 ∨ o = 5 ∨ o = 6 ∨ o = 7 := by omega
  rcases this with rfl | rfl | rfl | rfl | rfl | rfl | rfl
  · exact code_by 1 (by omega) (by omega) _ _ (Lib.hid rfl) (enters_of Tryd.func69 (by kernel_rfl) rfl) b _ w (Lib.hid fun w1 _ => still (up_any b w1))
  · exact code_by 2 (by omega) (by omega) _ _ (Lib.hid rfl) (enters_of Tryd.func71 (by kernel_rfl) rfl) b _ w (Lib.hid fun w1 _ => still (down_any b w1))
  · exact code_by 3 (by omega) (by omega) _ _ (Lib.hid rfl) (enters_of Tryd.func73 (by kernel_rfl) rfl) b _ w (Lib.hid fun w1 _ => still (size_any b w1))
  · exact code_by 4 (by omega) (by omega) _ _ (Lib.hid rfl) (enters_of Tryd.func75 (by kernel_rfl) rfl) b _ w (Lib.hid fun w1 _ => still (bits_any b w1))
  · exact code_by 5 (by omega) (by omega) _ _ (Lib.hid rfl) (enters_of Tryd.func77 (by kernel_rfl) rfl) b _ w (Lib.hid fun w1 _ => still (even_any b w1))
  · exact code_by 6 (by omega) (by omega) _ _ (Lib.hid rfl) (enters_of Tryd.func79 (by kernel_rfl) rfl) b _ w (Lib.hid fun w1 _ => still (low_any b w1))
  · exact code_by 7 (by omega) (by omega) _ _ (Lib.hid rfl) (enters_of Tryd.func81 (by kernel_rfl) rfl) b _ w (Lib.hid fun w1 hb => mixed_any b w1 (Nat.lt_of_lt_of_le h0 hb.size) (hs.below h0 hb))

theorem compare_at (o : Nat) (h1 : 1 ≤ o) (h7 : o ≤ 7) (a b : BitVec 64) (w : World) (h0 : 0 < w.heap.size) (hs : Steps w) :
    Calls Tryd.prog 46 #[.int .u8 o, K a, K b] w fun e w' => e = .returned (.int .i64 (Ordm.stand o a b)) ∧ Below w.heap.size w w' := by
  have : o = 1 ∨ o = 2 ∨ o = 3 ∨ o = 4 ∨ o = 5 ∨ o = 6 ∨ o = 7 := by omega
  rcases this with rfl | rfl | rfl | rfl | rfl | rfl | rfl
  · exact compare_by 1 (by omega) (by omega) _ _ (Lib.hid rfl) (enters_of Tryd.func69 (by kernel_rfl) rfl) _ a b w (Lib.hid fun x w1 _ => still (up_any x w1))
  · exact compare_by 2 (by omega) (by omega) _ _ (Lib.hid rfl) (enters_of Tryd.func71 (by kernel_rfl) rfl) _ a b w (Lib.hid fun x w1 _ => still (down_any x w1))
  · exact compare_by 3 (by omega) (by omega) _ _ (Lib.hid rfl) (enters_of Tryd.func73 (by kernel_rfl) rfl) _ a b w (Lib.hid fun x w1 _ => still (size_any x w1))
  · exact compare_by 4 (by omega) (by omega) _ _ (Lib.hid rfl) (enters_of Tryd.func75 (by kernel_rfl) rfl) _ a b w (Lib.hid fun x w1 _ => still (bits_any x w1))
  · exact compare_by 5 (by omega) (by omega) _ _ (Lib.hid rfl) (enters_of Tryd.func77 (by kernel_rfl) rfl) _ a b w (Lib.hid fun x w1 _ => still (even_any x w1))
  · exact compare_by 6 (by omega) (by omega) _ _ (Lib.hid rfl) (enters_of Tryd.func79 (by kernel_rfl) rfl) _ a b w (Lib.hid fun x w1 _ => still (low_any x w1))
  · exact compare_by 7 (by omega) (by omega) _ _ (Lib.hid rfl) (enters_of Tryd.func81 (by kernel_rfl) rfl) _ a b w (Lib.hid fun x w1 hb => mixed_any x w1 (Nat.lt_of_lt_of_le h0 hb.size) (hs.below h0 hb))

end Go.Proofs.YtjnnfineebabaaaDoor
