/- The contracts of Code, Key and Compare of package order: each returns what the plain mathematics says and changes nothing that lay, while the table of steps reads as its initialiser lays it. -/
import Derived.Test.YtjnnfineebabaaaDoorL2Rule
import Derived.Test.YtjnnfineebabaaaDoorL2Leaf
namespace Go.Proofs.YtjnnfineebabaaaDoor
open Go.RowKit Go.Proofs.Mixm

set_option maxHeartbeats 400000 in
theorem code_by (o : Nat) (h1 : 1 ≤ o) (h7 : o ≤ 7) (f g : FuncId) (hf : Hid (ruleV o = .agg #[fnV f, fnV g])) (he : ∀ args w, (callFunc f args).run Tryd.prog w = .ok (.enter f args) w) (b c : BitVec 64) (w : World)
    (hC : Hid (∀ w1, Below w.heap.size w w1 → Calls Tryd.prog f #[K b] w1 fun e w2 => e = .returned (V c) ∧ Below w1.heap.size w1 w2)) :
    Calls Tryd.prog 44 #[.int .u8 o, K b] w fun e w' => e = .returned (.tuple #[V c, .int .i64 0]) ∧ Below w.heap.size w w' := by
  go_enter Tryd.func44, Tryd.ntmps44
  go_wp2_with fail
  refine (ruleOf_at o h1 h7 f g hf _).mono ?_
  rintro e w1 ⟨rfl, hb⟩
  have hb1 := Lib.hid hb
  clear hb
  go_wp2_with fail
  have hb2 := Lib.hid (hb1.out.alloc hb1.out.size (.cells #[fnV f, fnV g] 89))
  refine (hC.out _ hb2.out).mono ?_
  rintro e w2 ⟨rfl, hb⟩
  have hb3 := Lib.hid (hb2.out.trans (hb.mono hb2.out.size))
  clear hb
  go_wp2
  go_ret2
  exact ⟨rfl, hb3.out⟩

set_option maxHeartbeats 400000 in
theorem code_none (o : Int) (h : ¬ (1 ≤ o ∧ o ≤ 7)) (b : BitVec 64) (w : World) :
    Calls Tryd.prog 44 #[.int .u8 o, K b] w fun e w' => e = .returned (.tuple #[.int .u64 0, .int .i64 2]) ∧ Below w.heap.size w w' := by
  have h' := Lib.hid h
  clear h
  go_enter Tryd.func44, Tryd.ntmps44
  go_wp2_with fail
  refine (ruleOf_none o h'.out _).mono ?_
  rintro e w1 ⟨rfl, hb⟩
  have hb1 := Lib.hid hb
  clear hb
  go_wp2
  go_ret2
  exact ⟨rfl, hb1.out.alloc hb1.out.size _⟩

set_option maxHeartbeats 400000 in
theorem compare_none (o : Int) (h : ¬ (1 ≤ o ∧ o ≤ 7)) (a b : BitVec 64) (w : World) :
    Calls Tryd.prog 46 #[.int .u8 o, K a, K b] w fun e w' => e = .returned (.int .i64 0) ∧ Below w.heap.size w w' := by
  have h' := Lib.hid h
  clear h
  go_enter Tryd.func46, Tryd.ntmps46
  go_wp2_with fail
  refine (ruleOf_none o h'.out _).mono ?_
  rintro e w1 ⟨rfl, hb⟩
  have hb1 := Lib.hid hb
  clear hb
  go_wp2
  go_ret
  exact ⟨rfl, hb1.out.alloc hb1.out.size _⟩

end Go.Proofs.YtjnnfineebabaaaDoor
