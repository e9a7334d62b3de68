/- Layer 18: the chapter's examples (alive). Made by wip/gen/layer18laws.py. -/
import Derived.Test.YtifhnaelkjfmdaaL18Says
namespace Go.Proofs.Ytifhnaelkjfmdaa
open Go.RowKit Go.Proofs.Treem
set_option maxRecDepth 100000
variable {Nd : NdP}

set_option maxHeartbeats 4000000 in
theorem alive18_any (hN : NodeSays Nd) (hS : WbSays Nd) (w : World) : Calls Try.prog 16 #[] w fun e w' => e = .returned (.bool true) ∧ Below w.heap.size w w' := by
  have cU : Hid (∀ (W : World), Calls Try.prog 27 #[.pointer none, .int .i64 1, .int .i64 0, .pointer none] W fun e w' => ∃ a, e = .returned (.pointer (some a)) ∧ TreeAt Nd w' w'.heap.size exU (some a) ∧ Below W.heap.size W w') := fun W => (WbSays.makeT hN hS W .e .e none none 1#64 0#64 rfl rfl).mono fun e w' ⟨a, k3, _, _, k5, k6⟩ => ⟨a, k3, k5, k6⟩
  have cV : Hid (∀ (W : World), Calls Try.prog 27 #[.pointer none, .int .i64 3, .int .i64 0, .pointer none] W fun e w' => ∃ a, e = .returned (.pointer (some a)) ∧ TreeAt Nd w' w'.heap.size exV (some a) ∧ Below W.heap.size W w') := fun W => (WbSays.makeT hN hS W .e .e none none 3#64 0#64 rfl rfl).mono fun e w' ⟨a, k3, _, _, k5, k6⟩ => ⟨a, k3, k5, k6⟩
  have cX : Hid (∀ (W : World) (p q : Option Addr),TreeAt Nd W W.heap.size exU p → TreeAt Nd W W.heap.size exV q → Calls Try.prog 27 #[.pointer p, .int .i64 2, .int .i64 0, .pointer q] W fun e w' => ∃ a, e = .returned (.pointer (some a)) ∧ TreeAt Nd w' w'.heap.size exX (some a) ∧ Below W.heap.size W w') := fun W p q h0 h1 => (WbSays.makeT hN hS W exU exV p q 2#64 0#64 h0 h1).mono fun e w' ⟨a, k3, _, _, k5, k6⟩ => ⟨a, k3, k5, k6⟩
  have cY : Hid (∀ (W : World) (p q : Option Addr),TreeAt Nd W W.heap.size exX p → TreeAt Nd W W.heap.size exU q → Calls Try.prog 27 #[.pointer p, .int .i64 4, .int .i64 0, .pointer q] W fun e w' => ∃ a, e = .returned (.pointer (some a)) ∧ TreeAt Nd w' w'.heap.size exY (some a) ∧ Below W.heap.size W w') := fun W p q h0 h1 => (WbSays.makeT hN hS W exX exU p q 4#64 0#64 h0 h1).mono fun e w' ⟨a, k3, _, _, k5, k6⟩ => ⟨a, k3, k5, k6⟩
  have cZ : Hid (∀ (W : World) (p : Option Addr), TreeAt Nd W W.heap.size exX p → Calls Try.prog 27 #[.pointer p, .int .i64 4, .int .i64 0, .pointer p] W fun e w' => ∃ a, e = .returned (.pointer (some a)) ∧ TreeAt Nd w' w'.heap.size exZ (some a) ∧ Below W.heap.size W w') := fun W p h0 => (WbSays.makeT hN hS W exX exX p p 4#64 0#64 h0 h0).mono fun e w' ⟨a, k3, _, _, k5, k6⟩ => ⟨a, k3, k5, k6⟩
  have l1 : Hid (∀ W : World, Calls Try.prog 25 #[.int .i64 1, .int .i64 2] W fun e w' => e = .returned (.bool true) ∧ Below W.heap.size W w') := fun W => hS.like W 1 2 (by decide) (by decide) (by decide) (by decide)
  have l2 : Hid (∀ W : World, Calls Try.prog 25 #[.int .i64 1, .int .i64 3] W fun e w' => e = .returned (.bool false) ∧ Below W.heap.size W w') := fun W => hS.like W 1 3 (by decide) (by decide) (by decide) (by decide)
  have l3 : Hid (∀ W : World, Calls Try.prog 25 #[.int .i64 0, .int .i64 0] W fun e w' => e = .returned (.bool false) ∧ Below W.heap.size W w') := fun W => hS.like W 0 0 (by decide) (by decide) (by decide) (by decide)
  have w0 : Hid (∀ W : World, Calls Try.prog 22 #[.pointer none] W fun e w' => e = .returned (.int .i64 1) ∧ Below W.heap.size W w') := fun W => hS.weight W .e none rfl (by decide)
  have wX : Hid (∀ W p, TreeAt Nd W W.heap.size exX p → Calls Try.prog 22 #[.pointer p] W fun e w' => e = .returned (.int .i64 4) ∧ Below W.heap.size W w') := fun W p hp => hS.weight W exX p hp (by decide)
  have rX : Hid (∀ W p, TreeAt Nd W W.heap.size exX p → Calls Try.prog 23 #[.pointer p] W fun e w' => e = .returned (.int .i64 2) ∧ Below W.heap.size W w') := fun W p hp => hS.rank W exX p hp (by decide)
  have r0 : Hid (∀ W : World, Calls Try.prog 23 #[.pointer none] W fun e w' => e = .returned (.int .i64 0) ∧ Below W.heap.size W w') := fun W => hS.rank W .e none rfl (by decide)
  have rY : Hid (∀ W p, TreeAt Nd W W.heap.size exY p → Calls Try.prog 23 #[.pointer p] W fun e w' => e = .returned (.int .i64 2) ∧ Below W.heap.size W w') := fun W p hp => hS.rank W exY p hp (by decide)
  have rZ : Hid (∀ W p, TreeAt Nd W W.heap.size exZ p → Calls Try.prog 23 #[.pointer p] W fun e w' => e = .returned (.int .i64 3) ∧ Below W.heap.size W w') := fun W p hp => hS.rank W exZ p hp (by decide)
  have mX : Hid (∀ W p, TreeAt Nd W W.heap.size exX p → Calls Try.prog 20 #[.pointer p] W fun e w' => e = .returned (.bool true) ∧ Below W.heap.size W w') := fun W p hp => hS.may W exX p hp (by decide)
  have hN' := Lib.hid hN
  clear hN hS
  go_enter Try.func16, Try.ntmps16
  have B_0 := Lib.hid (Below.refl w.heap.size w)
  go_wp2_with fail
  refine (cU.out w).mono ?_
  rintro e w1 ⟨a, rfl, hT, hb⟩
  have B_1 := Lib.hid (Below.after B_0.out hb)
  clear B_0
  have A_1 := Lib.hid hT
  clear hT
  clear hb
  go_wp2_with fail
  refine (cV.out w1).mono ?_
  rintro e w2 ⟨b, rfl, hT, hb⟩
  have A_2 := Lib.hid (A_1.out.after hN'.out hb)
  have B_2 := Lib.hid (Below.after B_1.out hb)
  clear A_1 B_1
  have D_2 := Lib.hid hT
  clear hT
  clear hb
  go_wp2_with fail
  refine (cX.out w2 _ _ A_2.out D_2.out).mono ?_
  rintro e w3 ⟨c, rfl, hT, hb⟩
  have A_3 := Lib.hid (A_2.out.after hN'.out hb)
  have D_3 := Lib.hid (D_2.out.after hN'.out hb)
  have B_3 := Lib.hid (Below.after B_2.out hb)
  clear A_2 D_2 B_2
  have X_3 := Lib.hid hT
  clear hT
  clear hb
  go_wp2_with fail
  refine (l1.out w3).mono ?_
  rintro e w4 ⟨rfl, hb⟩
  have A_4 := Lib.hid (A_3.out.after hN'.out hb)
  have D_4 := Lib.hid (D_3.out.after hN'.out hb)
  have X_4 := Lib.hid (X_3.out.after hN'.out hb)
  have B_4 := Lib.hid (Below.after B_3.out hb)
  clear A_3 D_3 X_3 B_3
  clear hb
  go_wp2_with fail
  refine (l2.out w4).mono ?_
  rintro e w5 ⟨rfl, hb⟩
  have A_5 := Lib.hid (A_4.out.after hN'.out hb)
  have D_5 := Lib.hid (D_4.out.after hN'.out hb)
  have X_5 := Lib.hid (X_4.out.after hN'.out hb)
  have B_5 := Lib.hid (Below.after B_4.out hb)
  clear A_4 D_4 X_4 B_4
  clear hb
  go_wp2_with fail
  refine (l3.out w5).mono ?_
  rintro e w6 ⟨rfl, hb⟩
  have A_6 := Lib.hid (A_5.out.after hN'.out hb)
  have D_6 := Lib.hid (D_5.out.after hN'.out hb)
  have X_6 := Lib.hid (X_5.out.after hN'.out hb)
  have B_6 := Lib.hid (Below.after B_5.out hb)
  clear A_5 D_5 X_5 B_5
  clear hb
  go_wp2_with fail
  refine (w0.out w6).mono ?_
  rintro e w7 ⟨rfl, hb⟩
  have A_7 := Lib.hid (A_6.out.after hN'.out hb)
  have D_7 := Lib.hid (D_6.out.after hN'.out hb)
  have X_7 := Lib.hid (X_6.out.after hN'.out hb)
  have B_7 := Lib.hid (Below.after B_6.out hb)
  clear A_6 D_6 X_6 B_6
  clear hb
  go_wp2_with fail
  refine (wX.out w7 _ X_7.out).mono ?_
  rintro e w8 ⟨rfl, hb⟩
  have A_8 := Lib.hid (A_7.out.after hN'.out hb)
  have D_8 := Lib.hid (D_7.out.after hN'.out hb)
  have X_8 := Lib.hid (X_7.out.after hN'.out hb)
  have B_8 := Lib.hid (Below.after B_7.out hb)
  clear A_7 D_7 X_7 B_7
  clear hb
  go_wp2_with fail
  refine (rX.out w8 _ X_8.out).mono ?_
  rintro e w9 ⟨rfl, hb⟩
  have A_9 := Lib.hid (A_8.out.after hN'.out hb)
  have D_9 := Lib.hid (D_8.out.after hN'.out hb)
  have X_9 := Lib.hid (X_8.out.after hN'.out hb)
  have B_9 := Lib.hid (Below.after B_8.out hb)
  clear A_8 D_8 X_8 B_8
  clear hb
  go_wp2_with fail
  refine (r0.out w9).mono ?_
  rintro e w10 ⟨rfl, hb⟩
  have A_10 := Lib.hid (A_9.out.after hN'.out hb)
  have D_10 := Lib.hid (D_9.out.after hN'.out hb)
  have X_10 := Lib.hid (X_9.out.after hN'.out hb)
  have B_10 := Lib.hid (Below.after B_9.out hb)
  clear A_9 D_9 X_9 B_9
  clear hb
  go_wp2_with fail
  refine (cY.out w10 _ _ X_10.out A_10.out).mono ?_
  rintro e w11 ⟨d, rfl, hT, hb⟩
  have A_11 := Lib.hid (A_10.out.after hN'.out hb)
  have D_11 := Lib.hid (D_10.out.after hN'.out hb)
  have X_11 := Lib.hid (X_10.out.after hN'.out hb)
  have B_11 := Lib.hid (Below.after B_10.out hb)
  clear A_10 D_10 X_10 B_10
  have Y_11 := Lib.hid hT
  clear hT
  clear hb
  go_wp2_with fail
  refine (rY.out w11 _ Y_11.out).mono ?_
  rintro e w12 ⟨rfl, hb⟩
  have A_12 := Lib.hid (A_11.out.after hN'.out hb)
  have D_12 := Lib.hid (D_11.out.after hN'.out hb)
  have X_12 := Lib.hid (X_11.out.after hN'.out hb)
  have Y_12 := Lib.hid (Y_11.out.after hN'.out hb)
  have B_12 := Lib.hid (Below.after B_11.out hb)
  clear A_11 D_11 X_11 Y_11 B_11
  clear hb
  go_wp2_with fail
  refine (cZ.out w12 _ X_12.out).mono ?_
  rintro e w13 ⟨z, rfl, hT, hb⟩
  have A_13 := Lib.hid (A_12.out.after hN'.out hb)
  have D_13 := Lib.hid (D_12.out.after hN'.out hb)
  have X_13 := Lib.hid (X_12.out.after hN'.out hb)
  have Y_13 := Lib.hid (Y_12.out.after hN'.out hb)
  have B_13 := Lib.hid (Below.after B_12.out hb)
  clear A_12 D_12 X_12 Y_12 B_12
  have Z_13 := Lib.hid hT
  clear hT
  clear hb
  go_wp2_with fail
  refine (rZ.out w13 _ Z_13.out).mono ?_
  rintro e w14 ⟨rfl, hb⟩
  have A_14 := Lib.hid (A_13.out.after hN'.out hb)
  have D_14 := Lib.hid (D_13.out.after hN'.out hb)
  have X_14 := Lib.hid (X_13.out.after hN'.out hb)
  have Y_14 := Lib.hid (Y_13.out.after hN'.out hb)
  have Z_14 := Lib.hid (Z_13.out.after hN'.out hb)
  have B_14 := Lib.hid (Below.after B_13.out hb)
  clear A_13 D_13 X_13 Y_13 Z_13 B_13
  clear hb
  go_wp2_with fail
  refine (mX.out w14 _ X_14.out).mono ?_
  rintro e w15 ⟨rfl, hb⟩
  have A_15 := Lib.hid (A_14.out.after hN'.out hb)
  have D_15 := Lib.hid (D_14.out.after hN'.out hb)
  have X_15 := Lib.hid (X_14.out.after hN'.out hb)
  have Y_15 := Lib.hid (Y_14.out.after hN'.out hb)
  have Z_15 := Lib.hid (Z_14.out.after hN'.out hb)
  have B_15 := Lib.hid (Below.after B_14.out hb)
  clear A_14 D_14 X_14 Y_14 Z_14 B_14
  clear hb
  go_wp2
  go_ret
  exact ⟨rfl, B_15.out⟩
end Go.Proofs.Ytifhnaelkjfmdaa
