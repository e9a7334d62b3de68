/- Layer 16: the statement alive (the chapter's examples), walked. Made by wip/gen/layer16laws.py. -/
import Derived.Test.YtifhnaelkjfmdabL16Says
import Derived.Test.YtifhnaelkjfmdabL16RefB
namespace Go.Proofs.Ytifhnaelkjfmdab
open Go.RowKit Go.Proofs.Treem
set_option maxRecDepth 100000
variable {Nd : NdP}

set_option maxHeartbeats 4000000 in
theorem alive16_any (hN : NodeSays Nd) (hS : RbSays Nd) (w : World) : Calls Try.prog 10 #[] w fun e w' => e = .returned (.bool true) ∧ Below w.heap.size w w' := by
  have c1 : Hid (Calls Try.prog 12 #[.pointer none, .int .i64 1, .int .i64 0, .bool false, .pointer none] w (Stood Nd w none none .e .e 1#64 0#64 (tagR .e false))) := RbSays.makeT hN hS w .e .e none none 1#64 0#64 false rfl rfl
  have c2 : Hid (∀ W, Calls Try.prog 12 #[.pointer none, .int .i64 1, .int .i64 0, .bool true, .pointer none] W (Stood Nd W none none .e .e 1#64 0#64 (tagR .e true))) := fun W => RbSays.makeT hN hS W .e .e none none 1#64 0#64 true rfl rfl
  have tA : Hid (∀ W p, TreeAt Nd W W.heap.size exA p → Calls Try.prog 38 #[.pointer p] W fun e w' => e = .returned (.int .u64 2) ∧ Below W.heap.size W w') := fun W p hp => TreeAt.tag hN hp
  have tB : Hid (∀ W p, TreeAt Nd W W.heap.size exB p → Calls Try.prog 38 #[.pointer p] W fun e w' => e = .returned (.int .u64 1) ∧ Below W.heap.size W w') := fun W p hp => TreeAt.tag hN hp
  have hA : Hid (∀ W p, TreeAt Nd W W.heap.size exA p → Calls Try.prog 20 #[.pointer p] W fun e w' => e = .returned (.int .i64 1) ∧ Below W.heap.size W w') := fun W p hp => hS.high W exA p hp
  have hB : Hid (∀ W p, TreeAt Nd W W.heap.size exB p → Calls Try.prog 20 #[.pointer p] W fun e w' => e = .returned (.int .i64 0) ∧ Below W.heap.size W w') := fun W p hp => hS.high W exB p hp
  have mA : Hid (∀ W p, TreeAt Nd W W.heap.size exA p → Calls Try.prog 22 #[.pointer p] W fun e w' => e = .returned (.bool true) ∧ Below W.heap.size W w') := fun W p hp => hS.may W exA p hp (by decide)
  have mB : Hid (∀ W p, TreeAt Nd W W.heap.size exB p → Calls Try.prog 22 #[.pointer p] W fun e w' => e = .returned (.bool false) ∧ Below W.heap.size W w') := fun W p hp => hS.may W exB p hp (by decide)
  have pB : Hid (∀ W p, TreeAt Nd W W.heap.size exB p → Calls Try.prog 19 #[.pointer p] W fun e w' => e = .returned (.bool true) ∧ Below W.heap.size W w') := fun W p hp => hS.part W exB p hp (by decide)
  have bB : Hid (∀ W p, TreeAt Nd W W.heap.size exB p → Calls Try.prog 14 #[.pointer p] W fun e w' => ∃ q, e = .returned (.pointer q) ∧ TreeAt Nd w' w'.heap.size exA q ∧ Below W.heap.size W w') := fun W p hp => hS.blackT hN W exB p hp
  have bA : Hid (∀ W p, TreeAt Nd W W.heap.size exA p → Calls Try.prog 14 #[.pointer p] W fun e w' => e = .returned (.pointer p) ∧ Below W.heap.size W w') := fun W p hp => hS.blackN W exA p hp (by decide)
  have b0 : Hid (∀ W, Calls Try.prog 14 #[.pointer none] W fun e w' => e = .returned (.pointer none) ∧ Below W.heap.size W w') := fun W => hS.blackN W .e none rfl rfl
  have pe := ptr_eql
  have hN' := Lib.hid hN
  clear hN hS
  go_enter Try.func10, Try.ntmps10
  have B_0 := Lib.hid (Below.refl w.heap.size w)
  go_wp2_with fail
  refine (c1.out).mono ?_
  rintro e w1 ⟨a, rfl, -, -, hT, hb⟩
  have B_1 := Lib.hid (Below.after B_0.out hb)
  clear B_0
  have A_1 := Lib.hid hT
  clear hT
  clear hb
  go_wp2_with fail
  refine (c2.out w1).mono ?_
  rintro e w2 ⟨b, rfl, -, -, hT, hb⟩
  have A_2 := Lib.hid (A_1.out.after hN'.out hb)
  have B_2 := Lib.hid (Below.after B_1.out hb)
  clear A_1 B_1
  have E_2 := Lib.hid hT
  clear hT
  clear hb
  go_wp2_with fail
  refine (tA.out w2 _ A_2.out).mono ?_
  rintro e w3 ⟨rfl, hb⟩
  have A_3 := Lib.hid (A_2.out.after hN'.out hb)
  have E_3 := Lib.hid (E_2.out.after hN'.out hb)
  have B_3 := Lib.hid (Below.after B_2.out hb)
  clear A_2 E_2 B_2
  clear hb
  go_wp2_with fail
  refine (hA.out w3 _ A_3.out).mono ?_
  rintro e w4 ⟨rfl, hb⟩
  have A_4 := Lib.hid (A_3.out.after hN'.out hb)
  have E_4 := Lib.hid (E_3.out.after hN'.out hb)
  have B_4 := Lib.hid (Below.after B_3.out hb)
  clear A_3 E_3 B_3
  clear hb
  go_wp2_with fail
  refine (mA.out w4 _ A_4.out).mono ?_
  rintro e w5 ⟨rfl, hb⟩
  have A_5 := Lib.hid (A_4.out.after hN'.out hb)
  have E_5 := Lib.hid (E_4.out.after hN'.out hb)
  have B_5 := Lib.hid (Below.after B_4.out hb)
  clear A_4 E_4 B_4
  clear hb
  go_wp2_with fail
  refine (tB.out w5 _ E_5.out).mono ?_
  rintro e w6 ⟨rfl, hb⟩
  have A_6 := Lib.hid (A_5.out.after hN'.out hb)
  have E_6 := Lib.hid (E_5.out.after hN'.out hb)
  have B_6 := Lib.hid (Below.after B_5.out hb)
  clear A_5 E_5 B_5
  clear hb
  go_wp2_with fail
  refine (hB.out w6 _ E_6.out).mono ?_
  rintro e w7 ⟨rfl, hb⟩
  have A_7 := Lib.hid (A_6.out.after hN'.out hb)
  have E_7 := Lib.hid (E_6.out.after hN'.out hb)
  have B_7 := Lib.hid (Below.after B_6.out hb)
  clear A_6 E_6 B_6
  clear hb
  go_wp2_with fail
  refine (pB.out w7 _ E_7.out).mono ?_
  rintro e w8 ⟨rfl, hb⟩
  have A_8 := Lib.hid (A_7.out.after hN'.out hb)
  have E_8 := Lib.hid (E_7.out.after hN'.out hb)
  have B_8 := Lib.hid (Below.after B_7.out hb)
  clear A_7 E_7 B_7
  clear hb
  go_wp2_with fail
  refine (mB.out w8 _ E_8.out).mono ?_
  rintro e w9 ⟨rfl, hb⟩
  have A_9 := Lib.hid (A_8.out.after hN'.out hb)
  have E_9 := Lib.hid (E_8.out.after hN'.out hb)
  have B_9 := Lib.hid (Below.after B_8.out hb)
  clear A_8 E_8 B_8
  clear hb
  go_wp2_with fail
  refine (bB.out w9 _ E_9.out).mono ?_
  rintro e w10 ⟨q, rfl, hQ, hb⟩
  have A_10 := Lib.hid (A_9.out.after hN'.out hb)
  have E_10 := Lib.hid (E_9.out.after hN'.out hb)
  have B_10 := Lib.hid (Below.after B_9.out hb)
  clear A_9 E_9 B_9
  have Q_10 := Lib.hid hQ
  clear hQ
  clear hb
  go_wp2_with fail
  refine (tA.out w10 _ Q_10.out).mono ?_
  rintro e w11 ⟨rfl, hb⟩
  have A_11 := Lib.hid (A_10.out.after hN'.out hb)
  have E_11 := Lib.hid (E_10.out.after hN'.out hb)
  have Q_11 := Lib.hid (Q_10.out.after hN'.out hb)
  have B_11 := Lib.hid (Below.after B_10.out hb)
  clear A_10 E_10 Q_10 B_10
  clear hb
  go_wp2_with fail
  refine (bA.out w11 _ A_11.out).mono ?_
  rintro e w12 ⟨rfl, hb⟩
  have A_12 := Lib.hid (A_11.out.after hN'.out hb)
  have E_12 := Lib.hid (E_11.out.after hN'.out hb)
  have Q_12 := Lib.hid (Q_11.out.after hN'.out hb)
  have B_12 := Lib.hid (Below.after B_11.out hb)
  clear A_11 E_11 Q_11 B_11
  clear hb
  go_wp2_with fail
  refine (b0.out w12).mono ?_
  rintro e w13 ⟨rfl, hb⟩
  have A_13 := Lib.hid (A_12.out.after hN'.out hb)
  have E_13 := Lib.hid (E_12.out.after hN'.out hb)
  have Q_13 := Lib.hid (Q_12.out.after hN'.out hb)
  have B_13 := Lib.hid (Below.after B_12.out hb)
  clear A_12 E_12 Q_12 B_12
  clear hb
  go_wp2
  go_ret
  exact ⟨rfl, B_13.out⟩
end Go.Proofs.Ytifhnaelkjfmdab
