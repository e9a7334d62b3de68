/- What package avl has to answer (layer 14); the chapter's example (alive). -/
import Derived.Test.YtifhnaelkjfmdaaL14RefB
import Derived.Test.YtifhnaelkjfmdaaS14Math
import Derived.Test.YtifhnaelkjfmdaaL9Part
namespace Go.Proofs.Ytifhnaelkjfmdaa
open Go.RowKit Go.Proofs.Treem
set_option maxRecDepth 100000
variable {Nd : NdP}

/-- what the functions of package avl have to answer -/
structure AvlSays (Nd : NdP) : Prop where
  make : ∀ (w : World) (L R : AT) (k v : BitVec 64), Stand Nd w L → Stand Nd w R → Calls Try.prog 43 #[.pointer L.ptr, K k, K v, .pointer R.ptr] w (Made13 Nd L R k v (tagA L.tr R.tr) w)
  check : ∀ (w : World) (t : Tr) (p : Option Addr), TreeAt Nd w w.heap.size t p → t.size ≤ 5000 → Calls Try.prog 35 #[.pointer p] w fun e w' => e = .returned (.tuple #[nI (placeA t), nI (errA t)]) ∧ Below w.heap.size w w'
  may : ∀ (w : World) (t : Tr) (p : Option Addr), TreeAt Nd w w.heap.size t p → t.size ≤ 5000 → Calls Try.prog 39 #[.pointer p] w fun e w' => e = .returned (.bool (mayA t)) ∧ Below w.heap.size w w'
  rank : ∀ (w : World) (t : Tr) (p : Option Addr), TreeAt Nd w w.heap.size t p → Calls Try.prog 41 #[.pointer p] w fun e w' => e = .returned (K t.tag) ∧ Below w.heap.size w w'
  lean : ∀ (w : World) (t : Tr) (p : Option Addr), TreeAt Nd w w.heap.size t p → Calls Try.prog 42 #[.pointer p] w fun e w' => e = .returned (K (leanA t)) ∧ Below w.heap.size w w'
/-- what Make makes of any two trees -/
theorem AvlSays.makeT (hN : NodeSays Nd) (hS : AvlSays Nd) (w : World) (t u : Tr) (p q : Option Addr) (k v : BitVec 64) (h1 : TreeAt Nd w w.heap.size t p) (h2 : TreeAt Nd w w.heap.size u q) :
    Calls Try.prog 43 #[.pointer p, K k, K v, .pointer q] w (Stood Nd w p q t u k v (tagA t u)) := by
  obtain ⟨L, rfl, hL, rfl⟩ := AT.of_tree t p h1
  obtain ⟨R, rfl, hR, rfl⟩ := AT.of_tree u q h2
  exact (hS.make w L R k v ⟨hL, h1⟩ ⟨hR, h2⟩).mono fun e w' h => stood_of_made hN h
/-- the example's three trees -/
def ex1 : Tr := makeA .e 2#64 0#64 .e
def ex2 : Tr := makeA .e 1#64 0#64 ex1
def ex3 : Tr := makeA .e 0#64 0#64 ex2
set_option maxHeartbeats 4000000 in
theorem alive14_any (hN : NodeSays Nd) (hS : AvlSays Nd) (w : World) : Calls Try.prog 34 #[] w fun e w' => e = .returned (.bool true) ∧ Below w.heap.size w w' := by
  have c1 : Hid (Calls Try.prog 43 #[.pointer none, .int .i64 2, .int .i64 0, .pointer none] w (Stood Nd w none none .e .e 2#64 0#64 (tagA .e .e))) := AvlSays.makeT hN hS w .e .e none none 2#64 0#64 rfl rfl
  have c2 : Hid (∀ W p, TreeAt Nd W W.heap.size ex1 p → Calls Try.prog 43 #[.pointer none, .int .i64 1, .int .i64 0, .pointer p] W (Stood Nd W none p .e ex1 1#64 0#64 (tagA .e ex1))) := fun W p h => AvlSays.makeT hN hS W .e ex1 none p 1#64 0#64 rfl h
  have c3 : Hid (∀ W p, TreeAt Nd W W.heap.size ex2 p → Calls Try.prog 43 #[.pointer none, .int .i64 0, .int .i64 0, .pointer p] W (Stood Nd W none p .e ex2 0#64 0#64 (tagA .e ex2))) := fun W p h => AvlSays.makeT hN hS W .e ex2 none p 0#64 0#64 rfl h
  have c4 : Hid (∀ W p, TreeAt Nd W W.heap.size ex3 p → Calls Try.prog 35 #[.pointer p] W fun e w' => e = .returned (.tuple #[.int .i64 0, .int .i64 8]) ∧ Below W.heap.size W w') := fun W p h => hS.check W ex3 p h (by decide)
  have c5 : Hid (∀ W p, TreeAt Nd W W.heap.size ex2 p → Calls Try.prog 76 #[.pointer p] W fun e w' => e = .returned (.int .u64 2) ∧ Below W.heap.size W w') := fun W p h => TreeAt.tag hN h
  have c6 : Hid (∀ W p, TreeAt Nd W W.heap.size ex2 p → Calls Try.prog 42 #[.pointer p] W fun e w' => e = .returned (.int .i64 1) ∧ Below W.heap.size W w') := fun W p h => hS.lean W ex2 p h
  have c7 : Hid (∀ W p, TreeAt Nd W W.heap.size ex2 p → Calls Try.prog 41 #[.pointer p] W fun e w' => e = .returned (.int .i64 2) ∧ Below W.heap.size W w') := fun W p h => hS.rank W ex2 p h
  have c8 : Hid (∀ W p, TreeAt Nd W W.heap.size ex2 p → Calls Try.prog 39 #[.pointer p] W fun e w' => e = .returned (.bool true) ∧ Below W.heap.size W w') := fun W p h => hS.may W ex2 p h (by decide)
  have c9 : Hid (∀ W, Calls Try.prog 41 #[.pointer none] W fun e w' => e = .returned (.int .i64 0) ∧ Below W.heap.size W w') := fun W => hS.rank W .e none rfl
  have c10 : Hid (∀ W, Calls Try.prog 42 #[.pointer none] W fun e w' => e = .returned (.int .i64 0) ∧ Below W.heap.size W w') := fun W => hS.lean W .e none rfl
  have hN' := Lib.hid hN
  clear hN hS
  go_enter Try.func34, Try.ntmps34
  go_wp2_with fail
  refine c1.out.mono ?_
  rintro e w1 ⟨a, rfl, -, -, hT, hb⟩
  have T1 : Hid (TreeAt Nd w1 w1.heap.size ex1 (some a)) := hT
  have b1 := Lib.hid hb
  clear hT hb c1
  go_wp2_with fail
  refine (c2.out w1 _ T1.out).mono ?_
  rintro e w2 ⟨b, rfl, -, -, hT, hb⟩
  have T2 : Hid (TreeAt Nd w2 w2.heap.size ex2 (some b)) := hT
  have b2 := Lib.hid (Below.after b1.out hb)
  clear hT hb c2 b1 T1
  go_wp2_with fail
  refine (c3.out w2 _ T2.out).mono ?_
  rintro e w3 ⟨c, rfl, -, -, hT, hb⟩
  have T3 : Hid (TreeAt Nd w3 w3.heap.size ex3 (some c)) := hT
  have t3 := Lib.hid (T2.out.after hN'.out hb)
  have b3 := Lib.hid (Below.after b2.out hb)
  clear hT hb c3 b2 T2
  go_wp2_with fail
  refine (c4.out w3 _ T3.out).mono ?_
  rintro e w4 ⟨rfl, hb⟩
  have t4 := Lib.hid (t3.out.after hN'.out hb)
  have b4 := Lib.hid (Below.after b3.out hb)
  clear hb c4 b3 t3 T3
  go_wp2_with fail
  refine (c5.out w4 _ t4.out).mono ?_
  rintro e w5 ⟨rfl, hb⟩
  have t5 := Lib.hid (t4.out.after hN'.out hb)
  have b5 := Lib.hid (Below.after b4.out hb)
  clear hb c5 b4 t4
  go_wp2_with fail
  refine (c6.out w5 _ t5.out).mono ?_
  rintro e w6 ⟨rfl, hb⟩
  have t6 := Lib.hid (t5.out.after hN'.out hb)
  have b6 := Lib.hid (Below.after b5.out hb)
  clear hb c6 b5 t5
  go_wp2_with fail
  refine (c7.out w6 _ t6.out).mono ?_
  rintro e w7 ⟨rfl, hb⟩
  have t7 := Lib.hid (t6.out.after hN'.out hb)
  have b7 := Lib.hid (Below.after b6.out hb)
  clear hb c7 b6 t6
  go_wp2_with fail
  refine (c8.out w7 _ t7.out).mono ?_
  rintro e w8 ⟨rfl, hb⟩
  have b8 := Lib.hid (Below.after b7.out hb)
  clear hb c8 b7 t7
  go_wp2_with fail
  refine (c9.out w8).mono ?_
  rintro e w9 ⟨rfl, hb⟩
  have b9 := Lib.hid (Below.after b8.out hb)
  clear hb c9 b8
  go_wp2_with fail
  refine (c10.out w9).mono ?_
  rintro e w10 ⟨rfl, hb⟩
  have b10 := Lib.hid (Below.after b9.out hb)
  clear hb c10 b9
  go_wp2
  go_ret
  exact ⟨rfl, b10.out⟩
end Go.Proofs.Ytifhnaelkjfmdaa
