/- Layer 9: the statement NodeWith, walked. -/
import Derived.Test.YtnepimemmnlbcaaL9Steps
namespace Go.Proofs.Ytnepimemmnlbcaa
open Go.RowKit Go.Proofs.Treem
variable {Nd : NdP}
set_option maxRecDepth 100000

set_option maxHeartbeats 2000000 in
theorem nodeWith_long1 (hN : NodeSays Nd) (A B : Option Addr) (n c m d : Nat) (key val tag kk vv : BitVec 64) (w : World) (h : LongAt w A n c true) : Calls Try.prog 6 #[.slice A n c, .slice B m d, K key, K val, G64 tag, K kk, K vv] w fun e w' => e = .returned (.bool true) ∧ Below w.heap.size w w' := by
  have c1 := Lib.hid (h w (Below.refl _ _))
  have cA := Lib.hid (alive9_any hN)
  have b0 := Lib.hid (Below.refl w.heap.size w)
  clear h hN
  go_enter Try.func6, Try.ntmps6
  go_wp2_with (first
    | (go_at_call 7; (with_reducible refine c1.out.mono ?_); rintro e w' ⟨rfl, rfl⟩)
    | (go_at_call 8; refine (cA.out _).mono ?_; rintro e wz ⟨rfl, hb⟩; have bz := Lib.hid (Below.after b0.out hb); clear hb)
    | fail)
  go_ret
  exact ⟨rfl, bz.out⟩

set_option maxHeartbeats 2000000 in
theorem nodeWith_long2 (hN : NodeSays Nd) (A B : Option Addr) (n c m d : Nat) (key val tag kk vv : BitVec 64) (w : World) (h : LongAt w A n c false) (k : LongAt w B m d true) : Calls Try.prog 6 #[.slice A n c, .slice B m d, K key, K val, G64 tag, K kk, K vv] w fun e w' => e = .returned (.bool true) ∧ Below w.heap.size w w' := by
  have c1 := Lib.hid (h w (Below.refl _ _))
  have c2 := Lib.hid (k w (Below.refl _ _))
  have cA := Lib.hid (alive9_any hN)
  have b0 := Lib.hid (Below.refl w.heap.size w)
  clear h hN k
  go_enter Try.func6, Try.ntmps6
  go_wp2_with (first
    | (go_at_call 7; (with_reducible refine c1.out.mono ?_); rintro e w' ⟨rfl, rfl⟩)
    | (go_at_call 7; (with_reducible refine c2.out.mono ?_); rintro e w' ⟨rfl, rfl⟩)
    | (go_at_call 8; refine (cA.out _).mono ?_; rintro e wz ⟨rfl, hb⟩; have bz := Lib.hid (Below.after b0.out hb); clear hb)
    | fail)
  go_ret
  exact ⟨rfl, bz.out⟩

set_option maxHeartbeats 16000000 in
theorem nodeWith_yes (hN0 : NodeSays Nd) (A B : Option Addr) (n c m d : Nat) (la lb : List Bd) (tl tr : Tr) (key val tag kk vv : BitVec 64) (w : World) (h : LongAt w A n c false) (k : LongAt w B m d false) (ht : TreeIn w A n c la tl) (hq : TreeIn w B m d lb tr) : Calls Try.prog 6 #[.slice A n c, .slice B m d, K key, K val, G64 tag, K kk, K vv] w fun e w' => e = .returned (.bool true) ∧ Below w.heap.size w w' := by
  have c1 := Lib.hid (h w (Below.refl _ _))
  have c2 := Lib.hid (k w (Below.refl _ _))
  have cA := Lib.hid (alive9_any hN0)
  have cM1 := Lib.hid (ht.make hN0)
  have cM2 := Lib.hid (hq.make hN0)
  have cO1 := Lib.hid ht.of
  have cO2 := Lib.hid hq.of
  have hi4 := ht.few
  have hj4 := hq.few
  have sl := Lib.hid ht.size
  have sr := Lib.hid hq.size
  have sT : Hid (∀ k v g, (Tr.n tl k v g tr).size = 1 + n + m) := fun k v g => by rw [Tr.size, ht.size, hq.size]
  have hN := Lib.hid hN0
  have b0 := Lib.hid (Below.refl w.heap.size w)
  have pe := ptr_eql
  have pn := ptr_neq
  clear h k ht hq hN0
  go_enter Try.func6, Try.ntmps6
  go_wp2_with (first | (go_at_call 7; (with_reducible refine c1.out.mono ?_); rintro e w' ⟨rfl, rfl⟩) | (go_at_call 7; (with_reducible refine c2.out.mono ?_); rintro e w' ⟨rfl, rfl⟩) | fail)
  refine (cM1.out _ b0.out).mono ?_
  rintro e w1 ⟨p1, rfl, h1, hb⟩
  replace b0 := Lib.hid (Below.after b0.out hb)
  have t1 := Lib.hid h1
  clear hb h1
  go_wp2_with fail
  refine (cM2.out _ b0.out).mono ?_
  rintro e w2 ⟨p2, rfl, h1, hb⟩
  replace t1 := Lib.hid (t1.out.after hN.out hb)
  replace b0 := Lib.hid (Below.after b0.out hb)
  have t2 := Lib.hid h1
  clear hb h1
  go_wp2_with fail
  refine (new9 hN.out _ p1 p2 tl tr key val tag t1.out t2.out).mono ?_
  rintro e w3 ⟨a, rfl, h0, h1, h2, hb⟩
  replace t1 := Lib.hid (t1.out.after hN.out hb)
  replace t2 := Lib.hid (t2.out.after hN.out hb)
  replace b0 := Lib.hid (Below.after b0.out hb)
  have l3 := Lib.hid h0
  have n3 := Lib.hid h1
  have t3 := Lib.hid h2
  clear hb h0 h1 h2
  have la3 := Lib.hid (hN.out.lt n3.out)
  go_wp2_with fail
  refine (with9 hN.out _ a p1 p2 tl tr key val tag kk vv _ _ n3.out t1.out t2.out).mono ?_
  rintro e w4 ⟨b, rfl, h0, h1, h2, hb⟩
  replace t1 := Lib.hid (t1.out.after hN.out hb)
  replace t2 := Lib.hid (t2.out.after hN.out hb)
  replace n3 := Lib.hid (nd_after hN.out n3.out hb)
  replace t3 := Lib.hid (t3.out.after hN.out hb)
  replace b0 := Lib.hid (Below.after b0.out hb)
  have l4 := Lib.hid h0
  have n4 := Lib.hid h1
  have t4 := Lib.hid h2
  clear hb h0 h1 h2
  have hne : Hid (b ≠ a) := fun e => by have h1 := la3.out; have h2 := l4.out; rw [e] at h2; omega
  go_wp2_with fail
  refine (with9 hN.out _ b p1 p2 tl tr kk vv tag key val _ _ n4.out t1.out t2.out).mono ?_
  rintro e w5 ⟨cc, rfl, h0, h1, h2, hb⟩
  replace t1 := Lib.hid (t1.out.after hN.out hb)
  replace t2 := Lib.hid (t2.out.after hN.out hb)
  replace n3 := Lib.hid (nd_after hN.out n3.out hb)
  replace t3 := Lib.hid (t3.out.after hN.out hb)
  replace n4 := Lib.hid (nd_after hN.out n4.out hb)
  replace t4 := Lib.hid (t4.out.after hN.out hb)
  replace b0 := Lib.hid (Below.after b0.out hb)
  have l5 := Lib.hid h0
  have n5 := Lib.hid h1
  have t5 := Lib.hid h2
  clear hb h0 h1 h2
  go_wp2_with fail
  refine (cO1.out _ b0.out).mono ?_
  rintro e w6 ⟨A6, cA6, rfl, h1, hb⟩
  replace t1 := Lib.hid (t1.out.after hN.out hb)
  replace t2 := Lib.hid (t2.out.after hN.out hb)
  replace n3 := Lib.hid (nd_after hN.out n3.out hb)
  replace t3 := Lib.hid (t3.out.after hN.out hb)
  replace n4 := Lib.hid (nd_after hN.out n4.out hb)
  replace t4 := Lib.hid (t4.out.after hN.out hb)
  replace n5 := Lib.hid (nd_after hN.out n5.out hb)
  replace t5 := Lib.hid (t5.out.after hN.out hb)
  replace b0 := Lib.hid (Below.after b0.out hb)
  have q6 := Lib.hid h1
  clear hb h1
  go_wp2_with fail
  refine (cO2.out _ b0.out).mono ?_
  rintro e w7 ⟨A7, cA7, rfl, h1, hb⟩
  replace t1 := Lib.hid (t1.out.after hN.out hb)
  replace t2 := Lib.hid (t2.out.after hN.out hb)
  replace n3 := Lib.hid (nd_after hN.out n3.out hb)
  replace t3 := Lib.hid (t3.out.after hN.out hb)
  replace n4 := Lib.hid (nd_after hN.out n4.out hb)
  replace t4 := Lib.hid (t4.out.after hN.out hb)
  replace n5 := Lib.hid (nd_after hN.out n5.out hb)
  replace t5 := Lib.hid (t5.out.after hN.out hb)
  replace q6 := Lib.hid (q6.out.after hb)
  replace b0 := Lib.hid (Below.after b0.out hb)
  have q7 := Lib.hid h1
  clear hb h1
  go_wp2_with fail
  refine (Node9 tl tr _ key val tag rfl (1 + n + m) (sT.out _ _ _) (by omega) _ A6 A7 n m cA6 cA7 q6.out q7.out).mono ?_
  rintro e w8 ⟨A8, cA8, rfl, h1, hb⟩
  replace t1 := Lib.hid (t1.out.after hN.out hb)
  replace t2 := Lib.hid (t2.out.after hN.out hb)
  replace n3 := Lib.hid (nd_after hN.out n3.out hb)
  replace t3 := Lib.hid (t3.out.after hN.out hb)
  replace n4 := Lib.hid (nd_after hN.out n4.out hb)
  replace t4 := Lib.hid (t4.out.after hN.out hb)
  replace n5 := Lib.hid (nd_after hN.out n5.out hb)
  replace t5 := Lib.hid (t5.out.after hN.out hb)
  replace q6 := Lib.hid (q6.out.after hb)
  replace q7 := Lib.hid (q7.out.after hb)
  replace b0 := Lib.hid (Below.after b0.out hb)
  have q8 := Lib.hid h1
  clear hb h1
  have pq := other_eql hN.out n4.out n3.out hne.out
  have gl := Lib.hid (hN.out.left _ _ _ _ n4.out)
  have gr := Lib.hid (hN.out.right _ _ _ _ n5.out)
  have s8 := Lib.hid (sT.out key val tag)
  have s9 := Lib.hid (sT.out kk vv tag)
  go_wp2_with (first
    | (go_at_call 14; (with_reducible refine gl.out.mono ?_); rintro e w' ⟨rfl, rfl⟩)
    | (go_at_call 15; (with_reducible refine gr.out.mono ?_); rintro e w' ⟨rfl, rfl⟩)
    | fail)
  refine (Is9 hN.out (Tr.n tl key val tag tr) (some a) (by rw [s8.out]; omega) A8 (1 + n + m) cA8 s8.out _ t3.out q8.out).mono ?_
  rintro e w9 ⟨rfl, hb⟩
  replace t1 := Lib.hid (t1.out.after hN.out hb)
  replace t2 := Lib.hid (t2.out.after hN.out hb)
  replace n3 := Lib.hid (nd_after hN.out n3.out hb)
  replace t3 := Lib.hid (t3.out.after hN.out hb)
  replace n4 := Lib.hid (nd_after hN.out n4.out hb)
  replace t4 := Lib.hid (t4.out.after hN.out hb)
  replace n5 := Lib.hid (nd_after hN.out n5.out hb)
  replace t5 := Lib.hid (t5.out.after hN.out hb)
  replace q6 := Lib.hid (q6.out.after hb)
  replace q7 := Lib.hid (q7.out.after hb)
  replace q8 := Lib.hid (q8.out.after hb)
  replace b0 := Lib.hid (Below.after b0.out hb)
  clear hb 
  clear gl gr pq
  go_wp2_with fail
  refine (Is9 hN.out (Tr.n tl key val tag tr) (some cc) (by rw [s8.out]; omega) A8 (1 + n + m) cA8 s8.out _ t5.out q8.out).mono ?_
  rintro e w10 ⟨rfl, hb⟩
  replace t1 := Lib.hid (t1.out.after hN.out hb)
  replace t2 := Lib.hid (t2.out.after hN.out hb)
  replace n3 := Lib.hid (nd_after hN.out n3.out hb)
  replace t3 := Lib.hid (t3.out.after hN.out hb)
  replace n4 := Lib.hid (nd_after hN.out n4.out hb)
  replace t4 := Lib.hid (t4.out.after hN.out hb)
  replace n5 := Lib.hid (nd_after hN.out n5.out hb)
  replace t5 := Lib.hid (t5.out.after hN.out hb)
  replace q6 := Lib.hid (q6.out.after hb)
  replace q7 := Lib.hid (q7.out.after hb)
  replace q8 := Lib.hid (q8.out.after hb)
  replace b0 := Lib.hid (Below.after b0.out hb)
  clear hb 
  go_wp2_with fail
  refine (cO1.out _ b0.out).mono ?_
  rintro e w11 ⟨A9, cA9, rfl, h1, hb⟩
  replace t1 := Lib.hid (t1.out.after hN.out hb)
  replace t2 := Lib.hid (t2.out.after hN.out hb)
  replace n3 := Lib.hid (nd_after hN.out n3.out hb)
  replace t3 := Lib.hid (t3.out.after hN.out hb)
  replace n4 := Lib.hid (nd_after hN.out n4.out hb)
  replace t4 := Lib.hid (t4.out.after hN.out hb)
  replace n5 := Lib.hid (nd_after hN.out n5.out hb)
  replace t5 := Lib.hid (t5.out.after hN.out hb)
  replace q6 := Lib.hid (q6.out.after hb)
  replace q7 := Lib.hid (q7.out.after hb)
  replace q8 := Lib.hid (q8.out.after hb)
  replace b0 := Lib.hid (Below.after b0.out hb)
  have q9 := Lib.hid h1
  clear hb h1
  go_wp2_with fail
  refine (cO2.out _ b0.out).mono ?_
  rintro e w12 ⟨A10, cA10, rfl, h1, hb⟩
  replace t1 := Lib.hid (t1.out.after hN.out hb)
  replace t2 := Lib.hid (t2.out.after hN.out hb)
  replace n3 := Lib.hid (nd_after hN.out n3.out hb)
  replace t3 := Lib.hid (t3.out.after hN.out hb)
  replace n4 := Lib.hid (nd_after hN.out n4.out hb)
  replace t4 := Lib.hid (t4.out.after hN.out hb)
  replace n5 := Lib.hid (nd_after hN.out n5.out hb)
  replace t5 := Lib.hid (t5.out.after hN.out hb)
  replace q6 := Lib.hid (q6.out.after hb)
  replace q7 := Lib.hid (q7.out.after hb)
  replace q8 := Lib.hid (q8.out.after hb)
  replace q9 := Lib.hid (q9.out.after hb)
  replace b0 := Lib.hid (Below.after b0.out hb)
  have q10 := Lib.hid h1
  clear hb h1
  go_wp2_with fail
  refine (Node9 tl tr _ kk vv tag rfl (1 + n + m) (sT.out _ _ _) (by omega) _ A9 A10 n m cA9 cA10 q9.out q10.out).mono ?_
  rintro e w13 ⟨A11, cA11, rfl, h1, hb⟩
  replace t1 := Lib.hid (t1.out.after hN.out hb)
  replace t2 := Lib.hid (t2.out.after hN.out hb)
  replace n3 := Lib.hid (nd_after hN.out n3.out hb)
  replace t3 := Lib.hid (t3.out.after hN.out hb)
  replace n4 := Lib.hid (nd_after hN.out n4.out hb)
  replace t4 := Lib.hid (t4.out.after hN.out hb)
  replace n5 := Lib.hid (nd_after hN.out n5.out hb)
  replace t5 := Lib.hid (t5.out.after hN.out hb)
  replace q6 := Lib.hid (q6.out.after hb)
  replace q7 := Lib.hid (q7.out.after hb)
  replace q8 := Lib.hid (q8.out.after hb)
  replace q9 := Lib.hid (q9.out.after hb)
  replace q10 := Lib.hid (q10.out.after hb)
  replace b0 := Lib.hid (Below.after b0.out hb)
  have q11 := Lib.hid h1
  clear hb h1
  go_wp2_with fail
  refine (Is9 hN.out (Tr.n tl kk vv tag tr) (some b) (by rw [s9.out]; omega) A11 (1 + n + m) cA11 s9.out _ t4.out q11.out).mono ?_
  rintro e w14 ⟨rfl, hb⟩
  replace t1 := Lib.hid (t1.out.after hN.out hb)
  replace t2 := Lib.hid (t2.out.after hN.out hb)
  replace n3 := Lib.hid (nd_after hN.out n3.out hb)
  replace t3 := Lib.hid (t3.out.after hN.out hb)
  replace n4 := Lib.hid (nd_after hN.out n4.out hb)
  replace t4 := Lib.hid (t4.out.after hN.out hb)
  replace n5 := Lib.hid (nd_after hN.out n5.out hb)
  replace t5 := Lib.hid (t5.out.after hN.out hb)
  replace q6 := Lib.hid (q6.out.after hb)
  replace q7 := Lib.hid (q7.out.after hb)
  replace q8 := Lib.hid (q8.out.after hb)
  replace q9 := Lib.hid (q9.out.after hb)
  replace q10 := Lib.hid (q10.out.after hb)
  replace q11 := Lib.hid (q11.out.after hb)
  replace b0 := Lib.hid (Below.after b0.out hb)
  clear hb 
  go_wp2_with (go_at_call 8; refine (cA.out _).mono ?_; rintro e wz ⟨rfl, hb⟩; have bz := Lib.hid (Below.after b0.out hb); clear hb)
  go_ret
  exact ⟨rfl, bz.out⟩
end Go.Proofs.Ytnepimemmnlbcaa
