/- Proved here: for every order and every row of beads the law SoundRises of layer 12 returns true (a tree is sound just if its keys rise, one by one; a sound tree's sides stand ahead of each other); it changes nothing that lay. Condition: package mix's table of steps holds what its initialiser lays (tied to the program's text by the card). -/
import Derived.Test.YtfndaeocdgcaeaaDoorJF
import Derived.Test.YtfndaeocdgcaeaaDoorL10Same
import Derived.Test.YtfndaeocdgcaeaaDoorGHeld
import Derived.Deep.RegionHeld3
import Derived.Test.YtfndaeocdgcaeaaDoorJO
import Derived.Test.YtfndaeocdgcaeaaDoorJP
import Derived.Test.YtfndaeocdgcaeaaDoorRows
import Derived.Below
import Derived.ChangeOld
import Derived.Test.YtfndaeocdgcaeaaDoorTie
import Derived.Test.YtfndaeocdgcaeaaDoorCards
/- Layer 12: the law's own keys of a tree, from left to right. -/
namespace Go.Proofs.YtfndaeocdgcaeaaDoor
open Go.RowKit Go.Proofs.Treem
set_option maxRecDepth 100000
variable {Nd : NdP} {T : World → Prop}

theorem info_int12 : (Tryd.prog.info? 2).map (fun i => (i.zero, i.size, i.bytes)) = some (some (.int .i64 0), 1, 8) := by kernel_rfl
theorem K_one (l : List (BitVec 64)) : ∀ u ∈ l.map K, u.oneCell' = true := fun u hu => by
  obtain ⟨b, _, rfl⟩ := List.mem_map.1 hu
  rfl
set_option maxHeartbeats 4000000 in
theorem keys_any (hN : NodeSays Nd) (base : Nat) : ∀ (t : Tr) (p : Option Addr) (n : Nat) (v : Value) (ks : List (BitVec 64)) (w : World), base ≤ w.heap.size → TreeAt Nd w base t p → w.ownsRow base 2 1 v n (ks.map K) → n + t.size ≤ 1000 →
    Calls Tryd.prog 14 #[.pointer p, v] w fun e w' => ∃ v', e = .returned (.tuple #[v', .bool true]) ∧ w'.ownsRow base 2 1 v' (n + t.size) ((ks ++ t.keys).map K) ∧ Below base w w' := by
  intro t
  induction t with
  | e =>
    intro p n v ks w hB hT ho h5
    obtain rfl : p = none := hT
    have ho' := Lib.hid ho
    clear ho h5
    go_enter Tryd.func14, Tryd.ntmps14
    go_wp2
    refine bodyPost_ret (v := .tuple #[v, .bool true]) (by simp [results, Tryd.results14, go_sem]) rfl ⟨v, rfl, ?_, Below.refl _ _⟩
    simpa [Tr.keys, Tr.pairs, Tr.size] using ho'.out
  | n tl k x g tr ihl ihr =>
    intro p n v ks w hB hT ho h5
    obtain ⟨i0, hin, hz0, hz1, hz2⟩ := info_parts info_int12
    obtain ⟨a, pl, pr, rfl, hnd, hl, hr⟩ := hT
    obtain ⟨i, hi⟩ : ∃ i, tl.size = i := ⟨_, rfl⟩
    obtain ⟨j, hj⟩ : ∃ j, tr.size = j := ⟨_, rfl⟩
    have h55 : n + (1 + i + j) ≤ 1000 := by rw [← hi, ← hj]; exact h5
    rw [keys_n, Tr.size, hi, hj]
    obtain ⟨S, hS⟩ : ∃ S, (BitVec.ofNat 64 (1 + tl.size + tr.size)) = S := ⟨_, rfl⟩
    obtain ⟨M, hM⟩ : ∃ M, tl.sum + x + tr.sum = M := ⟨_, rfl⟩
    rw [hS, hM] at hnd
    have cL := Lib.hid (hN.left w base a _ hnd)
    have cW := Lib.hid (ihl pl n v ks w hB hl ho (by omega))
    have cR : Hid (∀ W, Below base w W → Calls Tryd.prog 17 #[.pointer (some a)] W fun e w' => e = .returned (.pointer pr) ∧ W = w') := fun W hb => hN.right W base a _ (hN.next hnd hb)
    have cK : Hid (∀ W, Below base w W → Calls Tryd.prog 19 #[.pointer (some a)] W fun e w' => e = .returned (K k) ∧ W = w') := fun W hb => hN.key W base a _ (hN.next hnd hb)
    have cV : Hid (∀ m v ks W, Below base w W → base ≤ W.heap.size → W.ownsRow base 2 1 v m (ks.map K) → m + j ≤ 1000 → Calls Tryd.prog 14 #[.pointer pr, v] W fun e w' => ∃ v', e = .returned (.tuple #[v', .bool true]) ∧ w'.ownsRow base 2 1 v' (m + j) ((ks ++ tr.keys).map K) ∧ Below base W w') := fun m v ks W hb hs h hm => by
      have := ihr pr m v ks W hs (hr.next hN hb) h (by omega)
      rw [hj] at this
      exact this
    rw [hi] at cW
    have hB' := Lib.hid hB
    clear hnd hl hr ho ihl ihr hi hj h5 hN hS hM hB
    go_enter Tryd.func14, Tryd.ntmps14
    go_wp2_with fail
    refine cL.out.mono ?_
    rintro e w' ⟨rfl, rfl⟩
    go_wp2_with fail
    refine cW.out.mono ?_
    rintro e w1 ⟨v1, rfl, ho1, hb1⟩
    obtain ⟨A1, c1, rfl, k1, k2, k3⟩ := own_slice ho1
    have o1 := Lib.hid ho1
    have b1 := Lib.hid hb1
    clear ho1 hb1 cL cW
    obtain ⟨n1, hn1⟩ : ∃ m, n + i = m := ⟨_, rfl⟩
    rw [hn1] at o1 k1 ⊢
    have h6 : n1 + 1 + j ≤ 1000 := by omega
    have d1 : decide (2000 < n1) = false := decide_eq_false (by omega)
    have d2 : decide ((2000 : Int) < (n1 : Int)) = false := decide_eq_false (by omega)
    have hn1' : Hid (n + (1 + i + j) = n1 + 1 + j) := by show _ = _; omega
    clear hn1
    go_wp2_with fail
    refine (cR.out w1 b1.out).mono ?_
    rintro e w' ⟨rfl, rfl⟩
    go_wp2_with fail
    refine (cK.out w1 b1.out).mono ?_
    rintro e w' ⟨rfl, rfl⟩
    have s1 : Hid (base ≤ w1.heap.size) := Nat.le_trans hB'.out b1.out.size
    go_wp2_with (at_builtin; refine wpList_append_row rfl _ _ 34 rfl base 2 i0 (.int .i64 0) 1 8 Tryd.underlying34 hin hz0 hz1 hz2 rfl (by decide) (.slice A1 n1 c1) n1 ((ks ++ tl.keys).map K) rfl (o1.out.alloc _) (some ⟨w1.heap.size, 0, none⟩) 1 1 [K k] rfl (by simp) (Nat.le_refl _) rfl _ (Has.new w1 2 #[K k]).row (K_one [k]) (by unfold maxLen; omega) (by omega) (Nat.le_trans s1.out (by simp)) ?_)
    intro v2 w2 ho2 hg2
    have o2 : Hid (w2.ownsRow base 2 1 v2 (n1 + 1) ((ks ++ tl.keys ++ [k]).map K)) := by
      show World.ownsRow _ _ _ _ _ _ _
      simpa using ho2
    have b2 := Lib.hid ((b1.out.alloc s1.out _).grown hg2 (Nat.le_trans s1.out (by simp)) (fun r e => (o1.out.lt r e).1))
    clear ho2 hg2
    have c5 := Lib.hid (cV.out (n1 + 1) v2 (ks ++ tl.keys ++ [k]) w2 b2.out (Nat.le_trans hB'.out b2.out.size) o2.out (by omega))
    clear cV cR cK k1 k2 k3
    go_wp2_with fail
    refine c5.out.mono ?_
    rintro e w3 ⟨v3, rfl, ho3, hb3⟩
    have o3 := Lib.hid ho3
    have b3 := Lib.hid (b2.out.trans hb3)
    clear ho3 hb3 c5
    go_wp2_with fail
    refine bodyPost_ret (v := .tuple #[v3, .bool true]) (by simp [results, Tryd.results14, go_sem]) rfl ⟨v3, rfl, ?_, b3.out⟩
    have := o3.out
    rw [hn1'.out]
    simpa [List.append_assoc] using this
end Go.Proofs.YtfndaeocdgcaeaaDoor
/- Layer 12: the statement SoundTells, walked. Made by wip/gen/layer12laws.py. -/
namespace Go.Proofs.YtfndaeocdgcaeaaDoor
open Go.RowKit Go.Proofs.Treem
set_option maxRecDepth 100000
variable {Nd : NdP} {T : World → Prop}

set_option maxHeartbeats 2000000 in
theorem soundTells_long1 (hN : NodeSays Nd) (hS : SoundSays Nd T) (hO : OrdSays T) (o : Nat) (A A2 : Option Addr) (n c n2 c2 : Nat) (w : World) (h : LongAt w A n c true) (hT : T w) : Calls Tryd.prog 3 #[.int .u8 o, .slice A n c, .slice A2 n2 c2] w fun e w' => e = .returned (.bool true) ∧ Below w.heap.size w w' := by
  have c0 := Lib.hid (h w (Below.refl _ _))
  clear h
  have c9 := Lib.hid (alive12_any hN hS hO w hT)
  clear hN hS hO hT
  go_enter Tryd.func3, Tryd.ntmps3
  go_wp2_with fail
  refine c0.out.mono ?_
  rintro e w' ⟨rfl, rfl⟩
  go_wp2_with fail
  refine c9.out.mono ?_
  rintro e w1 ⟨rfl, hb⟩
  have b1 := Lib.hid hb
  clear hb
  go_wp2
  go_ret
  exact ⟨rfl, b1.out⟩
set_option maxHeartbeats 2000000 in
theorem soundTells_long2 (hN : NodeSays Nd) (hS : SoundSays Nd T) (hO : OrdSays T) (o : Nat) (A A2 : Option Addr) (n c n2 c2 : Nat) (w : World) (h : LongAt w A n c false) (h2 : LongAt w A2 n2 c2 true) (hT : T w) : Calls Tryd.prog 3 #[.int .u8 o, .slice A n c, .slice A2 n2 c2] w fun e w' => e = .returned (.bool true) ∧ Below w.heap.size w w' := by
  have c0 := Lib.hid (h w (Below.refl _ _))
  have c1 := Lib.hid (h2 w (Below.refl _ _))
  clear h h2
  have c9 := Lib.hid (alive12_any hN hS hO w hT)
  clear hN hS hO hT
  go_enter Tryd.func3, Tryd.ntmps3
  go_wp2_with fail
  refine c0.out.mono ?_
  rintro e w' ⟨rfl, rfl⟩
  go_wp2_with fail
  refine c1.out.mono ?_
  rintro e w' ⟨rfl, rfl⟩
  go_wp2_with fail
  refine c9.out.mono ?_
  rintro e w1 ⟨rfl, hb⟩
  have b1 := Lib.hid hb
  clear hb
  go_wp2
  go_ret
  exact ⟨rfl, b1.out⟩
set_option maxHeartbeats 4000000 in
theorem soundTells_yes (hN : NodeSays Nd) (hS : SoundSays Nd T) (hO : OrdSays T) (o : Nat) (A A2 : Option Addr) (n c n2 c2 : Nat) (l m : List Bd) (t u : Tr) (w : World) (h : LongAt w A n c false) (h2 : LongAt w A2 n2 c2 false) (ht : TreeIn w A n c l t) (hu : TreeIn w A2 n2 c2 m u) (hT : T w) : Calls Tryd.prog 3 #[.int .u8 o, .slice A n c, .slice A2 n2 c2] w fun e w' => e = .returned (.bool true) ∧ Below w.heap.size w w' := by
  have c0 := Lib.hid (h w (Below.refl _ _))
  have c1 := Lib.hid (h2 w (Below.refl _ _))
  have cM := Lib.hid (ht.make hN)
  have cM2 := Lib.hid (hu.make hN)
  have hts : t.size ≤ 400 := by rw [ht.size]; exact ht.few
  have hus : u.size ≤ 400 := by rw [hu.size]; exact hu.few
  have cA : Hid (∀ W, Below w.heap.size w W → Calls Tryd.prog 7 #[] W fun e w' => e = .returned (.bool true) ∧ Below W.heap.size W w') := fun W hb => alive12_any hN hS hO W (hO.next hT hb)
  have cC : Hid (∀ W p, Below w.heap.size w W → TreeAt Nd W W.heap.size t p → Calls Tryd.prog 9 #[.int .u8 o, .pointer p] W (Checked o t W)) := fun W p hb hp => hS.check W o t p (hO.next hT hb) hp (by omega)
  have cD : Hid (∀ W, Below w.heap.size w W → Calls Tryd.prog 10 #[.int .u8 o, .slice A n c] W (Checked o t W)) := fun W hb => refCheck_any o t A n c w.heap.size l ht.pre ht.size (by rw [← ht.size]; omega) W hb.size (ht.lie.next hb)
  have cE : Hid (∀ W p, TreeAt Nd W W.heap.size t p → Calls Tryd.prog 11 #[.pointer p] W fun e w' => e = .returned (.bool true) ∧ Below W.heap.size W w') := fun W p hp => hS.exact W t p hp (by omega)
  have cF : Hid (∀ W p q, Below w.heap.size w W → TreeAt Nd W W.heap.size t p → TreeAt Nd W W.heap.size u q → Calls Tryd.prog 12 #[.int .u8 o, .pointer p, .pointer q] W fun e w' => e = .returned (.bool (ahd o t u)) ∧ Below W.heap.size W w') := fun W p q hb hp hq => hS.ahead W o t u p q (hO.next hT hb) hp hq (by omega) (by omega)
  have cG : Hid (∀ W, Below w.heap.size w W → Calls Tryd.prog 13 #[.int .u8 o, .slice A n c, .slice A2 n2 c2] W fun e w' => e = .returned (.bool (ahd o t u)) ∧ Below W.heap.size W w') := fun W hb => refAhead_any o t u A A2 n c n2 c2 w.heap.size w.heap.size l m ht.pre ht.size (by rw [← ht.size]; omega) hu.pre hu.size (by rw [← hu.size]; omega) W hb.size (ht.lie.next hb) hb.size (hu.lie.next hb)
  unfold Checked at cC cD
  obtain ⟨f, hf⟩ : ∃ f, chkN o t = f := ⟨_, rfl⟩
  obtain ⟨E, hE⟩ : ∃ E, chkE o t = E := ⟨_, rfl⟩
  obtain ⟨v, hv⟩ : ∃ v, ahd o t u = v := ⟨_, rfl⟩
  rw [hf, hE] at cC cD
  rw [hv] at cF cG
  have hN' := Lib.hid hN
  have b_0 := Lib.hid (Below.refl w.heap.size w)
  clear hN hS hO hT h h2 ht hu hts hus hf hE hv
  go_enter Tryd.func3, Tryd.ntmps3
  go_wp2_with fail
  refine c0.out.mono ?_
  rintro e w' ⟨rfl, rfl⟩
  go_wp2_with fail
  refine c1.out.mono ?_
  rintro e w' ⟨rfl, rfl⟩
  go_wp2_with fail
  refine (cM.out w b_0.out).mono ?_
  rintro e w_1 ⟨p, rfl, hP, hb⟩
  have P_1 := Lib.hid hP
  have b_1 := Lib.hid (Below.after b_0.out hb)
  clear hb b_0 hP
  go_wp2_with fail
  refine (cM2.out w_1 b_1.out).mono ?_
  rintro e w_2 ⟨q, rfl, hQ, hb⟩
  have P_2 := Lib.hid (P_1.out.after hN'.out hb)
  have Q_2 := Lib.hid hQ
  have b_2 := Lib.hid (Below.after b_1.out hb)
  clear hb b_1 P_1 hQ
  go_wp2_with fail
  refine (cC.out w_2 _ b_2.out P_2.out).mono ?_
  rintro e w_3 ⟨rfl, hb⟩
  have P_3 := Lib.hid (P_2.out.after hN'.out hb)
  have Q_3 := Lib.hid (Q_2.out.after hN'.out hb)
  have b_3 := Lib.hid (Below.after b_2.out hb)
  clear hb b_2 P_2 Q_2
  go_wp2_with fail
  refine (cD.out w_3 b_3.out).mono ?_
  rintro e w_4 ⟨rfl, hb⟩
  have P_4 := Lib.hid (P_3.out.after hN'.out hb)
  have Q_4 := Lib.hid (Q_3.out.after hN'.out hb)
  have b_4 := Lib.hid (Below.after b_3.out hb)
  clear hb b_3 P_3 Q_3
  go_wp2_with fail
  refine (cE.out w_4 _ P_4.out).mono ?_
  rintro e w_5 ⟨rfl, hb⟩
  have P_5 := Lib.hid (P_4.out.after hN'.out hb)
  have Q_5 := Lib.hid (Q_4.out.after hN'.out hb)
  have b_5 := Lib.hid (Below.after b_4.out hb)
  clear hb b_4 P_4 Q_4
  go_wp2_with fail
  refine (cF.out w_5 _ _ b_5.out P_5.out Q_5.out).mono ?_
  rintro e w_6 ⟨rfl, hb⟩
  have b_6 := Lib.hid (Below.after b_5.out hb)
  clear hb b_5
  go_wp2_with fail
  refine (cG.out w_6 b_6.out).mono ?_
  rintro e w_7 ⟨rfl, hb⟩
  have b_7 := Lib.hid (Below.after b_6.out hb)
  clear hb b_6
  go_wp2_with fail
  refine (cA.out w_7 b_7.out).mono ?_
  rintro e w_8 ⟨rfl, hb⟩
  have b_8 := Lib.hid (Below.after b_7.out hb)
  clear hb b_7
  go_wp2
  go_ret
  exact ⟨rfl, b_8.out⟩
end Go.Proofs.YtfndaeocdgcaeaaDoor
/- Layer 12: the statement SoundRises, walked. Made by wip/gen/layer12rises.py. -/
namespace Go.Proofs.YtfndaeocdgcaeaaDoor
open Go.RowKit Go.Proofs.Treem
set_option maxRecDepth 100000
variable {Nd : NdP} {T : World → Prop}

theorem risesK_snoc (o : Nat) : ∀ (l : List (BitVec 64)) (a b : BitVec 64), risesK o (l ++ [a, b]) = (risesK o (l ++ [a]) && decide (ltK o a b))
  | [], a, b => by simp [risesK]
  | [x], a, b => by simp [risesK]
  | x :: y :: l, a, b => by
    have ih := risesK_snoc o (y :: l) a b
    simp only [List.cons_append, risesK] at ih ⊢
    rw [ih, Bool.and_assoc]
theorem risesK_step (o : Nat) (l : List (BitVec 64)) (m : Nat) (h : m + 1 < l.length) : risesK o (l.take (m + 1 + 1)) = (risesK o (l.take (m + 1)) && decide (ltK o l[m] l[m + 1])) := by
  rw [List.take_succ_eq_append_getElem h, List.take_succ_eq_append_getElem (show m < l.length by omega), List.append_assoc]
  exact risesK_snoc o _ _ _
theorem chkN_all (o : Nat) (t : Tr) (h1 : 1 ≤ o) (h7 : o ≤ 7) : chkN o t ≤ t.size ∧ ((chkN o t == t.size) = risesK o t.keys) := by
  unfold chkN
  rw [if_pos ⟨h1, h7⟩]
  refine ⟨first_le o t [], ?_⟩
  rw [Bool.eq_iff_iff, beq_iff_eq]
  exact sound_rises o t
/-- a cell of a row of numbers -/
theorem cell_K {w : World} {B : Nat} {A : Option Addr} {l : List (BitVec 64)} (h : Row w B A (l.map K)) (k : Nat) (hk : k < l.length) : ∃ ad, A = some ad ∧ ad.block < B ∧ w.cell? (ad.add k) = some (K l[k]) :=
  h k (K l[k]) (by rw [List.getElem?_map, List.getElem?_eq_getElem hk]; rfl)
set_option maxHeartbeats 2000000 in
theorem soundRises_long (hN : NodeSays Nd) (hS : SoundSays Nd T) (hO : OrdSays T) (o : Nat) (A : Option Addr) (n c : Nat) (w : World) (h : LongAt w A n c true) (hT : T w) : Calls Tryd.prog 4 #[.int .u8 o, .slice A n c] w fun e w' => e = .returned (.bool true) ∧ Below w.heap.size w w' := by
  have c0 := Lib.hid (h w (Below.refl _ _))
  have c9 := Lib.hid (alive12_any hN hS hO w hT)
  clear h hN hS hO hT
  go_enter Tryd.func4, Tryd.ntmps4
  go_wp2_with fail
  refine c0.out.mono ?_
  rintro e w' ⟨rfl, rfl⟩
  go_wp2_with fail
  refine c9.out.mono ?_
  rintro e w1 ⟨rfl, hb⟩
  have b1 := Lib.hid hb
  clear hb
  go_wp2
  go_ret
  exact ⟨rfl, b1.out⟩
set_option maxHeartbeats 2000000 in
theorem soundRises_out (hN : NodeSays Nd) (hS : SoundSays Nd T) (hO : OrdSays T) (o : Nat) (A : Option Addr) (n c : Nat) (w : World) (h : LongAt w A n c false) (ho : o = 0 ∨ 7 < o) (hT : T w) : Calls Tryd.prog 4 #[.int .u8 o, .slice A n c] w fun e w' => e = .returned (.bool true) ∧ Below w.heap.size w w' := by
  have c0 := Lib.hid (h w (Below.refl _ _))
  have c9 := Lib.hid (alive12_any hN hS hO w hT)
  clear h hN hS hO hT
  rcases ho with rfl | ho
  · go_enter Tryd.func4, Tryd.ntmps4
    go_wp2_with fail
    refine c0.out.mono ?_
    rintro e w' ⟨rfl, rfl⟩
    go_wp2_with fail
    refine c9.out.mono ?_
    rintro e w1 ⟨rfl, hb⟩
    have b1 := Lib.hid hb
    clear hb
    go_wp2
    go_ret
    exact ⟨rfl, b1.out⟩
  · have d1 : decide ((o : Int) < 1) = false := decide_eq_false (by omega)
    have d2 : decide ((7 : Int) < (o : Int)) = true := decide_eq_true (by omega)
    clear ho
    go_enter Tryd.func4, Tryd.ntmps4
    go_wp2_with fail
    refine c0.out.mono ?_
    rintro e w' ⟨rfl, rfl⟩
    go_wp2_with fail
    refine c9.out.mono ?_
    rintro e w1 ⟨rfl, hb⟩
    have b1 := Lib.hid hb
    clear hb
    go_wp2
    go_ret
    exact ⟨rfl, b1.out⟩
set_option maxHeartbeats 8000000 in
theorem soundRises_yes (hN : NodeSays Nd) (hS : SoundSays Nd T) (hO : OrdSays T) (o : Nat) (o1 : 1 ≤ o) (o7 : o ≤ 7) (A : Option Addr) (n c : Nat) (l : List Bd) (t : Tr) (w : World) (h : LongAt w A n c false) (ht : TreeIn w A n c l t) (hT : T w) :
    Calls Tryd.prog 4 #[.int .u8 o, .slice A n c] w fun e w' => e = .returned (.bool true) ∧ Below w.heap.size w w' := by
  have c0 := Lib.hid (h w (Below.refl _ _))
  have cM := Lib.hid (ht.make hN)
  have h4 : n ≤ 400 := ht.few
  have hsz := ht.size
  have cA : Hid (∀ W, Below w.heap.size w W → Calls Tryd.prog 7 #[] W fun e w' => e = .returned (.bool true) ∧ Below W.heap.size W w') := fun W hb => alive12_any hN hS hO W (hO.next hT hb)
  have cC : Hid (∀ W p, Below w.heap.size w W → TreeAt Nd W W.heap.size t p → Calls Tryd.prog 9 #[.int .u8 o, .pointer p] W (Checked o t W)) := fun W p hb hp => hS.check W o t p (hO.next hT hb) hp (by omega)
  have cK : Hid (∀ W p, TreeAt Nd W W.heap.size t p → Calls Tryd.prog 14 #[.pointer p, .slice none 0 0] W fun e w' => ∃ v', e = .returned (.tuple #[v', .bool true]) ∧ w'.ownsRow W.heap.size 2 1 v' n (t.keys.map K) ∧ Below W.heap.size W w') := fun W p hp => by
    have := keys_any hN W.heap.size t p 0 (.slice none 0 0) [] W (Nat.le_refl _) hp (World.ownsRow_nil _ _ _ _) (by omega)
    rw [Nat.zero_add, hsz, List.nil_append] at this
    exact this
  have cO : Hid (∀ a b W, Below w.heap.size w W → Calls Tryd.prog 15 #[.int .u8 o, K a, K b] W fun e w' => e = .returned (.int .i64 (Ordm.stand o a b)) ∧ Below W.heap.size W w') := fun a b W hb => hO.cmp W o a b o1 o7 (hO.next hT hb)
  have cH : Hid (∀ W x y p q, Below w.heap.size w W → TreeAt Nd W W.heap.size x p → TreeAt Nd W W.heap.size y q → x.size ≤ 400 → y.size ≤ 400 → aheadT o x y = true → Calls Tryd.prog 12 #[.int .u8 o, .pointer p, .pointer q] W fun e w' => e = .returned (.bool true) ∧ Below W.heap.size W w') := fun W x y p q hb hp hq h1 h2 h3 => by
    have := hS.ahead W o x y p q (hO.next hT hb) hp hq (by omega) (by omega)
    unfold ahd at this
    rw [decide_eq_true (⟨o1, o7⟩ : 1 ≤ o ∧ o ≤ 7), h3] at this
    exact this
  obtain ⟨q1, q2⟩ := chkN_all o t o1 o7
  have q3 := chkE_ok o t o1 o7
  unfold Checked at cC
  obtain ⟨f, hf⟩ : ∃ f, chkN o t = f := ⟨_, rfl⟩
  obtain ⟨E, hE⟩ : ∃ E, chkE o t = E := ⟨_, rfl⟩
  obtain ⟨R, hR⟩ : ∃ R, risesK o t.keys = R := ⟨_, rfl⟩
  rw [hf, hsz] at q1
  rw [hf, hsz, hR] at q2
  rw [hE, hR] at q3
  rw [hf, hE] at cC
  obtain ⟨ks, hks⟩ : ∃ ks, t.keys = ks := ⟨_, rfl⟩
  rw [hks] at hR cK
  have hlen : ks.length = n := by rw [← hks, keys_len, hsz]
  have hl' := Lib.hid hlen
  have hR' := Lib.hid hR
  have hks' := Lib.hid hks
  have hsz' := Lib.hid hsz
  have q4 : ((f : Int) == (n : Int)) = R := by rw [← q2, Bool.eq_iff_iff, beq_iff_eq, beq_iff_eq]; omega
  have q5 : decide ((f : Int) < 0) = false := decide_eq_false (by omega)
  have q6 : decide ((n : Int) < (f : Int)) = false := decide_eq_false (by omega)
  have q7 : (E != 0) = !R := by rw [bne, q3]
  have q8 : decide (n < f) = false := decide_eq_false (by omega)
  have d1 : decide ((o : Int) < 1) = false := decide_eq_false (by omega)
  have d2 : decide ((7 : Int) < (o : Int)) = false := decide_eq_false (by omega)
  have hN' := Lib.hid hN
  clear hN hS hO hT h ht hf hE hR hks hlen hsz o1 o7
  go_enter Tryd.func4, Tryd.ntmps4
  go_wp2_with fail
  refine c0.out.mono ?_
  rintro e w' ⟨rfl, rfl⟩
  go_wp2_with fail
  refine (cM.out w (Below.refl _ _)).mono ?_
  rintro e w1 ⟨p, rfl, hP, hb⟩
  have t1 := Lib.hid hP
  have b1 := Lib.hid hb
  clear hP hb c0 cM
  go_wp2_with fail
  refine (cC.out w1 p b1.out t1.out).mono ?_
  rintro e w2 ⟨rfl, hb⟩
  have t2 := Lib.hid (t1.out.after hN'.out hb)
  have b2 := Lib.hid (Below.after b1.out hb)
  clear hb cC t1 b1
  go_wp2_with fail
  refine (cK.out w2 p t2.out).mono ?_
  rintro e w3 ⟨v3, rfl, ho3, hb⟩
  obtain ⟨A3, c3, rfl, -, -, -⟩ := own_slice ho3
  have r3 := Lib.hid (Row.of_own ho3)
  have t3 := Lib.hid (t2.out.after hN'.out hb)
  have b3 := Lib.hid (Below.after b2.out hb)
  clear hb ho3 cK t2 b2
  go_wp2_with fail
  go_loopw [10, 11] (fun r i wr => ∃ m : Nat, m ≤ n ∧ i = .int .i64 ((m : Int) + 1) ∧ r = .bool (risesK o (ks.take (m + 1))) ∧ Below w3.heap.size w3 wr) (fun _ i _ => n + 1 - (intOf i).toNat)
  case atStart => exact ⟨0, Nat.zero_le _, rfl, by cases ks <;> rfl, Below.refl _ _⟩
  case round =>
    obtain ⟨m, hm, rfl, rfl, hb⟩ := hrel
    have hb' := Lib.hid hb
    clear hb
    by_cases hlt : m + 1 < n
    · have hkl : m + 1 < ks.length := by rw [hl'.out]; exact hlt
      obtain ⟨ad, rfl, hb2, g1⟩   := cell_K (r3.out.below hb'.out) m (by omega)
      obtain ⟨ad', he', hb4, g3⟩   := cell_K (r3.out.below hb'.out) (m + 1) hkl
      cases he'
      have hst := Lib.hid (risesK_step o ks m hkl)
      obtain ⟨ka, hka⟩ : ∃ x, ks[m] = x := ⟨_, rfl⟩
      obtain ⟨kb, hkb⟩ : ∃ x, ks[m + 1] = x := ⟨_, rfl⟩
      rw [hka] at g1 hst
      rw [hkb] at g3 hst
      clear hka hkb
      have e0 : IntKind.i64.wrap ((m : Int) + 1 - 1) = (m : Int) := by rw [show (m : Int) + 1 - 1 = m by omega]; exact IntWalk.i64_in _ (by omega)
      have e5 : IntKind.i64.wrap (m : Int) = (m : Int) := IntWalk.i64_in _ (by omega)
      have e1 : (0 : Int) ≤ (m : Int) + 1 := by omega
      have e2 : ((m : Int) + 1).toNat = m + 1 := by omega
      have e3 : (m : Int) + 1 < (n : Int) := by omega
      have e4 : (m : Int) < (n : Int) := by omega
      obtain ⟨z, hz⟩ : ∃ z, risesK o (ks.take (m + 1)) = z := ⟨_, rfl⟩
      rw [hz] at hst ⊢
      obtain ⟨z2, hz2⟩ : ∃ z, risesK o (ks.take (m + 1 + 1)) = z := ⟨_, rfl⟩
      rw [hz2] at hst
      have hz2' := Lib.hid hz2
      have hlk : decide (ltK o ka kb) = decide (Ordm.stand o ka kb < 0) := by rw [Bool.eq_iff_iff, decide_eq_true_eq, decide_eq_true_eq]; exact ltK_stand
      rw [hlk] at hst
      have cO2 := Lib.hid (fun W hW => cO.out ka kb W hW)
      obtain ⟨s, hs⟩ : ∃ s, Ordm.stand o ka kb = s := ⟨_, rfl⟩
      rw [hs] at hst cO2
      clear hz hz2 hlk hs
      cases z with
      | true =>
        have d0 : decide (s < 0) = z2 := by have := hst.out; rw [Bool.true_and] at this; exact this.symm
        clear hst
        go_wp2_with fail
        refine wp_region_held_drew (S := fun W => W.cell? (ad.add m) = some (K ka) ∧ W.cell? { block := ad.block, off := ad.off + (m + 1) } = some (K kb) ∧ Below w3.heap.size w3 W) (by kernel_rfl) ⟨g1, g3, hb'.out.drew⟩ (fun hS => ?_)
        refine wpAnyH_take (i := 0) (oi := ?dqr1q0) (v := ?dvr1q0) ?hir1q0 (by kernel_rfl) (by kernel_rfl) (by kernel_rfl) ?hQr1q0 (Or.inl ⟨?hwr1q0, ?hyr1q0⟩) hS ?hrr1q0
        case hir1q0 => simp only [List.getElem?_toArray, List.getElem?_cons_zero]; rfl
        case hQr1q0 => exact fun _ _ _ h => h
        case hwr1q0 => rfl
        case hyr1q0 => (intro w hSw; (try dsimp only at hSw); go_simp; (try with_reducible rfl))
        simp only [Act.put, List.setIfInBounds_toArray, List.set_cons_zero, List.set_cons_succ]
        refine wpAnyH_take (i := 1) (oi := ?dqr1q1) (v := ?dvr1q1) ?hir1q1 (by kernel_rfl) (by kernel_rfl) (by kernel_rfl) ?hQr1q1 (Or.inl ⟨?hwr1q1, ?hyr1q1⟩) hS ?hrr1q1
        case hir1q1 => simp only [List.getElem?_toArray, List.getElem?_cons_succ, List.getElem?_cons_zero]; rfl
        case hQr1q1 => exact fun _ _ _ h => h
        case hwr1q1 => rfl
        case hyr1q1 => (intro w hSw; (try dsimp only at hSw); go_simp; (try with_reducible rfl))
        simp only [Act.put, List.setIfInBounds_toArray, List.set_cons_zero, List.set_cons_succ]
        refine wpAnyH_take (i := 2) (oi := ?dqr1q2) (v := ?dvr1q2) ?hir1q2 (by kernel_rfl) (by kernel_rfl) (by kernel_rfl) ?hQr1q2 (Or.inl ⟨?hwr1q2, ?hyr1q2⟩) hS ?hrr1q2
        case hir1q2 => simp only [List.getElem?_toArray, List.getElem?_cons_succ, List.getElem?_cons_zero]; rfl
        case hQr1q2 => exact fun _ _ _ h => h
        case hwr1q2 => rfl
        case hyr1q2 => (intro w hSw; (try dsimp only at hSw); go_simp; (try with_reducible rfl))
        simp only [Act.put, List.setIfInBounds_toArray, List.set_cons_zero, List.set_cons_succ]
        refine wpAnyH_take (i := 3) (oi := ?dqr1q3) (v := ?dvr1q3) ?hir1q3 (by kernel_rfl) (by kernel_rfl) (by kernel_rfl) ?hQr1q3 (Or.inl ⟨?hwr1q3, ?hyr1q3⟩) hS ?hrr1q3
        case hir1q3 => simp only [List.getElem?_toArray, List.getElem?_cons_succ, List.getElem?_cons_zero]; rfl
        case hQr1q3 => exact fun _ _ _ h => h
        case hwr1q3 => rfl
        case hyr1q3 => (intro w hSw; (try dsimp only at hSw); go_simp; (try with_reducible rfl))
        simp only [Act.put, List.setIfInBounds_toArray, List.set_cons_zero, List.set_cons_succ]
        refine wpAnyH_take (i := 4) (oi := ?dqr1q4) (v := ?dvr1q4) ?hir1q4 (by kernel_rfl) (by kernel_rfl) (by kernel_rfl) ?hQr1q4 (Or.inl ⟨?hwr1q4, ?hyr1q4⟩) hS ?hrr1q4
        case hir1q4 => simp only [List.getElem?_toArray, List.getElem?_cons_succ, List.getElem?_cons_zero]; rfl
        case hQr1q4 => exact fun _ _ _ h => h
        case hwr1q4 => rfl
        case hyr1q4 => (intro w hSw; (try dsimp only at hSw); go_simp; (try with_reducible rfl))
        simp only [Act.put, List.setIfInBounds_toArray, List.set_cons_zero, List.set_cons_succ]
        refine wpAnyH_take (i := 5) (oi := ?dqr1q5) (v := ?dvr1q5) ?hir1q5 (by kernel_rfl) (by kernel_rfl) (by kernel_rfl) ?hQr1q5 (Or.inl ⟨?hwr1q5, ?hyr1q5⟩) hS ?hrr1q5
        case hir1q5 => simp only [List.getElem?_toArray, List.getElem?_cons_succ, List.getElem?_cons_zero]; rfl
        case hQr1q5 => exact fun _ _ _ h => h
        case hwr1q5 => rfl
        case hyr1q5 => (intro w hSw; (try dsimp only at hSw); go_simp; (try with_reducible rfl))
        simp only [Act.put, List.setIfInBounds_toArray, List.set_cons_zero, List.set_cons_succ]
        refine wpAnyH_take (i := 6) (oi := ?dqr1q6) (v := ?dvr1q6) ?hir1q6 (by kernel_rfl) (by kernel_rfl) (by kernel_rfl) ?hQr1q6 (Or.inl ⟨?hwr1q6, ?hyr1q6⟩) hS ?hrr1q6
        case hir1q6 => simp only [List.getElem?_toArray, List.getElem?_cons_succ, List.getElem?_cons_zero]; rfl
        case hQr1q6 => exact fun _ _ _ h => h
        case hwr1q6 => rfl
        case hyr1q6 => (intro w hSw; (try dsimp only at hSw); go_simp; (try with_reducible rfl))
        simp only [Act.put, List.setIfInBounds_toArray, List.set_cons_zero, List.set_cons_succ]
        refine wpAnyH_take (i := 7) (oi := ?dqr1q7) (v := ?dvr1q7) ?hir1q7 (by kernel_rfl) (by kernel_rfl) (by kernel_rfl) ?hQr1q7 (Or.inl ⟨?hwr1q7, ?hyr1q7⟩) hS ?hrr1q7
        case hir1q7 => simp only [List.getElem?_toArray, List.getElem?_cons_succ, List.getElem?_cons_zero]; rfl
        case hQr1q7 => exact fun _ _ _ h => h
        case hwr1q7 => rfl
        case hyr1q7 => (intro w hSw; (try dsimp only at hSw); go_simp; (try with_reducible rfl))
        simp only [Act.put, List.setIfInBounds_toArray, List.set_cons_zero, List.set_cons_succ]
        refine wpAnyH_take (i := 8) (oi := ?dqr1q8) (v := ?dvr1q8) ?hir1q8 (by kernel_rfl) (by kernel_rfl) (by kernel_rfl) ?hQr1q8 (Or.inl ⟨?hwr1q8, ?hyr1q8⟩) hS ?hrr1q8
        case hir1q8 => simp only [List.getElem?_toArray, List.getElem?_cons_succ, List.getElem?_cons_zero]; rfl
        case hQr1q8 => exact fun _ _ _ h => h
        case hwr1q8 => rfl
        case hyr1q8 => (intro w hSw; (try dsimp only at hSw); go_simp; (try with_reducible rfl))
        simp only [Act.put, List.setIfInBounds_toArray, List.set_cons_zero, List.set_cons_succ]
        refine wpAnyH_take (i := 9) (oi := ?dqr1q9) (v := ?dvr1q9) ?hir1q9 (by kernel_rfl) (by kernel_rfl) (by kernel_rfl) ?hQr1q9 (Or.inl ⟨?hwr1q9, ?hyr1q9⟩) hS ?hrr1q9
        case hir1q9 => simp only [List.getElem?_toArray, List.getElem?_cons_succ, List.getElem?_cons_zero]; rfl
        case hQr1q9 => exact fun _ _ _ h => h
        case hwr1q9 => rfl
        case hyr1q9 => (intro w hSw; (try dsimp only at hSw); go_simp; (try with_reducible rfl))
        simp only [Act.put, List.setIfInBounds_toArray, List.set_cons_zero, List.set_cons_succ]
        refine wpAnyH_take (i := 10) (oi := ?dqr1q10) (v := ?dvr1q10) ?hir1q10 (by kernel_rfl) (by kernel_rfl) (by kernel_rfl) ?hQr1q10 (Or.inl ⟨?hwr1q10, ?hyr1q10⟩) hS ?hrr1q10
        case hir1q10 => simp only [List.getElem?_toArray, List.getElem?_cons_succ, List.getElem?_cons_zero]; rfl
        case hQr1q10 => exact fun _ _ _ h => h
        case hwr1q10 => rfl
        case hyr1q10 => (intro w hSw; (try dsimp only at hSw); go_simp; (try with_reducible rfl))
        simp only [Act.put, List.setIfInBounds_toArray, List.set_cons_zero, List.set_cons_succ]
        refine wpAnyH_take (i := 11) (oi := ?dqr1q11) (v := ?dvr1q11) ?hir1q11 (by kernel_rfl) (by kernel_rfl) (by kernel_rfl) ?hQr1q11 (Or.inl ⟨?hwr1q11, ?hyr1q11⟩) hS ?hrr1q11
        case hir1q11 => simp only [List.getElem?_toArray, List.getElem?_cons_succ, List.getElem?_cons_zero]; rfl
        case hQr1q11 => exact fun _ _ _ h => h
        case hwr1q11 => rfl
        case hyr1q11 => (intro w hSw; (try dsimp only at hSw); go_simp; (try with_reducible rfl))
        simp only [Act.put, List.setIfInBounds_toArray, List.set_cons_zero, List.set_cons_succ]
        refine wpAnyH_ready (rs := [12]) (by kernel_rfl) (by simp) ?_
        refine AllReadyH.cons (o := ?dqr1q12) ?hir1q12 (fun K hK => ?_) AllReadyH.nil
        case hir1q12 => simp only [List.getElem?_toArray, List.getElem?_cons_succ, List.getElem?_cons_zero]; rfl
        go_simp
        go_at_call 15
        refine (cO2.out _ (Below.after b3.out hS.2.2)).mono ?_
        rintro e u3 ⟨rfl, hb⟩
        have hS2 := (And.intro (keep_cell hb hS.1) (And.intro (keep_cell hb hS.2.1) (Below.after hS.2.2 hb)))
        clear hS
        refine hK.out _ _ hS2 (fun hS => ?_)
        clear hS2 hK K
        try simp only [Act.put, List.setIfInBounds_toArray, List.set_cons_zero, List.set_cons_succ]
        refine wpAnyH_take (i := 13) (oi := ?dqr1q13) (v := ?dvr1q13) ?hir1q13 (by kernel_rfl) (by kernel_rfl) (by kernel_rfl) ?hQr1q13 (Or.inl ⟨?hwr1q13, ?hyr1q13⟩) hS ?hrr1q13
        case hir1q13 => simp only [List.getElem?_toArray, List.getElem?_cons_succ, List.getElem?_cons_zero]; rfl
        case hQr1q13 => exact fun _ _ _ h => h
        case hwr1q13 => rfl
        case hyr1q13 => (intro w hSw; (try dsimp only at hSw); go_simp; (try with_reducible rfl))
        simp only [Act.put, List.setIfInBounds_toArray, List.set_cons_zero, List.set_cons_succ]
        refine wpAnyH_take (i := 14) (oi := ?dqr1q14) (v := ?dvr1q14) ?hir1q14 (by kernel_rfl) (by kernel_rfl) (by kernel_rfl) ?hQr1q14 (Or.inl ⟨?hwr1q14, ?hyr1q14⟩) hS ?hrr1q14
        case hir1q14 => simp only [List.getElem?_toArray, List.getElem?_cons_succ, List.getElem?_cons_zero]; rfl
        case hQr1q14 => exact fun _ _ _ h => h
        case hwr1q14 => rfl
        case hyr1q14 => (intro w hSw; (try dsimp only at hSw); go_simp; (try with_reducible rfl))
        simp only [Act.put, List.setIfInBounds_toArray, List.set_cons_zero, List.set_cons_succ]
        refine wpAnyH_take (i := 15) (oi := ?dqr1q15) (v := ?dvr1q15) ?hir1q15 (by kernel_rfl) (by kernel_rfl) (by kernel_rfl) ?hQr1q15 (Or.inl ⟨?hwr1q15, ?hyr1q15⟩) hS ?hrr1q15
        case hir1q15 => simp only [List.getElem?_toArray, List.getElem?_cons_succ, List.getElem?_cons_zero]; rfl
        case hQr1q15 => exact fun _ _ _ h => h
        case hwr1q15 => rfl
        case hyr1q15 => (intro w hSw; (try dsimp only at hSw); go_simp; (try with_reducible rfl))
        simp only [Act.put, List.setIfInBounds_toArray, List.set_cons_zero, List.set_cons_succ]
        refine wpAnyH_done (by kernel_rfl) ?_ _
        have hb3 := Lib.hid hS.2.2
        clear hS cO2 e0 e2 g1 g3 hb' e5
        go_wp2_with fail
        go_roundw
        case rel => exact ⟨m + 1, by omega, by go_num, by rw [hz2'.out], hb3.out⟩
        case measure => simp [intOf]; omega
      | false =>
        have d0 : Hid (z2 = false) := by have := hst.out; rwa [Bool.false_and] at this
        clear hst
        go_wp2_with fail
        refine wp_region_held_drew (S := fun W => W.cell? (ad.add m) = some (K ka) ∧ W.cell? { block := ad.block, off := ad.off + (m + 1) } = some (K kb) ∧ Below w3.heap.size w3 W) (by kernel_rfl) ⟨g1, g3, hb'.out.drew⟩ (fun hS => ?_)
        refine wpAnyH_take (i := 0) (oi := ?dqr2q0) (v := ?dvr2q0) ?hir2q0 (by kernel_rfl) (by kernel_rfl) (by kernel_rfl) ?hQr2q0 (Or.inl ⟨?hwr2q0, ?hyr2q0⟩) hS ?hrr2q0
        case hir2q0 => simp only [List.getElem?_toArray, List.getElem?_cons_zero]; rfl
        case hQr2q0 => exact fun _ _ _ h => h
        case hwr2q0 => rfl
        case hyr2q0 => (intro w hSw; (try dsimp only at hSw); go_simp; (try with_reducible rfl))
        simp only [Act.put, List.setIfInBounds_toArray, List.set_cons_zero, List.set_cons_succ]
        refine wpAnyH_take (i := 1) (oi := ?dqr2q1) (v := ?dvr2q1) ?hir2q1 (by kernel_rfl) (by kernel_rfl) (by kernel_rfl) ?hQr2q1 (Or.inl ⟨?hwr2q1, ?hyr2q1⟩) hS ?hrr2q1
        case hir2q1 => simp only [List.getElem?_toArray, List.getElem?_cons_succ, List.getElem?_cons_zero]; rfl
        case hQr2q1 => exact fun _ _ _ h => h
        case hwr2q1 => rfl
        case hyr2q1 => (intro w hSw; (try dsimp only at hSw); go_simp; (try with_reducible rfl))
        simp only [Act.put, List.setIfInBounds_toArray, List.set_cons_zero, List.set_cons_succ]
        refine wpAnyH_take (i := 2) (oi := ?dqr2q2) (v := undef) ?hir2q2 (by kernel_rfl) (by kernel_rfl) (by kernel_rfl) ?hQr2q2 (Or.inr ⟨?hwr2q2, rfl⟩) hS ?hrr2q2
        case hir2q2 => simp only [List.getElem?_toArray, List.getElem?_cons_succ, List.getElem?_cons_zero]; rfl
        case hQr2q2 => exact fun _ _ _ h => h
        case hwr2q2 => rfl
        simp only [Act.put, List.setIfInBounds_toArray, List.set_cons_zero, List.set_cons_succ]
        refine wpAnyH_take (i := 3) (oi := ?dqr2q3) (v := undef) ?hir2q3 (by kernel_rfl) (by kernel_rfl) (by kernel_rfl) ?hQr2q3 (Or.inr ⟨?hwr2q3, rfl⟩) hS ?hrr2q3
        case hir2q3 => simp only [List.getElem?_toArray, List.getElem?_cons_succ, List.getElem?_cons_zero]; rfl
        case hQr2q3 => exact fun _ _ _ h => h
        case hwr2q3 => rfl
        simp only [Act.put, List.setIfInBounds_toArray, List.set_cons_zero, List.set_cons_succ]
        refine wpAnyH_take (i := 4) (oi := ?dqr2q4) (v := undef) ?hir2q4 (by kernel_rfl) (by kernel_rfl) (by kernel_rfl) ?hQr2q4 (Or.inr ⟨?hwr2q4, rfl⟩) hS ?hrr2q4
        case hir2q4 => simp only [List.getElem?_toArray, List.getElem?_cons_succ, List.getElem?_cons_zero]; rfl
        case hQr2q4 => exact fun _ _ _ h => h
        case hwr2q4 => rfl
        simp only [Act.put, List.setIfInBounds_toArray, List.set_cons_zero, List.set_cons_succ]
        refine wpAnyH_take (i := 5) (oi := ?dqr2q5) (v := undef) ?hir2q5 (by kernel_rfl) (by kernel_rfl) (by kernel_rfl) ?hQr2q5 (Or.inr ⟨?hwr2q5, rfl⟩) hS ?hrr2q5
        case hir2q5 => simp only [List.getElem?_toArray, List.getElem?_cons_succ, List.getElem?_cons_zero]; rfl
        case hQr2q5 => exact fun _ _ _ h => h
        case hwr2q5 => rfl
        simp only [Act.put, List.setIfInBounds_toArray, List.set_cons_zero, List.set_cons_succ]
        refine wpAnyH_take (i := 6) (oi := ?dqr2q6) (v := undef) ?hir2q6 (by kernel_rfl) (by kernel_rfl) (by kernel_rfl) ?hQr2q6 (Or.inr ⟨?hwr2q6, rfl⟩) hS ?hrr2q6
        case hir2q6 => simp only [List.getElem?_toArray, List.getElem?_cons_succ, List.getElem?_cons_zero]; rfl
        case hQr2q6 => exact fun _ _ _ h => h
        case hwr2q6 => rfl
        simp only [Act.put, List.setIfInBounds_toArray, List.set_cons_zero, List.set_cons_succ]
        refine wpAnyH_take (i := 7) (oi := ?dqr2q7) (v := undef) ?hir2q7 (by kernel_rfl) (by kernel_rfl) (by kernel_rfl) ?hQr2q7 (Or.inr ⟨?hwr2q7, rfl⟩) hS ?hrr2q7
        case hir2q7 => simp only [List.getElem?_toArray, List.getElem?_cons_succ, List.getElem?_cons_zero]; rfl
        case hQr2q7 => exact fun _ _ _ h => h
        case hwr2q7 => rfl
        simp only [Act.put, List.setIfInBounds_toArray, List.set_cons_zero, List.set_cons_succ]
        refine wpAnyH_take (i := 8) (oi := ?dqr2q8) (v := undef) ?hir2q8 (by kernel_rfl) (by kernel_rfl) (by kernel_rfl) ?hQr2q8 (Or.inr ⟨?hwr2q8, rfl⟩) hS ?hrr2q8
        case hir2q8 => simp only [List.getElem?_toArray, List.getElem?_cons_succ, List.getElem?_cons_zero]; rfl
        case hQr2q8 => exact fun _ _ _ h => h
        case hwr2q8 => rfl
        simp only [Act.put, List.setIfInBounds_toArray, List.set_cons_zero, List.set_cons_succ]
        refine wpAnyH_take (i := 9) (oi := ?dqr2q9) (v := undef) ?hir2q9 (by kernel_rfl) (by kernel_rfl) (by kernel_rfl) ?hQr2q9 (Or.inr ⟨?hwr2q9, rfl⟩) hS ?hrr2q9
        case hir2q9 => simp only [List.getElem?_toArray, List.getElem?_cons_succ, List.getElem?_cons_zero]; rfl
        case hQr2q9 => exact fun _ _ _ h => h
        case hwr2q9 => rfl
        simp only [Act.put, List.setIfInBounds_toArray, List.set_cons_zero, List.set_cons_succ]
        refine wpAnyH_take (i := 10) (oi := ?dqr2q10) (v := undef) ?hir2q10 (by kernel_rfl) (by kernel_rfl) (by kernel_rfl) ?hQr2q10 (Or.inr ⟨?hwr2q10, rfl⟩) hS ?hrr2q10
        case hir2q10 => simp only [List.getElem?_toArray, List.getElem?_cons_succ, List.getElem?_cons_zero]; rfl
        case hQr2q10 => exact fun _ _ _ h => h
        case hwr2q10 => rfl
        simp only [Act.put, List.setIfInBounds_toArray, List.set_cons_zero, List.set_cons_succ]
        refine wpAnyH_take (i := 11) (oi := ?dqr2q11) (v := undef) ?hir2q11 (by kernel_rfl) (by kernel_rfl) (by kernel_rfl) ?hQr2q11 (Or.inr ⟨?hwr2q11, rfl⟩) hS ?hrr2q11
        case hir2q11 => simp only [List.getElem?_toArray, List.getElem?_cons_succ, List.getElem?_cons_zero]; rfl
        case hQr2q11 => exact fun _ _ _ h => h
        case hwr2q11 => rfl
        simp only [Act.put, List.setIfInBounds_toArray, List.set_cons_zero, List.set_cons_succ]
        refine wpAnyH_take (i := 12) (oi := ?dqr2q12) (v := undef) ?hir2q12 (by kernel_rfl) (by kernel_rfl) (by kernel_rfl) ?hQr2q12 (Or.inr ⟨?hwr2q12, rfl⟩) hS ?hrr2q12
        case hir2q12 => simp only [List.getElem?_toArray, List.getElem?_cons_succ, List.getElem?_cons_zero]; rfl
        case hQr2q12 => exact fun _ _ _ h => h
        case hwr2q12 => rfl
        simp only [Act.put, List.setIfInBounds_toArray, List.set_cons_zero, List.set_cons_succ]
        refine wpAnyH_take (i := 13) (oi := ?dqr2q13) (v := undef) ?hir2q13 (by kernel_rfl) (by kernel_rfl) (by kernel_rfl) ?hQr2q13 (Or.inr ⟨?hwr2q13, rfl⟩) hS ?hrr2q13
        case hir2q13 => simp only [List.getElem?_toArray, List.getElem?_cons_succ, List.getElem?_cons_zero]; rfl
        case hQr2q13 => exact fun _ _ _ h => h
        case hwr2q13 => rfl
        simp only [Act.put, List.setIfInBounds_toArray, List.set_cons_zero, List.set_cons_succ]
        refine wpAnyH_take (i := 14) (oi := ?dqr2q14) (v := ?dvr2q14) ?hir2q14 (by kernel_rfl) (by kernel_rfl) (by kernel_rfl) ?hQr2q14 (Or.inl ⟨?hwr2q14, ?hyr2q14⟩) hS ?hrr2q14
        case hir2q14 => simp only [List.getElem?_toArray, List.getElem?_cons_succ, List.getElem?_cons_zero]; rfl
        case hQr2q14 => exact fun _ _ _ h => h
        case hwr2q14 => rfl
        case hyr2q14 => (intro w hSw; (try dsimp only at hSw); go_simp; (try with_reducible rfl))
        simp only [Act.put, List.setIfInBounds_toArray, List.set_cons_zero, List.set_cons_succ]
        refine wpAnyH_take (i := 15) (oi := ?dqr2q15) (v := ?dvr2q15) ?hir2q15 (by kernel_rfl) (by kernel_rfl) (by kernel_rfl) ?hQr2q15 (Or.inl ⟨?hwr2q15, ?hyr2q15⟩) hS ?hrr2q15
        case hir2q15 => simp only [List.getElem?_toArray, List.getElem?_cons_succ, List.getElem?_cons_zero]; rfl
        case hQr2q15 => exact fun _ _ _ h => h
        case hwr2q15 => rfl
        case hyr2q15 => (intro w hSw; (try dsimp only at hSw); go_simp; (try with_reducible rfl))
        simp only [Act.put, List.setIfInBounds_toArray, List.set_cons_zero, List.set_cons_succ]
        refine wpAnyH_done (by kernel_rfl) ?_ _
        have hb3 := Lib.hid hS.2.2
        clear hS cO2 e0 e2 g1 g3 hb' e5
        go_wp2_with fail
        go_roundw
        case rel => exact ⟨m + 1, by omega, by go_num, by rw [hz2'.out, d0.out], hb3.out⟩
        case measure => simp [intOf]; omega
    · have hm2 : Hid (risesK o (ks.take (m + 1)) = R) := by show _ = _; rw [List.take_of_length_le (by rw [hl'.out]; omega)]; exact hR'.out
      have hlt' : ¬ ((m : Int) + 1 < (n : Int)) := by omega
      have b4 := Lib.hid (Below.after b3.out hb'.out)
      have t4 := Lib.hid (t3.out.after hN'.out hb'.out)
      rw [hm2.out]
      clear b3 t3 r3 hb' hm2 hm
      cases R with
      | false =>
        go_wp2_with fail
        refine (cA.out wr b4.out).mono ?_
        rintro e w5 ⟨rfl, hb⟩
        have b5 := Lib.hid (Below.after b4.out hb)
        clear hb
        go_wp2
        go_ret
        exact ⟨rfl, b5.out⟩
      | true =>
        have hsz2 := hsz'.out
        rcases t4.out.parts with ⟨rfl, -⟩ | ⟨a, pl, pr, tl, k, x, g, tr, S, M, rfl, htn, hnd, hpl, hpr⟩
        · go_wp2_with fail
          refine (cA.out wr b4.out).mono ?_
          rintro e w5 ⟨rfl, hb⟩
          have b5 := Lib.hid (Below.after b4.out hb)
          clear hb
          go_wp2
          go_ret
          exact ⟨rfl, b5.out⟩
        · have hal := Lib.hid (sides_ahead (o := o) (l := tl) (r := tr) (k := k) (v := x) (g := g) (by rw [← htn, hks'.out]; exact hR'.out))
          rw [htn, Tr.size] at hsz2
          have u1 : tl.size ≤ 400 := by omega
          have u2 : tr.size ≤ 400 := by omega
          have cW := Lib.hid (fun W (hb : Below wr.heap.size wr W) => with9 hN'.out W a pl pr tl tr k x g k 0#64 S M (nd_after hN'.out hnd hb) (hpl.after hN'.out hb) (hpr.after hN'.out hb))
          have cLf : Hid (∀ W, Below wr.heap.size wr W → Calls Tryd.prog 16 #[.pointer (some a)] W fun e w' => e = .returned (.pointer pl) ∧ W = w') := fun W hb => hN'.out.left W W.heap.size a _ (nd_after hN'.out hnd hb)
          have cRt : Hid (∀ W, Below wr.heap.size wr W → Calls Tryd.prog 17 #[.pointer (some a)] W fun e w' => e = .returned (.pointer pr) ∧ W = w') := fun W hb => hN'.out.right W W.heap.size a _ (nd_after hN'.out hnd hb)
          have cKy : Hid (∀ W, Below wr.heap.size wr W → Calls Tryd.prog 19 #[.pointer (some a)] W fun e w' => e = .returned (K k) ∧ W = w') := fun W hb => hN'.out.key W W.heap.size a _ (nd_after hN'.out hnd hb)
          have cHH : Hid (∀ W, Below wr.heap.size wr W → Calls Tryd.prog 12 #[.int .u8 o, .pointer pl, .pointer pr] W fun e w' => e = .returned (.bool true) ∧ Below W.heap.size W w') := fun W hb => cH.out W tl tr pl pr (Below.after b4.out hb) (hpl.after hN'.out hb) (hpr.after hN'.out hb) u1 u2 hal.out
          have b0 := Lib.hid (Below.refl wr.heap.size wr)
          clear hal hsz2 u1 u2 htn hnd hpl hpr t4 cH cO
          go_wp2_with fail
          refine (cLf.out wr b0.out).mono ?_
          rintro e w' ⟨rfl, rfl⟩
          go_wp2_with fail
          refine (cRt.out wr b0.out).mono ?_
          rintro e w' ⟨rfl, rfl⟩
          go_wp2_with fail
          refine (cHH.out wr b0.out).mono ?_
          rintro e w5 ⟨rfl, hb⟩
          have b5 := Lib.hid hb
          clear hb b0
          go_wp2_with fail
          refine (cLf.out w5 b5.out).mono ?_
          rintro e w' ⟨rfl, rfl⟩
          go_wp2_with fail
          refine (cKy.out w5 b5.out).mono ?_
          rintro e w' ⟨rfl, rfl⟩
          go_wp2_with fail
          refine (cW.out w5 b5.out).mono ?_
          rintro e w6 ⟨a6, rfl, -, hn6, -, hb⟩
          have n6 := Lib.hid (hN'.out.right w6 w6.heap.size a6 _ hn6)
          have b6 := Lib.hid (Below.after b5.out hb)
          clear hb hn6 b5
          go_wp2_with fail
          refine n6.out.mono ?_
          rintro e w' ⟨rfl, rfl⟩
          go_wp2_with fail
          refine (cHH.out w6 b6.out).mono ?_
          rintro e w7 ⟨rfl, hb⟩
          have b7 := Lib.hid (Below.after b4.out (Below.after b6.out hb))
          clear hb b6
          go_wp2_with fail
          refine (cA.out w7 b7.out).mono ?_
          rintro e w8 ⟨rfl, hb⟩
          have b8 := Lib.hid (Below.after b7.out hb)
          clear hb
          go_wp2
          go_ret
          exact ⟨rfl, b8.out⟩
end Go.Proofs.YtfndaeocdgcaeaaDoor
namespace Go.Proofs.YtfndaeocdgcaeaaDoor
open Go.ChangeShapes Go.WideShapes Go.ChangeAt Go.RowKit
open Treem in
theorem soundRises_any (o : Nat) (ho : o ≤ 255) (A : Option Addr) (n c : Nat) (l : List Bd) (hl : l.length = n) (hn : n ≤ c) (hc : c ≤ maxLen) (hz : A = none → c = 0) (w : World) (hr : Row w w.heap.size A (flat7 l)) (h0 : 0 < w.heap.size) (hs : Go.Proofs.YtfndaeocdgcaeaaDoor.Steps w) :
    Calls Tryd.prog 4 #[.int .u8 o, .slice A n c] w fun e w' => e = .returned (.bool true) ∧ Below w.heap.size w w' := by
  rcases long_or hl hn hc hz hr with h | ⟨h, t, ht⟩
  · exact soundRises_long node_says (sound_of node_says ord_says) ord_says o A n c w h ⟨h0, hs⟩
  · by_cases k : 1 ≤ o ∧ o ≤ 7
    · exact soundRises_yes node_says (sound_of node_says ord_says) ord_says o k.1 k.2 A n c l t w h ht ⟨h0, hs⟩
    · exact soundRises_out node_says (sound_of node_says ord_says) ord_says o A n c w h (by omega) ⟨h0, hs⟩

set_option maxRecDepth 100000 in
theorem soundRises_lifted (os : Os) (started : os.Started) (H : Type) (enc : TypeId × Value → H) :
    ReturnsInHanded {} Tryd.checked os 4 .any (fun w args => (Rows.soundRisesSpec.pre enc Tryd.prog Tryd.f4 [] false w args ∧ laidMetH Tryd.prog laid12 w) ∧ sizedMet enc Tryd.prog Tryd.f4 (OpenSpec.ofChange Rows.soundRisesSpec) false w args)
      (Rows.soundRisesSpec.post enc Tryd.prog Tryd.f4 false true false false) := by
  refine returnsInHanded_of_change_and (C := Tryd.checked) (X := fun w _ => laidMetH Tryd.prog laid12 w) (fun _ _ _ hh h => h.of_heap hh) own started (by kernel_rfl) Tryd.func4
    (ChangeSpec.witness_shaped (enc := enc) (C := Tryd.checked) (os := os) (X := fun w _ => laidMetH Tryd.prog laid12 w) false (World.doorLaid Tryd.prog 400 os) #[.int .u8 0, .slice none 0 0] 8 rfl (World.shaped_of_RefB (by kernel_rfl) (by kernel_rfl)) (by kernel_rfl) (by kernel_rfl) (by kernel_rfl) (door_met os _)) ?_
  intro W base args ds gs before hval0 hW _ _ hL _
  have hval : ∀ (j : Nat) t v, Tryd.f4.params[j]? = some t → args[j]? = some v → Value.okWide Tryd.prog W .any base t v := hval0
  have hW' := hW
  obtain ⟨p, q, hA0, hV, rfl, hfz, hnd⟩ := hW
  have hA : DataW.TrodAll enc Tryd.prog W 0 (fun _ => true) true Tryd.f4.params.toList args.toList ds p := hA0
  rw [Tryd.params4] at hA hval
  obtain ⟨v0, vs0, d0, ds0, p0, q0, hargs, rfl, rfl, h0, r0⟩ := trodAll_cons hA
  obtain ⟨v1, vs1, d1, ds1, p1, q1, rfl, rfl, rfl, h1, r1⟩ := trodAll_cons r0
  obtain ⟨rfl, rfl, rfl⟩ := trodAll_nil r1
  obtain rfl : args = #[v0, v1] := by cases args; simp_all
  obtain ⟨rfl, rfl⟩ := trodVars_none hV
  obtain ⟨a0, rfl, rfl, rfl, w0⟩ := open_int Tryd.underlying5 (hval 0 5 v0 rfl rfl) h0
  obtain ⟨b0, rfl, u0⟩ := byte_of a0 w0
  have k1 := h1
  have lt1 : ∀ x ∈ p1, x.block < W.heap.size := by obtain ⟨m, hm⟩ := k1; exact DataW.trod_lt m _ _ _ hm
  obtain ⟨A1, n1, c1, l1, rfl, hl1, hn1, hc1, hz1, hr1⟩ := open_beads (hval 1 22 v1 rfl rfl) h1
  obtain ⟨hz, hst⟩ := steps_of hL
  clear hA0 hval0
  refine (soundRises_any b0 u0 A1 n1 c1 l1 hl1 hn1 hc1 hz1 W hr1 hz hst).mono fun e W' ⟨he, bel⟩ => ?_
  subst he
  exact ⟨_, rfl, _, _, _, [], _, [], hW', trodAll_mk1 (shut_bool Tryd.underlying4 _), trodAll_cons_mk (shut_int Tryd.underlying5 w0) (trodAll_cons_mk (Below.trod laidOut (by kernel_rfl) (of_decide_eq_true (by kernel_rfl)) k1 bel lt1) trodAll_mk0), rfl, bel.frame _, fun h => by cases h⟩

theorem soundRises_row : Rows.SoundRisesSaid :=
  OpenClaim.holds_of_wide 4 Tryd.f4 rfl rfl rfl rfl rfl rfl rfl ⟨rfl, rfl, rfl, rfl, rfl⟩ rfl rfl rfl rfl rfl (by kernel_rfl) Tryd.func4 (by kernel_rfl)
    (of_decide_eq_true (by kernel_rfl)) (by unfold Func.isWrapper; first | (rw [if_pos (by decide +kernel)]; kernel_rfl) | (rw [if_neg (by decide +kernel)]; exact ⟨rfl, rfl⟩))
    (fun os started H enc _ => soundRises_lifted os started H enc)

theorem soundRises_holds : Rows.SoundRisesCardSaid :=
  Claim7.holds_tied_plain_at .later [] [.data] true Rows.soundRisesCard.stood.harness false
    soundRises_row (fun _ h => by cases h) (by kernel_rfl) (fun _ h => by cases h) soundRises_row_tie rfl ⟨rfl, rfl⟩ (by kernel_rfl) rfl
    (fun f fn hf hfn => by
      obtain rfl : f = 4 := Option.some.inj ((show Tryd.prog.funcNamed Rows.soundRisesRow.func = some 4 by kernel_rfl).symm.trans hf) |>.symm
      obtain rfl : fn = Tryd.f4 := (Option.some.inj (Tryd.func4.symm.trans hfn)).symm
      exact ⟨by kernel_rfl, fun j t ht => by
        rw [Tryd.params4] at ht
        have hm : t ∈ [5, 22] := by simpa using Array.mem_of_getElem? ht
        have hall : ([5, 22].all fun u => !Tryd.prog.wantsStandIn u) = true := by kernel_rfl
        exact (show Tryd.prog.wantsStandIn t = false by simpa using List.all_eq_true.1 hall t hm)⟩)
    (by kernel_rfl)
#print axioms soundRises_holds
end Go.Proofs.YtfndaeocdgcaeaaDoor
