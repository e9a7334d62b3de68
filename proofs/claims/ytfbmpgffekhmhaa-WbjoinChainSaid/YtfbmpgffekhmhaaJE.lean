/- Layer 19: the three statements, for whatever arguments. -/
import Derived.Test.YtfbmpgffekhmhaaJA
import Derived.Test.YtfbmpgffekhmhaaL9Stand
import Derived.Test.YtfbmpgffekhmhaaL9High
import Derived.Test.YtfbmpgffekhmhaaL9Rules
import Derived.Test.YtfbmpgffekhmhaaL9Steps
import Derived.Test.YtfbmpgffekhmhaaGTurns
import Derived.Test.YtfbmpgffekhmhaaGOwn
import Derived.Deep.Cut
import Derived.Test.YtfbmpgffekhmhaaGHeld
import Derived.Deep.RegionHeld3
/- Layer 19: the statement WbJoins, walked. Made by wip/gen/layer19.py. -/
namespace Go.Proofs.Ytfbmpgffekhmhaa
open Go.RowKit Go.Proofs.Rowm Go.Proofs.Treem Go.Proofs.Cardm
set_option maxRecDepth 100000
variable {Nd : NdP}

set_option maxHeartbeats 2000000 in
theorem wbJoins_long (hA : ∀ W : World, Calls Try.prog 7 #[] W fun e w' => e = .returned (.bool true) ∧ Below W.heap.size W w') (A A2 : Option Addr) (n c n2 c2 : Nat) (key val : BitVec 64) (w : World) (h : Long19 w A n c A2 n2 c2 true) : Calls Try.prog 3 #[.slice A n c, .slice A2 n2 c2, K key, K val] w fun e w' => e = .returned (.bool true) ∧ Below w.heap.size w w' := by
  have c0 := Lib.hid (h w (Below.refl _ _))
  have c9 := Lib.hid hA
  clear h hA
  go_enter Try.func3, Try.ntmps3
  go_wp2_with fail
  refine c0.out.mono ?_
  rintro e w1 ⟨rfl, hb⟩
  have b1 := Lib.hid hb
  clear hb
  go_wp2_with fail
  refine (c9.out w1).mono ?_
  rintro e w2 ⟨rfl, hb⟩
  have b2 := Lib.hid (Below.after b1.out hb)
  clear hb
  go_wp2
  go_ret
  exact ⟨rfl, b2.out⟩
set_option maxHeartbeats 8000000 in
theorem wbJoins_yes (hN : NodeSays Nd) (hS : WbjSays Nd) (hA : ∀ W : World, Calls Try.prog 7 #[] W fun e w' => e = .returned (.bool true) ∧ Below W.heap.size W w') (A A2 : Option Addr) (n c n2 c2 : Nat) (key val : BitVec 64) (l m : List Bd) (t u : Tr) (w : World) (h : Long19 w A n c A2 n2 c2 false) (ht : TreeIn w A n c l t) (hu : TreeIn w A2 n2 c2 m u) (e1 : mayW t = true) (e2 : mayW u = true) : Calls Try.prog 3 #[.slice A n c, .slice A2 n2 c2, K key, K val] w fun e w' => e = .returned (.bool true) ∧ Below w.heap.size w w' := by
  have c0 := Lib.hid (h w (Below.refl _ _))
  have cA := Lib.hid hA
  have cM := Lib.hid (ht.make hN)
  have cM2 := Lib.hid (hu.make hN)
  have cO := Lib.hid ht.of
  have cO2 := Lib.hid hu.of
  have hts : t.size ≤ 400 := by rw [ht.size]; exact ht.few
  have hus : u.size ≤ 400 := by rw [hu.size]; exact hu.few
  have hn := ht.size
  have hn2 := hu.size
  obtain ⟨N, hNN⟩ : ∃ N, n + 1 + n2 = N := ⟨_, rfl⟩
  have cJ : Hid (∀ W p q, TreeAt Nd W W.heap.size t p → TreeAt Nd W W.heap.size u q → Calls Try.prog 11 #[.pointer p, K key, K val, .pointer q] W fun e w' => ∃ J pj, e = .returned (.pointer pj) ∧ TreeAt Nd w' w'.heap.size J pj ∧ (mayW J = true ∧ J.size = N ∧ J.pairs = t.pairs ++ (key, val) :: u.pairs ∧ True) ∧ Below W.heap.size W w') := fun W p q h1 h2 => by
    obtain ⟨L, rfl, hL, rfl⟩ := AT.of_tree t p h1
    obtain ⟨R, rfl, hR, rfl⟩ := AT.of_tree u q h2
    refine (hS.join W L R key val ⟨hL, h1⟩ ⟨hR, h2⟩ e1 e2 (by omega) (by omega)).mono ?_
    rintro e w' ⟨J, rfl, k1, k2, k3, -, -, k5⟩
    exact ⟨J.tr, J.ptr, rfl, k1.tree, ⟨k2, by rw [← pairs_len, k3, List.length_append, List.length_cons, pairs_len, pairs_len, hn, hn2]; omega, k3, trivial⟩, k5⟩
  have cI := Lib.hid (fun p A c W hT hl => Is9 hN t p (by omega) A n c hn W hT hl)
  have cI2 := Lib.hid (fun p A c W hT hl => Is9 hN u p (by omega) A n2 c hn2 W hT hl)
  have hN' := Lib.hid hN
  have hNf : N ≤ 801 := by omega
  have hf1 : n ≤ 400 := by omega
  have hf2 : n2 ≤ 400 := by omega
  have Hn := Lib.hid hn
  have Hn2 := Lib.hid hn2
  have HNN := Lib.hid hNN
  clear hNN hn hn2 hN hS hA h ht hu hts hus e1 e2
  go_enter Try.func3, Try.ntmps3
  have B_0 := Lib.hid (Below.refl w.heap.size w)
  go_wp2_with fail
  refine (c0.out).mono ?_
  rintro e w1 ⟨rfl, hb⟩
  have B_1 := Lib.hid (Below.after B_0.out hb)
  clear B_0
  clear hb
  go_wp2_with fail
  refine (cM.out w1 B_1.out).mono ?_
  rintro e w2 ⟨p, rfl, hP, hb⟩
  have B_2 := Lib.hid (Below.after B_1.out hb)
  clear B_1
  have P_2 := Lib.hid hP
  clear hP
  clear hb
  go_wp2_with fail
  refine (cM2.out w2 B_2.out).mono ?_
  rintro e w3 ⟨q, rfl, hQ, hb⟩
  have P_3 := Lib.hid (P_2.out.after hN'.out hb)
  have B_3 := Lib.hid (Below.after B_2.out hb)
  clear P_2 B_2
  have Q_3 := Lib.hid hQ
  clear hQ
  clear hb
  go_wp2_with fail
  refine (cO.out w3 B_3.out).mono ?_
  rintro e w4 ⟨A3, c3, rfl, hX, hb⟩
  have P_4 := Lib.hid (P_3.out.after hN'.out hb)
  have Q_4 := Lib.hid (Q_3.out.after hN'.out hb)
  have B_4 := Lib.hid (Below.after B_3.out hb)
  clear P_3 Q_3 B_3
  have X_4 := Lib.hid hX
  clear hX
  clear hb
  go_wp2_with fail
  refine (cO2.out w4 B_4.out).mono ?_
  rintro e w5 ⟨A4, c4, rfl, hY, hb⟩
  have P_5 := Lib.hid (P_4.out.after hN'.out hb)
  have Q_5 := Lib.hid (Q_4.out.after hN'.out hb)
  have X_5 := Lib.hid (X_4.out.after hb)
  have B_5 := Lib.hid (Below.after B_4.out hb)
  clear P_4 Q_4 X_4 B_4
  have Y_5 := Lib.hid hY
  clear hY
  clear hb
  go_wp2_with fail
  refine (cJ.out w5 _ _ P_5.out Q_5.out).mono ?_
  rintro e w6 ⟨J, pj, rfl, hJ, hK, hb⟩
  have P_6 := Lib.hid (P_5.out.after hN'.out hb)
  have Q_6 := Lib.hid (Q_5.out.after hN'.out hb)
  have X_6 := Lib.hid (X_5.out.after hb)
  have Y_6 := Lib.hid (Y_5.out.after hb)
  have B_6 := Lib.hid (Below.after B_5.out hb)
  clear P_5 Q_5 X_5 Y_5 B_5
  have J_6 := Lib.hid hJ
  clear hJ
  clear hb
  have KK := Lib.hid hK
  clear hK
  have hJs := KK.out.2.1
  go_wp2_with fail
  refine (See9 hN'.out J pj (by rw [hJs]; omega) w6 J_6.out).mono ?_
  rintro e w7 ⟨v5, rfl, ho, hb⟩
  have P_7 := Lib.hid (P_6.out.after hN'.out hb)
  have Q_7 := Lib.hid (Q_6.out.after hN'.out hb)
  have X_7 := Lib.hid (X_6.out.after hb)
  have Y_7 := Lib.hid (Y_6.out.after hb)
  have J_7 := Lib.hid (J_6.out.after hN'.out hb)
  have B_7 := Lib.hid (Below.after B_6.out hb)
  clear P_6 Q_6 X_6 Y_6 J_6 B_6
  clear hb
  rw [hJs] at ho
  obtain ⟨A5, c5, rfl, hZ⟩ := LieB.of_own (by rw [told_len, hJs]) (by omega) ho
  have Z_8 := Lib.hid hZ
  clear ho hZ
  go_wp2_with fail
  refine (refJoined19 t u J key val A3 A4 A5 n n2 c3 c4 c5 t.told u.told J.told (told_strip t) (told_strip u) (told_strip J) Hn.out Hn2.out hf1 hf2 KK.out.1 KK.out.2.2.1 N HNN.out w7 X_7.out Y_7.out Z_8.out).mono ?_
  rintro e w9 ⟨rfl, hb⟩
  have P_9 := Lib.hid (P_7.out.after hN'.out hb)
  have Q_9 := Lib.hid (Q_7.out.after hN'.out hb)
  have X_9 := Lib.hid (X_7.out.after hb)
  have Y_9 := Lib.hid (Y_7.out.after hb)
  have J_9 := Lib.hid (J_7.out.after hN'.out hb)
  have Z_9 := Lib.hid (Z_8.out.after hb)
  have B_9 := Lib.hid (Below.after B_7.out hb)
  clear P_7 Q_7 X_7 Y_7 J_7 Z_8 B_7
  clear hb
  go_wp2_with fail
  refine (of9 J A5 N c5 w9.heap.size J.told (told_strip J) hJs (by omega) w9 (Nat.le_refl _) Z_9.out).mono ?_
  rintro e w10 ⟨v6, rfl, ho, hb⟩
  have P_10 := Lib.hid (P_9.out.after hN'.out hb)
  have Q_10 := Lib.hid (Q_9.out.after hN'.out hb)
  have X_10 := Lib.hid (X_9.out.after hb)
  have Y_10 := Lib.hid (Y_9.out.after hb)
  have J_10 := Lib.hid (J_9.out.after hN'.out hb)
  have Z_10 := Lib.hid (Z_9.out.after hb)
  have B_10 := Lib.hid (Below.after B_9.out hb)
  clear P_9 Q_9 X_9 Y_9 J_9 Z_9 B_9
  clear hb
  obtain ⟨A6, c6, rfl, hU⟩ := LieB.of_own (by rw [told_len, hJs]) (by omega) ho
  have U_11 := Lib.hid hU
  clear ho hU
  go_wp2_with fail
  refine (same9_yes A5 A6 N c5 c6 J.told w10 Z_10.out U_11.out).mono ?_
  rintro e w12 ⟨rfl, hb⟩
  have P_12 := Lib.hid (P_10.out.after hN'.out hb)
  have Q_12 := Lib.hid (Q_10.out.after hN'.out hb)
  have X_12 := Lib.hid (X_10.out.after hb)
  have Y_12 := Lib.hid (Y_10.out.after hb)
  have J_12 := Lib.hid (J_10.out.after hN'.out hb)
  have Z_12 := Lib.hid (Z_10.out.after hb)
  have U_12 := Lib.hid (U_11.out.after hb)
  have B_12 := Lib.hid (Below.after B_10.out hb)
  clear P_10 Q_10 X_10 Y_10 J_10 Z_10 U_11 B_10
  clear hb
  go_wp2_with fail
  refine (cI.out _ _ _ w12 P_12.out X_12.out).mono ?_
  rintro e w13 ⟨rfl, hb⟩
  have P_13 := Lib.hid (P_12.out.after hN'.out hb)
  have Q_13 := Lib.hid (Q_12.out.after hN'.out hb)
  have X_13 := Lib.hid (X_12.out.after hb)
  have Y_13 := Lib.hid (Y_12.out.after hb)
  have J_13 := Lib.hid (J_12.out.after hN'.out hb)
  have Z_13 := Lib.hid (Z_12.out.after hb)
  have U_13 := Lib.hid (U_12.out.after hb)
  have B_13 := Lib.hid (Below.after B_12.out hb)
  clear P_12 Q_12 X_12 Y_12 J_12 Z_12 U_12 B_12
  clear hb
  go_wp2_with fail
  refine (cI2.out _ _ _ w13 Q_13.out Y_13.out).mono ?_
  rintro e w14 ⟨rfl, hb⟩
  have P_14 := Lib.hid (P_13.out.after hN'.out hb)
  have Q_14 := Lib.hid (Q_13.out.after hN'.out hb)
  have X_14 := Lib.hid (X_13.out.after hb)
  have Y_14 := Lib.hid (Y_13.out.after hb)
  have J_14 := Lib.hid (J_13.out.after hN'.out hb)
  have Z_14 := Lib.hid (Z_13.out.after hb)
  have U_14 := Lib.hid (U_13.out.after hb)
  have B_14 := Lib.hid (Below.after B_13.out hb)
  clear P_13 Q_13 X_13 Y_13 J_13 Z_13 U_13 B_13
  clear hb
  go_wp2_with fail
  refine (cA.out w14).mono ?_
  rintro e w15 ⟨rfl, hb⟩
  have P_15 := Lib.hid (P_14.out.after hN'.out hb)
  have Q_15 := Lib.hid (Q_14.out.after hN'.out hb)
  have X_15 := Lib.hid (X_14.out.after hb)
  have Y_15 := Lib.hid (Y_14.out.after hb)
  have J_15 := Lib.hid (J_14.out.after hN'.out hb)
  have Z_15 := Lib.hid (Z_14.out.after hb)
  have U_15 := Lib.hid (U_14.out.after hb)
  have B_15 := Lib.hid (Below.after B_14.out hb)
  clear P_14 Q_14 X_14 Y_14 J_14 Z_14 U_14 B_14
  clear hb
  go_wp2
  go_ret
  exact ⟨rfl, B_15.out⟩
end Go.Proofs.Ytfbmpgffekhmhaa
/- What package share has to answer (layer 13); the chapter's example (alive). -/
namespace Go.Proofs.Ytfbmpgffekhmhaa
open Go.RowKit Go.Proofs.Treem Go.Proofs.Cardm
set_option maxRecDepth 100000
variable {Nd : NdP}

theorem Stand.lt (hN : NodeSays Nd) {W : World} {T : AT} (h : Stand Nd W T) : ∀ a ∈ T.addrs, a.block < W.heap.size := h.lies.lt hN
/-- whether a pointer leads to one of those places -/
def inB : Option Addr → List Addr → Bool
  | none, _ => false
  | some a, l => decide (a ∈ l)
/-- what the functions of package share have to answer (of few nodes) -/
structure ShareSays (Nd : NdP) : Prop where
  new : ∀ (w : World) (T : AT) (os : List AT) (A : Option Addr) (n c : Nat), Stand Nd w T → (∀ U ∈ os, Stand Nd w U) → LieP w w.heap.size A n c (os.map AT.ptr) → n ≤ 2000 → card (addrsOf os ++ T.addrs) ≤ 2000 →
    Calls Try.prog 17 #[.pointer T.ptr, .slice A n c] w fun e w' => e = .returned (nI (newC T.addrs (addrsOf os))) ∧ Below w.heap.size w w'
theorem one_lit (w : World) (t : TypeId) (p : Option Addr) : LieP (w.alloc (.cells #[.pointer p] t)) (w.alloc (.cells #[.pointer p] t)).heap.size (some ⟨w.heap.size, 0, none⟩) 1 1 [p] := LieP.lit [p] (Has.new w t #[.pointer p]) (by unfold maxLen; simp)
end Go.Proofs.Ytfbmpgffekhmhaa
/- Layer 19: the statement WbjoinShares, walked. Made by wip/gen/layer19.py. -/
namespace Go.Proofs.Ytfbmpgffekhmhaa
open Go.RowKit Go.Proofs.Rowm Go.Proofs.Treem Go.Proofs.Cardm
set_option maxRecDepth 100000
variable {Nd : NdP}

set_option maxHeartbeats 2000000 in
theorem wbjoinShares_long (hA : ∀ W : World, Calls Try.prog 7 #[] W fun e w' => e = .returned (.bool true) ∧ Below W.heap.size W w') (A A2 : Option Addr) (n c n2 c2 : Nat) (key val : BitVec 64) (w : World) (h : Long19 w A n c A2 n2 c2 true) : Calls Try.prog 4 #[.slice A n c, .slice A2 n2 c2, K key, K val] w fun e w' => e = .returned (.bool true) ∧ Below w.heap.size w w' := by
  have c0 := Lib.hid (h w (Below.refl _ _))
  have c9 := Lib.hid hA
  clear h hA
  go_enter Try.func4, Try.ntmps4
  go_wp2_with fail
  refine c0.out.mono ?_
  rintro e w1 ⟨rfl, hb⟩
  have b1 := Lib.hid hb
  clear hb
  go_wp2_with fail
  refine (c9.out w1).mono ?_
  rintro e w2 ⟨rfl, hb⟩
  have b2 := Lib.hid (Below.after b1.out hb)
  clear hb
  go_wp2
  go_ret
  exact ⟨rfl, b2.out⟩
set_option maxHeartbeats 8000000 in
theorem wbjoinShares_yes (hN : NodeSays Nd) (hS : WbjSays Nd) (hW : ShareSays Nd) (hA : ∀ W : World, Calls Try.prog 7 #[] W fun e w' => e = .returned (.bool true) ∧ Below W.heap.size W w') (A A2 : Option Addr) (n c n2 c2 : Nat) (key val : BitVec 64) (l m : List Bd) (t u : Tr) (w : World) (h : Long19 w A n c A2 n2 c2 false) (ht : TreeIn w A n c l t) (hu : TreeIn w A2 n2 c2 m u) (e1 : mayW t = true) (e2 : mayW u = true) : Calls Try.prog 4 #[.slice A n c, .slice A2 n2 c2, K key, K val] w fun e w' => e = .returned (.bool true) ∧ Below w.heap.size w w' := by
  have c0 := Lib.hid (h w (Below.refl _ _))
  have cA := Lib.hid hA
  have mk : ∀ (A : Option Addr) (n c : Nat) (l : List Bd) (t : Tr), TreeIn w A n c l t → Hid (∀ W, Below w.heap.size w W → Calls Try.prog 8 #[.slice A n c] W fun e w' => ∃ L : AT, e = .returned (.pointer L.ptr) ∧ Stand Nd w' L ∧ L.tr = t ∧ Below W.heap.size W w') := fun A n c l t ht W hb => (ht.make hN W hb).mono (by
    rintro e w' ⟨p, rfl, k1, k2⟩
    obtain ⟨L, rfl, k3, rfl⟩ := AT.of_tree t p k1
    exact ⟨L, rfl, ⟨k3, k1⟩, rfl, k2⟩)
  have cM := mk A n c l t ht
  have cM2 := mk A2 n2 c2 m u hu
  have hts : t.size ≤ 400 := by rw [ht.size]; exact ht.few
  have hus : u.size ≤ 400 := by rw [hu.size]; exact hu.few
  have cR : Hid (∀ W, Below w.heap.size w W → Calls Try.prog 16 #[.slice A n c, .slice A2 n2 c2] W fun e w' => e = .returned (nI (mostW t u)) ∧ W = w') := fun W hb => refMost19 t u A A2 n n2 c c2 ht.size hu.size (by have := ht.few; omega) (by have := hu.few; omega) W
  have hN' := Lib.hid hN
  have hS' := Lib.hid hS
  have hW' := Lib.hid hW
  have E1 := Lib.hid e1
  have E2 := Lib.hid e2
  have S1 := Lib.hid hts
  have S2 := Lib.hid hus
  clear mk hN hS hW hA h ht hu hts hus e1 e2
  go_enter Try.func4, Try.ntmps4
  have B_0 := Lib.hid (Below.refl w.heap.size w)
  go_wp2_with fail
  refine (c0.out).mono ?_
  rintro e w1 ⟨rfl, hb⟩
  have B_1 := Lib.hid (Below.after B_0.out hb)
  clear B_0
  clear hb
  go_wp2_with fail
  refine (cM.out w1 B_1.out).mono ?_
  rintro e w2 ⟨L, rfl, hP, hLt, hb⟩
  have B_2 := Lib.hid (Below.after B_1.out hb)
  clear B_1
  have P_2 := Lib.hid hP
  clear hP
  clear hb
  go_wp2_with fail
  refine (cM2.out w2 B_2.out).mono ?_
  rintro e w3 ⟨R, rfl, hQ, hRt, hb⟩
  have P_3 := Lib.hid (P_2.out.after hN'.out hb)
  have B_3 := Lib.hid (Below.after B_2.out hb)
  clear P_2 B_2
  have Q_3 := Lib.hid hQ
  clear hQ
  clear hb
  have LT := Lib.hid hLt
  have RT := Lib.hid hRt
  clear hLt hRt
  go_wp2_with fail
  refine (hS'.out.join w3 L R key val P_3.out Q_3.out (LT.out ▸ E1.out) (RT.out ▸ E2.out) (by rw [LT.out]; have := S1.out; omega) (by rw [RT.out]; have := S2.out; omega)).mono ?_
  rintro e w4 ⟨J, rfl, hJ, -, hPr, hge, hle, hb⟩
  have P_4 := Lib.hid (P_3.out.after hN'.out hb)
  have Q_4 := Lib.hid (Q_3.out.after hN'.out hb)
  have B_4 := Lib.hid (Below.after B_3.out hb)
  clear P_3 Q_3 B_3
  have J_4 := Lib.hid hJ
  clear hJ
  clear hb
  rw [LT.out, RT.out] at hle
  have hcard : card (addrsOf [L, R] ++ J.addrs) ≤ 2000 := by
    refine Nat.le_trans (card_le _) ?_
    have k1 : J.tr.size = L.tr.size + 1 + R.tr.size := by rw [← pairs_len, hPr, List.length_append, List.length_cons, pairs_len, pairs_len]; omega
    have s1 := S1.out
    have s2 := S2.out
    rw [← LT.out] at s1
    rw [← RT.out] at s2
    rw [List.length_append, addrs_size, k1]
    simp only [addrsOf, List.flatMap_cons, List.flatMap_nil, List.length_append, List.length_nil, addrs_size]
    omega
  have HC := Lib.hid hcard
  clear hcard hPr
  obtain ⟨nw, hnw⟩ : ∃ x, newC J.addrs (addrsOf [L, R]) = x := ⟨_, rfl⟩
  rw [hnw] at hge hle
  obtain ⟨mo, hmo⟩ : ∃ x, mostW t u = x := ⟨_, rfl⟩
  rw [hmo] at hle cR
  have HNW := Lib.hid hnw
  have HMO := Lib.hid hmo
  clear hnw hmo
  have d1 : decide ((nw : Int) ≤ (mo : Int)) = true := decide_eq_true (by omega)
  have d2 : decide ((1 : Int) ≤ (nw : Int)) = true := decide_eq_true (by omega)
  have d3 : nw ≤ mo := hle
  have d4 : 1 ≤ nw := hge
  go_wp2_with fail
  have cMo : Hid (Calls Try.prog 15 #[.pointer L.ptr, .pointer R.ptr] w4 fun e w' => e = .returned (nI mo) ∧ Below w4.heap.size w4 w') := by
    have := hS'.out.most w4 L.tr R.tr _ _ (P_4.out).tree (Q_4.out).tree (by rw [LT.out]; have := S1.out; omega) (by rw [RT.out]; have := S2.out; omega)
    rw [LT.out, RT.out, HMO.out] at this
    exact this
  refine (cMo.out).mono ?_
  rintro e w5 ⟨rfl, hb⟩
  have P_5 := Lib.hid (P_4.out.after hN'.out hb)
  have Q_5 := Lib.hid (Q_4.out.after hN'.out hb)
  have J_5 := Lib.hid (J_4.out.after hN'.out hb)
  have B_5 := Lib.hid (Below.after B_4.out hb)
  clear P_4 Q_4 J_4 B_4
  clear hb
  go_wp2_with fail
  refine (cR.out w5 B_5.out).mono ?_
  rintro e w' ⟨rfl, rfl⟩
  obtain ⟨g6, hg6⟩ : ∃ g, w5.heap.size = g := ⟨_, rfl⟩
  obtain ⟨u6, hu6⟩ : ∃ u, w5.alloc (.cells #[.pointer L.ptr, .pointer R.ptr] 25) = u := ⟨_, rfl⟩
  have l6 : LieP u6 u6.heap.size (some ⟨g6, 0, none⟩) 2 2 [L.ptr, R.ptr] := hg6 ▸ hu6 ▸ LieP.lit [L.ptr, R.ptr] (Has.new w5 25 #[.pointer L.ptr, .pointer R.ptr]) (by unfold maxLen; simp)
  have bl : Below w5.heap.size w5 u6 := hu6 ▸ (Below.refl _ _).alloc (Nat.le_refl _) _
  have HU6 := Lib.hid hu6
  have HG6 := Lib.hid hg6
  have P_6 := Lib.hid (P_5.out.after hN'.out bl)
  have Q_6 := Lib.hid (Q_5.out.after hN'.out bl)
  have J_6 := Lib.hid (J_5.out.after hN'.out bl)
  have B_6 := Lib.hid (Below.after B_5.out bl)
  clear P_5 Q_5 J_5 B_5
  have cN : Hid (Calls Try.prog 17 #[.pointer J.ptr, .slice (some ⟨g6, 0, none⟩) 2 2] u6 fun e w' => e = .returned (nI nw) ∧ Below u6.heap.size u6 w') := by
    have := hW'.out.new u6 J [L, R] (some ⟨g6, 0, none⟩) 2 2 (J_6.out) (fun U hU => by rcases List.mem_cons.1 hU with rfl | hU; exact P_6.out; rw [List.mem_singleton.1 hU]; exact Q_6.out) l6 (by decide) HC.out
    rw [HNW.out] at this
    exact this
  clear bl hu6 hg6 l6
  go_wp2_with fail
  rw [HU6.out, HG6.out]
  refine (cN.out).mono ?_
  rintro e w7 ⟨rfl, hb⟩
  have P_7 := Lib.hid (P_6.out.after hN'.out hb)
  have Q_7 := Lib.hid (Q_6.out.after hN'.out hb)
  have J_7 := Lib.hid (J_6.out.after hN'.out hb)
  have B_7 := Lib.hid (Below.after B_6.out hb)
  clear P_6 Q_6 J_6 B_6
  clear hb
  clear cN
  obtain ⟨g8, hg8⟩ : ∃ g, w7.heap.size = g := ⟨_, rfl⟩
  obtain ⟨u8, hu8⟩ : ∃ u, w7.alloc (.cells #[.pointer L.ptr, .pointer R.ptr] 25) = u := ⟨_, rfl⟩
  have l8 : LieP u8 u8.heap.size (some ⟨g8, 0, none⟩) 2 2 [L.ptr, R.ptr] := hg8 ▸ hu8 ▸ LieP.lit [L.ptr, R.ptr] (Has.new w7 25 #[.pointer L.ptr, .pointer R.ptr]) (by unfold maxLen; simp)
  have bl : Below w7.heap.size w7 u8 := hu8 ▸ (Below.refl _ _).alloc (Nat.le_refl _) _
  have HU8 := Lib.hid hu8
  have HG8 := Lib.hid hg8
  have P_8 := Lib.hid (P_7.out.after hN'.out bl)
  have Q_8 := Lib.hid (Q_7.out.after hN'.out bl)
  have J_8 := Lib.hid (J_7.out.after hN'.out bl)
  have B_8 := Lib.hid (Below.after B_7.out bl)
  clear P_7 Q_7 J_7 B_7
  have cN : Hid (Calls Try.prog 17 #[.pointer J.ptr, .slice (some ⟨g8, 0, none⟩) 2 2] u8 fun e w' => e = .returned (nI nw) ∧ Below u8.heap.size u8 w') := by
    have := hW'.out.new u8 J [L, R] (some ⟨g8, 0, none⟩) 2 2 (J_8.out) (fun U hU => by rcases List.mem_cons.1 hU with rfl | hU; exact P_8.out; rw [List.mem_singleton.1 hU]; exact Q_8.out) l8 (by decide) HC.out
    rw [HNW.out] at this
    exact this
  clear bl hu8 hg8 l8
  go_wp2_with fail
  rw [HU8.out, HG8.out]
  refine (cN.out).mono ?_
  rintro e w9 ⟨rfl, hb⟩
  have P_9 := Lib.hid (P_8.out.after hN'.out hb)
  have Q_9 := Lib.hid (Q_8.out.after hN'.out hb)
  have J_9 := Lib.hid (J_8.out.after hN'.out hb)
  have B_9 := Lib.hid (Below.after B_8.out hb)
  clear P_8 Q_8 J_8 B_8
  clear hb
  clear cN
  go_wp2_with fail
  refine (cA.out w9).mono ?_
  rintro e w10 ⟨rfl, hb⟩
  have P_10 := Lib.hid (P_9.out.after hN'.out hb)
  have Q_10 := Lib.hid (Q_9.out.after hN'.out hb)
  have J_10 := Lib.hid (J_9.out.after hN'.out hb)
  have B_10 := Lib.hid (Below.after B_9.out hb)
  clear P_9 Q_9 J_9 B_9
  clear hb
  go_wp2
  go_ret
  exact ⟨rfl, B_10.out⟩
end Go.Proofs.Ytfbmpgffekhmhaa
/- Layer 19: the chapter's examples (alive). Made by wip/gen/layer19.py. -/
namespace Go.Proofs.Ytfbmpgffekhmhaa
open Go.RowKit Go.Proofs.Rowm Go.Proofs.Treem Go.Proofs.Cardm
set_option maxRecDepth 100000
variable {Nd : NdP}

/-- what a join of two answers, for those who ask for no more -/
theorem WbjSays.few (hS : WbjSays Nd) (w : World) (L R : AT) (k v : BitVec 64) (P : List (BitVec 64 × BitVec 64)) (hl : Stand Nd w L) (hr : Stand Nd w R) (e1 : mayW L.tr = true) (e2 : mayW R.tr = true) (hP : L.tr.pairs ++ (k, v) :: R.tr.pairs = P) (hs : P.length ≤ 1000) :
    Calls Try.prog 11 #[.pointer L.ptr, K k, K v, .pointer R.ptr] w fun e w' => ∃ J : AT, e = .returned (.pointer J.ptr) ∧ Stand Nd w' J ∧ (mayW J.tr = true ∧ J.tr.pairs = P) ∧ Below w.heap.size w w' := by
  have hlen := congrArg List.length hP
  rw [List.length_append, List.length_cons, pairs_len, pairs_len] at hlen
  refine (hS.join w L R k v hl hr e1 e2 (by omega) (by omega)).mono ?_
  rintro e w' ⟨J, rfl, k1, k2, k3, -, -, k5⟩
  exact ⟨J, rfl, k1, ⟨k2, k3.trans hP⟩, k5⟩
/-- three nodes in balance: the middle one is the root -/
theorem may_three {J : Tr} {a b c : BitVec 64 × BitVec 64} (h : mayW J = true) (hp : J.pairs = [a, b, c]) : ∃ l v g r, J = .n l b.1 v g r := by
  cases J with
  | e => cases hp
  | n l k v g r =>
    obtain ⟨⟨-, h1⟩, -, -⟩ := mayW_n.1 h
    have hs : (Tr.n l k v g r).size = 3 := by rw [← pairs_len, hp]; rfl
    rw [Tr.size] at hs
    rw [likeT_iff (by omega) (by omega)] at h1
    have hl : l.pairs.length = 1 := by rw [pairs_len]; omega
    rw [Tr.pairs] at hp
    obtain ⟨x, hx⟩ := List.length_eq_one_iff.1 hl
    rw [hx] at hp
    simp only [List.cons_append, List.nil_append, List.cons.injEq] at hp
    obtain ⟨-, hk, -⟩ := hp
    exact ⟨l, v, g, r, by rw [← hk]⟩
set_option maxHeartbeats 8000000 in
theorem alive19_any (hN : NodeSays Nd) (hV : WbSays Nd) (hS : WbjSays Nd) (w : World) : Calls Try.prog 7 #[] w fun e w' => e = .returned (.bool true) ∧ Below w.heap.size w w' := by
  have c1 : Hid (Calls Try.prog 11 #[.pointer none, .int .i64 1, .int .i64 10, .pointer none] w fun e w' => ∃ J : AT, e = .returned (.pointer J.ptr) ∧ Stand Nd w' J ∧ (mayW J.tr = true ∧ J.tr.pairs = [(1#64, 10#64)]) ∧ Below w.heap.size w w') := hS.few w .e .e 1#64 10#64 _ (Stand.none_ w) (Stand.none_ w) rfl rfl rfl (by decide)
  have c2 : Hid (∀ W (L : AT), Stand Nd W L → mayW L.tr = true → L.tr.pairs = [(1#64, 10#64)] → Calls Try.prog 11 #[.pointer L.ptr, .int .i64 2, .int .i64 20, .pointer none] W fun e w' => ∃ J : AT, e = .returned (.pointer J.ptr) ∧ Stand Nd w' J ∧ (mayW J.tr = true ∧ J.tr.pairs = [(1#64, 10#64), (2#64, 20#64)]) ∧ Below W.heap.size W w') := fun W L h1 h2 h3 => hS.few W L .e 2#64 20#64 _ h1 (Stand.none_ W) h2 rfl (by rw [h3]; rfl) (by decide)
  have c3 : Hid (∀ W (L : AT), Stand Nd W L → mayW L.tr = true → L.tr.pairs = [(1#64, 10#64), (2#64, 20#64)] → Calls Try.prog 11 #[.pointer L.ptr, .int .i64 3, .int .i64 30, .pointer none] W fun e w' => ∃ J : AT, e = .returned (.pointer J.ptr) ∧ Stand Nd w' J ∧ (mayW J.tr = true ∧ J.tr.pairs = [(1#64, 10#64), (2#64, 20#64), (3#64, 30#64)]) ∧ Below W.heap.size W w') := fun W L h1 h2 h3 => hS.few W L .e 3#64 30#64 _ h1 (Stand.none_ W) h2 rfl (by rw [h3]; rfl) (by decide)
  have c4 : Hid (∀ W (J : AT), Stand Nd W J → J.tr.pairs = [(1#64, 10#64)] → Calls Try.prog 20 #[.pointer J.ptr] W fun e w' => e = .returned (.int .i64 1) ∧ Below W.heap.size W w') := fun W J h1 h3 => by
    have hs : J.tr.size = 1 := by rw [← pairs_len, h3]; rfl
    have := h1.tree.look.size hN
    rw [hs] at this
    exact this
  have c5 : Hid (∀ W (J : AT), Stand Nd W J → J.tr.pairs = [(1#64, 10#64), (2#64, 20#64)] → Calls Try.prog 20 #[.pointer J.ptr] W fun e w' => e = .returned (.int .i64 2) ∧ Below W.heap.size W w') := fun W J h1 h3 => by
    have hs : J.tr.size = 2 := by rw [← pairs_len, h3]; rfl
    have := h1.tree.look.size hN
    rw [hs] at this
    exact this
  have c6 : Hid (∀ W (J : AT), Stand Nd W J → mayW J.tr = true → J.tr.pairs = [(1#64, 10#64), (2#64, 20#64), (3#64, 30#64)] → Calls Try.prog 23 #[.pointer J.ptr] W fun e w' => e = .returned (.int .i64 2) ∧ Below W.heap.size W w') := fun W J h1 h2 h3 => by
    obtain ⟨l, v, g, r, e⟩ := may_three h2 h3
    have ht := h1.tree
    rw [e] at ht
    obtain ⟨a, pl, pr, e2, k2, -, -⟩ := ht
    rw [e2]
    exact (hN.key W _ a _ k2).mono (by rintro e w' ⟨rfl, rfl⟩; exact ⟨rfl, Below.refl _ _⟩)
  have c7 : Hid (∀ W (J : AT), Stand Nd W J → J.tr.pairs = [(1#64, 10#64), (2#64, 20#64), (3#64, 30#64)] → Calls Try.prog 18 #[.pointer J.ptr] W fun e w' => e = .returned (.int .i64 60) ∧ Below W.heap.size W w') := fun W J h1 h3 => by
    have := h1.tree.look.sum hN
    rw [sum_pairs, h3] at this
    exact this
  have c8 : Hid (∀ W (J : AT), Stand Nd W J → mayW J.tr = true → J.tr.pairs = [(1#64, 10#64), (2#64, 20#64), (3#64, 30#64)] → Calls Try.prog 19 #[.pointer J.ptr] W fun e w' => e = .returned (.bool true) ∧ Below W.heap.size W w') := fun W J h1 h2 h3 => by
    have hs : J.tr.size = 3 := by rw [← pairs_len, h3]; rfl
    have := hV.may W J.tr J.ptr h1.tree (by omega)
    rw [h2] at this
    exact this
  have c9 : Hid (∀ W (J : AT), Stand Nd W J → J.tr.pairs = [(1#64, 10#64), (2#64, 20#64), (3#64, 30#64)] → Calls Try.prog 15 #[.pointer J.ptr, .pointer none] W fun e w' => e = .returned (.int .i64 13) ∧ Below W.heap.size W w') := fun W J h1 h3 => by
    have hs : J.tr.size = 3 := by rw [← pairs_len, h3]; rfl
    have := hS.most W J.tr .e J.ptr none h1.tree rfl (by omega) (by decide)
    rw [show mostW J.tr .e = 13 from by unfold mostW; rw [hs]; decide] at this
    exact this
  have hN' := Lib.hid hN
  clear hN hV hS
  go_enter Try.func7, Try.ntmps7
  have B_0 := Lib.hid (Below.refl w.heap.size w)
  go_wp2_with fail
  refine (c1.out).mono ?_
  rintro e w1 ⟨a, rfl, hT, ha, hb⟩
  have B_1 := Lib.hid (Below.after B_0.out hb)
  clear B_0
  have A_1 := Lib.hid hT
  clear hT
  clear hb
  have ea := Lib.hid ha
  clear ha
  go_wp2_with fail
  refine (c2.out w1 a A_1.out ea.out.1 ea.out.2).mono ?_
  rintro e w2 ⟨b, rfl, hT, hq, hb⟩
  have A_2 := Lib.hid (A_1.out.after hN'.out hb)
  have B_2 := Lib.hid (Below.after B_1.out hb)
  clear A_1 B_1
  have D_2 := Lib.hid hT
  clear hT
  clear hb
  have eb := Lib.hid hq
  clear hq
  go_wp2_with fail
  refine (c3.out w2 b D_2.out eb.out.1 eb.out.2).mono ?_
  rintro e w3 ⟨c, rfl, hT, hq, hb⟩
  have A_3 := Lib.hid (A_2.out.after hN'.out hb)
  have D_3 := Lib.hid (D_2.out.after hN'.out hb)
  have B_3 := Lib.hid (Below.after B_2.out hb)
  clear A_2 D_2 B_2
  have E_3 := Lib.hid hT
  clear hT
  clear hb
  have ec := Lib.hid hq
  clear hq
  have hcs : c.tr.size = 3 := by rw [← pairs_len, ec.out.2]; rfl
  go_wp2_with fail
  refine (See9 hN'.out c.tr c.ptr (by rw [hcs]; decide) w3 (E_3.out).tree).mono ?_
  rintro e w4 ⟨v4, rfl, ho, hb⟩
  have A_4 := Lib.hid (A_3.out.after hN'.out hb)
  have D_4 := Lib.hid (D_3.out.after hN'.out hb)
  have E_4 := Lib.hid (E_3.out.after hN'.out hb)
  have B_4 := Lib.hid (Below.after B_3.out hb)
  clear A_3 D_3 E_3 B_3
  clear hb
  rw [hcs] at ho
  obtain ⟨X, cx, rfl, -, -, -⟩ := own_slice ho
  clear ho hcs
  go_wp2_with fail
  refine (c4.out w4 a A_4.out ea.out.2).mono ?_
  rintro e w5 ⟨rfl, hb⟩
  have A_5 := Lib.hid (A_4.out.after hN'.out hb)
  have D_5 := Lib.hid (D_4.out.after hN'.out hb)
  have E_5 := Lib.hid (E_4.out.after hN'.out hb)
  have B_5 := Lib.hid (Below.after B_4.out hb)
  clear A_4 D_4 E_4 B_4
  clear hb
  go_wp2_with fail
  refine (c5.out w5 b D_5.out eb.out.2).mono ?_
  rintro e w6 ⟨rfl, hb⟩
  have A_6 := Lib.hid (A_5.out.after hN'.out hb)
  have D_6 := Lib.hid (D_5.out.after hN'.out hb)
  have E_6 := Lib.hid (E_5.out.after hN'.out hb)
  have B_6 := Lib.hid (Below.after B_5.out hb)
  clear A_5 D_5 E_5 B_5
  clear hb
  go_wp2_with fail
  refine (c6.out w6 c E_6.out ec.out.1 ec.out.2).mono ?_
  rintro e w7 ⟨rfl, hb⟩
  have A_7 := Lib.hid (A_6.out.after hN'.out hb)
  have D_7 := Lib.hid (D_6.out.after hN'.out hb)
  have E_7 := Lib.hid (E_6.out.after hN'.out hb)
  have B_7 := Lib.hid (Below.after B_6.out hb)
  clear A_6 D_6 E_6 B_6
  clear hb
  go_wp2_with fail
  refine (c7.out w7 c E_7.out ec.out.2).mono ?_
  rintro e w8 ⟨rfl, hb⟩
  have A_8 := Lib.hid (A_7.out.after hN'.out hb)
  have D_8 := Lib.hid (D_7.out.after hN'.out hb)
  have E_8 := Lib.hid (E_7.out.after hN'.out hb)
  have B_8 := Lib.hid (Below.after B_7.out hb)
  clear A_7 D_7 E_7 B_7
  clear hb
  go_wp2_with fail
  refine (c8.out w8 c E_8.out ec.out.1 ec.out.2).mono ?_
  rintro e w9 ⟨rfl, hb⟩
  have A_9 := Lib.hid (A_8.out.after hN'.out hb)
  have D_9 := Lib.hid (D_8.out.after hN'.out hb)
  have E_9 := Lib.hid (E_8.out.after hN'.out hb)
  have B_9 := Lib.hid (Below.after B_8.out hb)
  clear A_8 D_8 E_8 B_8
  clear hb
  go_wp2_with fail
  refine (c9.out w9 c E_9.out ec.out.2).mono ?_
  rintro e w10 ⟨rfl, hb⟩
  have A_10 := Lib.hid (A_9.out.after hN'.out hb)
  have D_10 := Lib.hid (D_9.out.after hN'.out hb)
  have E_10 := Lib.hid (E_9.out.after hN'.out hb)
  have B_10 := Lib.hid (Below.after B_9.out hb)
  clear A_9 D_9 E_9 B_9
  clear hb
  go_wp2
  go_ret
  exact ⟨rfl, B_10.out⟩
end Go.Proofs.Ytfbmpgffekhmhaa
/- Layer 19: the statement WbjoinChain, walked. Made by wip/gen/layer19chain.py. -/
namespace Go.Proofs.Ytfbmpgffekhmhaa
open Go.RowKit Go.Proofs.Rowm Go.Proofs.Treem Go.Proofs.Cardm
set_option maxRecDepth 100000
variable {Nd : NdP}

set_option maxHeartbeats 8000000 in
theorem wbjoinChain_back (hN : NodeSays Nd) (hV : WbSays Nd) (hS : WbjSays Nd) (hA : ∀ W : World, Calls Try.prog 7 #[] W fun e w' => e = .returned (.bool true) ∧ Below W.heap.size W w') (A A2 : Option Addr) (n c n2 c2 : Nat) (l : List Bd) (ps : List Pr) (t : Tr) (w : World)
    (h : Long19 w A n c none 0 0 false) (ht : TreeIn w A n c l t) (e1 : mayW t = true) (hl2 : ps.length = n2) (h2 : n2 ≤ 200) (hr : Row w w.heap.size A2 (flat ps)) : Calls Try.prog 5 #[.slice A n c, .slice A2 n2 c2, .bool true] w fun e w' => e = .returned (.bool true) ∧ Below w.heap.size w w' := by
  have c0 := Lib.hid (h w (Below.refl _ _))
  have cA := Lib.hid hA
  have cM : Hid (∀ W, Below w.heap.size w W → Calls Try.prog 8 #[.slice A n c] W fun e w' => ∃ L : AT, e = .returned (.pointer L.ptr) ∧ Stand Nd w' L ∧ L.tr = t ∧ Below W.heap.size W w') := fun W hb => (ht.make hN W hb).mono (by
    rintro e w' ⟨p, rfl, k1, k2⟩
    obtain ⟨L, rfl, k3, rfl⟩ := AT.of_tree t p k1
    exact ⟨L, rfl, ⟨k3, k1⟩, rfl, k2⟩)
  have hts : t.size ≤ 400 := by rw [ht.size]; exact ht.few
  have cS : Hid (∀ W (T : AT), Stand Nd W T → Calls Try.prog 18 #[.pointer T.ptr] W fun e w' => e = .returned (.int .i64 T.tr.sum.toInt) ∧ Below W.heap.size W w') := fun W T h => h.tree.look.sum hN
  have cZ : Hid (∀ W (T : AT), T.tr.size ≤ 1000 → Stand Nd W T → Calls Try.prog 20 #[.pointer T.ptr] W fun e w' => e = .returned (nI T.tr.size) ∧ Below W.heap.size W w') := fun W T hs h => by
    have := h.tree.look.size hN
    rw [show K (BitVec.ofNat 64 T.tr.size) = nI T.tr.size from by show Value.int .i64 _ = _; rw [size_bits (by omega)]] at this
    exact this
  have cY : Hid (∀ W (T : AT), T.tr.size ≤ 1000 → mayW T.tr = true → Stand Nd W T → Calls Try.prog 19 #[.pointer T.ptr] W fun e w' => e = .returned (.bool true) ∧ Below W.heap.size W w') := fun W T hs he h => by
    have := hV.may W T.tr T.ptr h.tree (by omega)
    rw [he] at this
    exact this
  have hr' := Lib.hid hr
  have hl' := Lib.hid hl2
  have HS := Lib.hid hS
  have hN' := Lib.hid hN
  have n2n : ¬ 200 < n2 := by omega
  have B_0 := Lib.hid (Below.refl w.heap.size w)
  have E1 := Lib.hid e1
  have TS := Lib.hid hts
  clear hN hV hS hA h ht hl2 hr e1 hts
  go_enter Try.func5, Try.ntmps5
  go_wp2_with fail
  refine c0.out.mono ?_
  rintro e w1 ⟨rfl, hb⟩
  have B_1 := Lib.hid (Below.after B_0.out hb)
  clear hb B_0
  go_wp2_with fail
  refine (cM.out w1 B_1.out).mono ?_
  rintro e w2 ⟨L, rfl, hL, hLt, hb⟩
  have B_2 := Lib.hid (Below.after B_1.out hb)
  have L_2 := Lib.hid hL
  have LT := Lib.hid hLt
  clear hb B_1 hL hLt
  go_wp2_with fail
  refine (cS.out w2 L L_2.out).mono ?_
  rintro e w3 ⟨rfl, hb⟩
  have B_3 := Lib.hid (Below.after B_2.out hb)
  have L_3 := Lib.hid (L_2.out.after hN'.out hb)
  clear hb B_2 L_2
  go_wp2_with fail
  go_loopw [7, 8, 9] (fun p s i wr => ∃ (k : Nat) (T : AT), k ≤ n2 ∧ p = .pointer T.ptr ∧ s = .int .i64 T.tr.sum.toInt ∧ i = nI k ∧ Stand Nd wr T ∧ mayW T.tr = true ∧ T.tr.size ≤ 400 + k ∧ Below w.heap.size w wr) (fun _ _ i _ => n2 - (intOf i).toNat)
  case atStart => exact ⟨0, L, Nat.zero_le _, rfl, rfl, rfl, L_3.out, LT.out ▸ E1.out, by rw [LT.out]; exact TS.out, B_3.out⟩
  case round =>
    obtain ⟨k, T, hk, rfl, rfl, rfl, hst, hE, hsz, hbw⟩ := hrel
    have BW := Lib.hid hbw
    have ST := Lib.hid hst
    clear hst hbw
    by_cases hlt : k < n2
    · have hkl : k < ps.length := by rw [hl'.out]; exact hlt
      obtain ⟨ad, rfl, hb2, g0, g1⟩ := pair_at (hr'.out.below BW.out) k hkl
      obtain ⟨kx, hkx⟩ : ∃ x, ps[k].1 = x := ⟨_, rfl⟩
      obtain ⟨vx, hvx⟩ : ∃ x, ps[k].2 = x := ⟨_, rfl⟩
      rw [hkx] at g0
      rw [hvx] at g1
      have cJ : Hid (∀ W, Stand Nd W T → Calls Try.prog 11 #[.pointer none, K kx, K vx, .pointer T.ptr] W fun e w' => ∃ J : AT, e = .returned (.pointer J.ptr) ∧ Stand Nd w' J ∧ (mayW J.tr = true ∧ J.tr.size = T.tr.size + 1 ∧ J.tr.sum = T.tr.sum + vx ∧ True) ∧ Below W.heap.size W w') := fun W h => by
        have hSo := HS.out
        refine (hSo.join W .e T kx vx (Stand.none_ W) h rfl hE (Nat.zero_le _) (by omega)).mono ?_
        rintro e w' ⟨J, rfl, k1, k2, k3, -, -, k5⟩
        refine ⟨J, rfl, k1, ⟨k2, ?_, ?_, ?_⟩, k5⟩
        · rw [← pairs_len, k3, List.length_append, List.length_cons, pairs_len, pairs_len]; simp only [AT.tr, Tr.size] <;> omega
        · rw [sum_pairs, k3, sumP_append, sum_pairs]
          show 0#64 + (vx + sumP T.tr.pairs) = _; rw [BitVec.zero_add, BitVec.add_comm]
        · trivial
      have hkn : k ≤ 200 := by omega
      have e3 : (k : Int) < (n2 : Int) := by omega
      have e4 : (k : Int).toNat = k := by omega
      have e5 : (0 : Int) ≤ (k : Int) := by omega
      obtain ⟨s0, hs0⟩ : ∃ s, T.tr.sum = s := ⟨_, rfl⟩
      rw [hs0] at cJ ⊢
      clear hkx hvx hs0
      go_wp2_with fail
      refine wp_region_held_drew (S := fun W => W.cell? (ad.add (k * 2)) = some (K kx) ∧ W.cell? { block := (ad.add (k * 2)).block, off := (ad.add (k * 2)).off + 1 } = some (K vx) ∧ Below wr.heap.size wr W) (by kernel_rfl) ⟨g0, g1, (Below.refl _ wr).drew⟩ (fun hS => ?_)
      refine wpAnyH_take (i := 0) (oi := ?dqr1q0) (v := ?dvr1q0) ?hir1q0 (by kernel_rfl) (by kernel_rfl) (by kernel_rfl) ?hQr1q0 (Or.inl ⟨?hwr1q0, ?hyr1q0⟩) hS ?hrr1q0
      case hir1q0 => simp only [List.getElem?_toArray, List.getElem?_cons_zero]; rfl
      case hQr1q0 => exact fun _ _ _ h => h
      case hwr1q0 => rfl
      case hyr1q0 => (intro w hSw; (try dsimp only at hSw); go_simp; (try with_reducible rfl))
      simp only [Act.put, List.setIfInBounds_toArray, List.set_cons_zero, List.set_cons_succ]
      refine wpAnyH_take (i := 1) (oi := ?dqr1q1) (v := ?dvr1q1) ?hir1q1 (by kernel_rfl) (by kernel_rfl) (by kernel_rfl) ?hQr1q1 (Or.inl ⟨?hwr1q1, ?hyr1q1⟩) hS ?hrr1q1
      case hir1q1 => simp only [List.getElem?_toArray, List.getElem?_cons_succ, List.getElem?_cons_zero]; rfl
      case hQr1q1 => exact fun _ _ _ h => h
      case hwr1q1 => rfl
      case hyr1q1 => (intro w hSw; (try dsimp only at hSw); go_simp; (try with_reducible rfl))
      simp only [Act.put, List.setIfInBounds_toArray, List.set_cons_zero, List.set_cons_succ]
      refine wpAnyH_take (i := 2) (oi := ?dqr1q2) (v := ?dvr1q2) ?hir1q2 (by kernel_rfl) (by kernel_rfl) (by kernel_rfl) ?hQr1q2 (Or.inl ⟨?hwr1q2, ?hyr1q2⟩) hS ?hrr1q2
      case hir1q2 => simp only [List.getElem?_toArray, List.getElem?_cons_succ, List.getElem?_cons_zero]; rfl
      case hQr1q2 => exact fun _ _ _ h => h
      case hwr1q2 => rfl
      case hyr1q2 => (intro w hSw; (try dsimp only at hSw); go_simp; (try with_reducible rfl))
      simp only [Act.put, List.setIfInBounds_toArray, List.set_cons_zero, List.set_cons_succ]
      refine wpAnyH_take (i := 3) (oi := ?dqr1q3) (v := ?dvr1q3) ?hir1q3 (by kernel_rfl) (by kernel_rfl) (by kernel_rfl) ?hQr1q3 (Or.inl ⟨?hwr1q3, ?hyr1q3⟩) hS ?hrr1q3
      case hir1q3 => simp only [List.getElem?_toArray, List.getElem?_cons_succ, List.getElem?_cons_zero]; rfl
      case hQr1q3 => exact fun _ _ _ h => h
      case hwr1q3 => rfl
      case hyr1q3 => (intro w hSw; (try dsimp only at hSw); go_simp; (try with_reducible rfl))
      simp only [Act.put, List.setIfInBounds_toArray, List.set_cons_zero, List.set_cons_succ]
      refine wpAnyH_take (i := 4) (oi := ?dqr1q4) (v := ?dvr1q4) ?hir1q4 (by kernel_rfl) (by kernel_rfl) (by kernel_rfl) ?hQr1q4 (Or.inl ⟨?hwr1q4, ?hyr1q4⟩) hS ?hrr1q4
      case hir1q4 => simp only [List.getElem?_toArray, List.getElem?_cons_succ, List.getElem?_cons_zero]; rfl
      case hQr1q4 => exact fun _ _ _ h => h
      case hwr1q4 => rfl
      case hyr1q4 => (intro w hSw; (try dsimp only at hSw); go_simp; (try with_reducible rfl))
      simp only [Act.put, List.setIfInBounds_toArray, List.set_cons_zero, List.set_cons_succ]
      refine wpAnyH_take (i := 5) (oi := ?dqr1q5) (v := ?dvr1q5) ?hir1q5 (by kernel_rfl) (by kernel_rfl) (by kernel_rfl) ?hQr1q5 (Or.inl ⟨?hwr1q5, ?hyr1q5⟩) hS ?hrr1q5
      case hir1q5 => simp only [List.getElem?_toArray, List.getElem?_cons_succ, List.getElem?_cons_zero]; rfl
      case hQr1q5 => exact fun _ _ _ h => h
      case hwr1q5 => rfl
      case hyr1q5 => (intro w hSw; (try dsimp only at hSw); go_simp; (try with_reducible rfl))
      simp only [Act.put, List.setIfInBounds_toArray, List.set_cons_zero, List.set_cons_succ]
      refine wpAnyH_take (i := 6) (oi := ?dqr1q6) (v := ?dvr1q6) ?hir1q6 (by kernel_rfl) (by kernel_rfl) (by kernel_rfl) ?hQr1q6 (Or.inl ⟨?hwr1q6, ?hyr1q6⟩) hS ?hrr1q6
      case hir1q6 => simp only [List.getElem?_toArray, List.getElem?_cons_succ, List.getElem?_cons_zero]; rfl
      case hQr1q6 => exact fun _ _ _ h => h
      case hwr1q6 => rfl
      case hyr1q6 => (intro w hSw; (try dsimp only at hSw); go_simp; (try with_reducible rfl))
      simp only [Act.put, List.setIfInBounds_toArray, List.set_cons_zero, List.set_cons_succ]
      refine wpAnyH_take (i := 7) (oi := ?dqr1q7) (v := ?dvr1q7) ?hir1q7 (by kernel_rfl) (by kernel_rfl) (by kernel_rfl) ?hQr1q7 (Or.inl ⟨?hwr1q7, ?hyr1q7⟩) hS ?hrr1q7
      case hir1q7 => simp only [List.getElem?_toArray, List.getElem?_cons_succ, List.getElem?_cons_zero]; rfl
      case hQr1q7 => exact fun _ _ _ h => h
      case hwr1q7 => rfl
      case hyr1q7 => (intro w hSw; (try dsimp only at hSw); go_simp; (try with_reducible rfl))
      simp only [Act.put, List.setIfInBounds_toArray, List.set_cons_zero, List.set_cons_succ]
      refine wpAnyH_take (i := 8) (oi := ?dqr1q8) (v := ?dvr1q8) ?hir1q8 (by kernel_rfl) (by kernel_rfl) (by kernel_rfl) ?hQr1q8 (Or.inl ⟨?hwr1q8, ?hyr1q8⟩) hS ?hrr1q8
      case hir1q8 => simp only [List.getElem?_toArray, List.getElem?_cons_succ, List.getElem?_cons_zero]; rfl
      case hQr1q8 => exact fun _ _ _ h => h
      case hwr1q8 => rfl
      case hyr1q8 => (intro w hSw; (try dsimp only at hSw); go_simp; (try with_reducible rfl))
      simp only [Act.put, List.setIfInBounds_toArray, List.set_cons_zero, List.set_cons_succ]
      refine wpAnyH_take (i := 9) (oi := ?dqr1q9) (v := ?dvr1q9) ?hir1q9 (by kernel_rfl) (by kernel_rfl) (by kernel_rfl) ?hQr1q9 (Or.inl ⟨?hwr1q9, ?hyr1q9⟩) hS ?hrr1q9
      case hir1q9 => simp only [List.getElem?_toArray, List.getElem?_cons_succ, List.getElem?_cons_zero]; rfl
      case hQr1q9 => exact fun _ _ _ h => h
      case hwr1q9 => rfl
      case hyr1q9 => (intro w hSw; (try dsimp only at hSw); go_simp; (try with_reducible rfl))
      simp only [Act.put, List.setIfInBounds_toArray, List.set_cons_zero, List.set_cons_succ]
      refine wpAnyH_take (i := 10) (oi := ?dqr1q10) (v := ?dvr1q10) ?hir1q10 (by kernel_rfl) (by kernel_rfl) (by kernel_rfl) ?hQr1q10 (Or.inl ⟨?hwr1q10, ?hyr1q10⟩) hS ?hrr1q10
      case hir1q10 => simp only [List.getElem?_toArray, List.getElem?_cons_succ, List.getElem?_cons_zero]; rfl
      case hQr1q10 => exact fun _ _ _ h => h
      case hwr1q10 => rfl
      case hyr1q10 => (intro w hSw; (try dsimp only at hSw); go_simp; (try with_reducible rfl))
      simp only [Act.put, List.setIfInBounds_toArray, List.set_cons_zero, List.set_cons_succ]
      refine wpAnyH_ready (rs := [11]) (by kernel_rfl) (by simp) ?_
      refine AllReadyH.cons (o := ?dqr1q11) ?hir1q11 (fun K hK => ?_) AllReadyH.nil
      case hir1q11 => simp only [List.getElem?_toArray, List.getElem?_cons_succ, List.getElem?_cons_zero]; rfl
      go_simp
      go_at_call 11
      refine (cJ.out _ (ST.out.after hN'.out hS.2.2)).mono ?_
      rintro e u3 ⟨J, rfl, hJ, hq, hb⟩
      have hS2 := (And.intro (keep_cell hb hS.1) (And.intro (keep_cell hb hS.2.1) (Below.after hS.2.2 hb)))
      clear hS
      refine hK.out _ _ hS2 (fun hS => ?_)
      clear hS2 hK K
      try simp only [Act.put, List.setIfInBounds_toArray, List.set_cons_zero, List.set_cons_succ]
      refine wpAnyH_take (i := 12) (oi := ?dqr1q12) (v := ?dvr1q12) ?hir1q12 (by kernel_rfl) (by kernel_rfl) (by kernel_rfl) ?hQr1q12 (Or.inl ⟨?hwr1q12, ?hyr1q12⟩) hS ?hrr1q12
      case hir1q12 => simp only [List.getElem?_toArray, List.getElem?_cons_succ, List.getElem?_cons_zero]; rfl
      case hQr1q12 => exact fun _ _ _ h => h
      case hwr1q12 => rfl
      case hyr1q12 => (intro w hSw; (try dsimp only at hSw); go_simp; (try with_reducible rfl))
      simp only [Act.put, List.setIfInBounds_toArray, List.set_cons_zero, List.set_cons_succ]
      refine wpAnyH_done (by kernel_rfl) ?_ _
      have B3 := Lib.hid hS.2.2
      have HJ := Lib.hid hJ
      have HQ := Lib.hid hq
      have y1 := hS.2.1
      have T3 := Lib.hid (ST.out.after hN'.out hS.2.2)
      have JS := HQ.out.2.1
      have hJm : HQ.out.2.2.1 = HQ.out.2.2.1 := rfl
      have e7 : wrap64 (s0.toInt + vx.toInt) = J.tr.sum.toInt := by rw [HQ.out.2.2.1]; exact i_add s0 vx
      have cz1 := Lib.hid (fun W h => cZ.out W J (by omega) h)
      have cz2 := Lib.hid (fun W h => cZ.out W T (by omega) h)
      have cy1 := Lib.hid (fun W h => cY.out W J (by omega) HQ.out.1 h)
      have cs1 := Lib.hid (fun W h => cS.out W J h)
      rw [JS] at cz1
      obtain ⟨z, hz⟩ : ∃ z, J.tr.sum.toInt = z := ⟨_, rfl⟩
      rw [hz] at e7 cs1
      have hz' := Lib.hid hz
      clear hz
      obtain ⟨a, ha⟩ : ∃ a, T.tr.size = a := ⟨_, rfl⟩
      rw [ha] at cz1 cz2 hsz
      have JS' := Lib.hid JS
      have ha' := Lib.hid ha
      have e8 : IntKind.i64.wrap ((a : Int) + 1) = (a : Int) + 1 := IntWalk.i64_in _ (by omega)
      clear hS hJ hq cJ g0 g1 hJm JS ha e4 e5
      go_upto_region 13 with (fail)
      have BB := Lib.hid (BW.out.trans (B3.out.mono BW.out.size))
      go_wp2_with fail
      refine (cy1.out u3 HJ.out).mono ?_
      rintro e w1 ⟨rfl, hb⟩
      have J_1 := Lib.hid (HJ.out.after hN'.out hb)
      have T_1 := Lib.hid (T3.out.after hN'.out hb)
      have B_1 := Lib.hid (Below.after BB.out hb)
      clear HJ T3 BB
      clear hb
      go_wp2_with fail
      refine (cz1.out w1 J_1.out).mono ?_
      rintro e w2 ⟨rfl, hb⟩
      have J_2 := Lib.hid (J_1.out.after hN'.out hb)
      have T_2 := Lib.hid (T_1.out.after hN'.out hb)
      have B_2 := Lib.hid (Below.after B_1.out hb)
      clear J_1 T_1 B_1
      clear hb
      go_wp2_with fail
      refine (cz2.out w2 T_2.out).mono ?_
      rintro e w3 ⟨rfl, hb⟩
      have J_3 := Lib.hid (J_2.out.after hN'.out hb)
      have T_3 := Lib.hid (T_2.out.after hN'.out hb)
      have B_3 := Lib.hid (Below.after B_2.out hb)
      clear J_2 T_2 B_2
      clear hb
      go_wp2_with fail
      refine (cs1.out w3 J_3.out).mono ?_
      rintro e w4 ⟨rfl, hb⟩
      have J_4 := Lib.hid (J_3.out.after hN'.out hb)
      have T_4 := Lib.hid (T_3.out.after hN'.out hb)
      have B_4 := Lib.hid (Below.after B_3.out hb)
      clear J_3 T_3 B_3
      clear hb
      have JEND := J_4
      have BEND := B_4
      clear e7 e8
      go_wp2_with fail
      go_roundw
      case rel => exact ⟨k + 1, J, by omega, rfl, by rw [hz'.out], by go_num, JEND.out, HQ.out.1, by rw [JS'.out, ha'.out]; omega, BEND.out⟩
      case measure => simp [intOf]; omega
    · obtain rfl : k = n2 := by omega
      go_wp2_with fail
      refine (cA.out wr).mono ?_
      rintro e w9 ⟨rfl, hb⟩
      have B9 := Lib.hid (Below.after BW.out hb)
      clear hb
      go_wp2
      go_ret
      exact ⟨rfl, B9.out⟩
set_option maxHeartbeats 8000000 in
theorem wbjoinChain_fore (hN : NodeSays Nd) (hV : WbSays Nd) (hS : WbjSays Nd) (hA : ∀ W : World, Calls Try.prog 7 #[] W fun e w' => e = .returned (.bool true) ∧ Below W.heap.size W w') (A A2 : Option Addr) (n c n2 c2 : Nat) (l : List Bd) (ps : List Pr) (t : Tr) (w : World)
    (h : Long19 w A n c none 0 0 false) (ht : TreeIn w A n c l t) (e1 : mayW t = true) (hl2 : ps.length = n2) (h2 : n2 ≤ 200) (hr : Row w w.heap.size A2 (flat ps)) : Calls Try.prog 5 #[.slice A n c, .slice A2 n2 c2, .bool false] w fun e w' => e = .returned (.bool true) ∧ Below w.heap.size w w' := by
  have c0 := Lib.hid (h w (Below.refl _ _))
  have cA := Lib.hid hA
  have cM : Hid (∀ W, Below w.heap.size w W → Calls Try.prog 8 #[.slice A n c] W fun e w' => ∃ L : AT, e = .returned (.pointer L.ptr) ∧ Stand Nd w' L ∧ L.tr = t ∧ Below W.heap.size W w') := fun W hb => (ht.make hN W hb).mono (by
    rintro e w' ⟨p, rfl, k1, k2⟩
    obtain ⟨L, rfl, k3, rfl⟩ := AT.of_tree t p k1
    exact ⟨L, rfl, ⟨k3, k1⟩, rfl, k2⟩)
  have hts : t.size ≤ 400 := by rw [ht.size]; exact ht.few
  have cS : Hid (∀ W (T : AT), Stand Nd W T → Calls Try.prog 18 #[.pointer T.ptr] W fun e w' => e = .returned (.int .i64 T.tr.sum.toInt) ∧ Below W.heap.size W w') := fun W T h => h.tree.look.sum hN
  have cZ : Hid (∀ W (T : AT), T.tr.size ≤ 1000 → Stand Nd W T → Calls Try.prog 20 #[.pointer T.ptr] W fun e w' => e = .returned (nI T.tr.size) ∧ Below W.heap.size W w') := fun W T hs h => by
    have := h.tree.look.size hN
    rw [show K (BitVec.ofNat 64 T.tr.size) = nI T.tr.size from by show Value.int .i64 _ = _; rw [size_bits (by omega)]] at this
    exact this
  have cY : Hid (∀ W (T : AT), T.tr.size ≤ 1000 → mayW T.tr = true → Stand Nd W T → Calls Try.prog 19 #[.pointer T.ptr] W fun e w' => e = .returned (.bool true) ∧ Below W.heap.size W w') := fun W T hs he h => by
    have := hV.may W T.tr T.ptr h.tree (by omega)
    rw [he] at this
    exact this
  have hr' := Lib.hid hr
  have hl' := Lib.hid hl2
  have HS := Lib.hid hS
  have hN' := Lib.hid hN
  have n2n : ¬ 200 < n2 := by omega
  have B_0 := Lib.hid (Below.refl w.heap.size w)
  have E1 := Lib.hid e1
  have TS := Lib.hid hts
  clear hN hV hS hA h ht hl2 hr e1 hts
  go_enter Try.func5, Try.ntmps5
  go_wp2_with fail
  refine c0.out.mono ?_
  rintro e w1 ⟨rfl, hb⟩
  have B_1 := Lib.hid (Below.after B_0.out hb)
  clear hb B_0
  go_wp2_with fail
  refine (cM.out w1 B_1.out).mono ?_
  rintro e w2 ⟨L, rfl, hL, hLt, hb⟩
  have B_2 := Lib.hid (Below.after B_1.out hb)
  have L_2 := Lib.hid hL
  have LT := Lib.hid hLt
  clear hb B_1 hL hLt
  go_wp2_with fail
  refine (cS.out w2 L L_2.out).mono ?_
  rintro e w3 ⟨rfl, hb⟩
  have B_3 := Lib.hid (Below.after B_2.out hb)
  have L_3 := Lib.hid (L_2.out.after hN'.out hb)
  clear hb B_2 L_2
  go_wp2_with fail
  go_loopw [7, 8, 9] (fun p s i wr => ∃ (k : Nat) (T : AT), k ≤ n2 ∧ p = .pointer T.ptr ∧ s = .int .i64 T.tr.sum.toInt ∧ i = nI k ∧ Stand Nd wr T ∧ mayW T.tr = true ∧ T.tr.size ≤ 400 + k ∧ Below w.heap.size w wr) (fun _ _ i _ => n2 - (intOf i).toNat)
  case atStart => exact ⟨0, L, Nat.zero_le _, rfl, rfl, rfl, L_3.out, LT.out ▸ E1.out, by rw [LT.out]; exact TS.out, B_3.out⟩
  case round =>
    obtain ⟨k, T, hk, rfl, rfl, rfl, hst, hE, hsz, hbw⟩ := hrel
    have BW := Lib.hid hbw
    have ST := Lib.hid hst
    clear hst hbw
    by_cases hlt : k < n2
    · have hkl : k < ps.length := by rw [hl'.out]; exact hlt
      obtain ⟨ad, rfl, hb2, g0, g1⟩ := pair_at (hr'.out.below BW.out) k hkl
      obtain ⟨kx, hkx⟩ : ∃ x, ps[k].1 = x := ⟨_, rfl⟩
      obtain ⟨vx, hvx⟩ : ∃ x, ps[k].2 = x := ⟨_, rfl⟩
      rw [hkx] at g0
      rw [hvx] at g1
      have cJ : Hid (∀ W, Stand Nd W T → Calls Try.prog 11 #[.pointer T.ptr, K kx, K vx, .pointer none] W fun e w' => ∃ J : AT, e = .returned (.pointer J.ptr) ∧ Stand Nd w' J ∧ (mayW J.tr = true ∧ J.tr.size = T.tr.size + 1 ∧ J.tr.sum = T.tr.sum + vx ∧ True) ∧ Below W.heap.size W w') := fun W h => by
        have hSo := HS.out
        refine (hSo.join W T .e kx vx h (Stand.none_ W) hE rfl (by omega) (Nat.zero_le _)).mono ?_
        rintro e w' ⟨J, rfl, k1, k2, k3, -, -, k5⟩
        refine ⟨J, rfl, k1, ⟨k2, ?_, ?_, ?_⟩, k5⟩
        · rw [← pairs_len, k3, List.length_append, List.length_cons, pairs_len, pairs_len]; simp only [AT.tr, Tr.size] <;> omega
        · rw [sum_pairs, k3, sumP_append, sum_pairs]
          show sumP T.tr.pairs + (vx + 0#64) = _; rw [BitVec.add_zero]
        · trivial
      have hkn : k ≤ 200 := by omega
      have e3 : (k : Int) < (n2 : Int) := by omega
      have e4 : (k : Int).toNat = k := by omega
      have e5 : (0 : Int) ≤ (k : Int) := by omega
      obtain ⟨s0, hs0⟩ : ∃ s, T.tr.sum = s := ⟨_, rfl⟩
      rw [hs0] at cJ ⊢
      clear hkx hvx hs0
      go_wp2_with fail
      refine wp_region_held_drew (S := fun W => W.cell? (ad.add (k * 2)) = some (K kx) ∧ W.cell? { block := (ad.add (k * 2)).block, off := (ad.add (k * 2)).off + 1 } = some (K vx) ∧ Below wr.heap.size wr W) (by kernel_rfl) ⟨g0, g1, (Below.refl _ wr).drew⟩ (fun hS => ?_)
      refine wpAnyH_take (i := 0) (oi := ?dqr2q0) (v := ?dvr2q0) ?hir2q0 (by kernel_rfl) (by kernel_rfl) (by kernel_rfl) ?hQr2q0 (Or.inl ⟨?hwr2q0, ?hyr2q0⟩) hS ?hrr2q0
      case hir2q0 => simp only [List.getElem?_toArray, List.getElem?_cons_zero]; rfl
      case hQr2q0 => exact fun _ _ _ h => h
      case hwr2q0 => rfl
      case hyr2q0 => (intro w hSw; (try dsimp only at hSw); go_simp; (try with_reducible rfl))
      simp only [Act.put, List.setIfInBounds_toArray, List.set_cons_zero, List.set_cons_succ]
      refine wpAnyH_take (i := 1) (oi := ?dqr2q1) (v := ?dvr2q1) ?hir2q1 (by kernel_rfl) (by kernel_rfl) (by kernel_rfl) ?hQr2q1 (Or.inl ⟨?hwr2q1, ?hyr2q1⟩) hS ?hrr2q1
      case hir2q1 => simp only [List.getElem?_toArray, List.getElem?_cons_succ, List.getElem?_cons_zero]; rfl
      case hQr2q1 => exact fun _ _ _ h => h
      case hwr2q1 => rfl
      case hyr2q1 => (intro w hSw; (try dsimp only at hSw); go_simp; (try with_reducible rfl))
      simp only [Act.put, List.setIfInBounds_toArray, List.set_cons_zero, List.set_cons_succ]
      refine wpAnyH_take (i := 2) (oi := ?dqr2q2) (v := ?dvr2q2) ?hir2q2 (by kernel_rfl) (by kernel_rfl) (by kernel_rfl) ?hQr2q2 (Or.inl ⟨?hwr2q2, ?hyr2q2⟩) hS ?hrr2q2
      case hir2q2 => simp only [List.getElem?_toArray, List.getElem?_cons_succ, List.getElem?_cons_zero]; rfl
      case hQr2q2 => exact fun _ _ _ h => h
      case hwr2q2 => rfl
      case hyr2q2 => (intro w hSw; (try dsimp only at hSw); go_simp; (try with_reducible rfl))
      simp only [Act.put, List.setIfInBounds_toArray, List.set_cons_zero, List.set_cons_succ]
      refine wpAnyH_take (i := 3) (oi := ?dqr2q3) (v := ?dvr2q3) ?hir2q3 (by kernel_rfl) (by kernel_rfl) (by kernel_rfl) ?hQr2q3 (Or.inl ⟨?hwr2q3, ?hyr2q3⟩) hS ?hrr2q3
      case hir2q3 => simp only [List.getElem?_toArray, List.getElem?_cons_succ, List.getElem?_cons_zero]; rfl
      case hQr2q3 => exact fun _ _ _ h => h
      case hwr2q3 => rfl
      case hyr2q3 => (intro w hSw; (try dsimp only at hSw); go_simp; (try with_reducible rfl))
      simp only [Act.put, List.setIfInBounds_toArray, List.set_cons_zero, List.set_cons_succ]
      refine wpAnyH_take (i := 4) (oi := ?dqr2q4) (v := ?dvr2q4) ?hir2q4 (by kernel_rfl) (by kernel_rfl) (by kernel_rfl) ?hQr2q4 (Or.inl ⟨?hwr2q4, ?hyr2q4⟩) hS ?hrr2q4
      case hir2q4 => simp only [List.getElem?_toArray, List.getElem?_cons_succ, List.getElem?_cons_zero]; rfl
      case hQr2q4 => exact fun _ _ _ h => h
      case hwr2q4 => rfl
      case hyr2q4 => (intro w hSw; (try dsimp only at hSw); go_simp; (try with_reducible rfl))
      simp only [Act.put, List.setIfInBounds_toArray, List.set_cons_zero, List.set_cons_succ]
      refine wpAnyH_take (i := 5) (oi := ?dqr2q5) (v := ?dvr2q5) ?hir2q5 (by kernel_rfl) (by kernel_rfl) (by kernel_rfl) ?hQr2q5 (Or.inl ⟨?hwr2q5, ?hyr2q5⟩) hS ?hrr2q5
      case hir2q5 => simp only [List.getElem?_toArray, List.getElem?_cons_succ, List.getElem?_cons_zero]; rfl
      case hQr2q5 => exact fun _ _ _ h => h
      case hwr2q5 => rfl
      case hyr2q5 => (intro w hSw; (try dsimp only at hSw); go_simp; (try with_reducible rfl))
      simp only [Act.put, List.setIfInBounds_toArray, List.set_cons_zero, List.set_cons_succ]
      refine wpAnyH_take (i := 6) (oi := ?dqr2q6) (v := ?dvr2q6) ?hir2q6 (by kernel_rfl) (by kernel_rfl) (by kernel_rfl) ?hQr2q6 (Or.inl ⟨?hwr2q6, ?hyr2q6⟩) hS ?hrr2q6
      case hir2q6 => simp only [List.getElem?_toArray, List.getElem?_cons_succ, List.getElem?_cons_zero]; rfl
      case hQr2q6 => exact fun _ _ _ h => h
      case hwr2q6 => rfl
      case hyr2q6 => (intro w hSw; (try dsimp only at hSw); go_simp; (try with_reducible rfl))
      simp only [Act.put, List.setIfInBounds_toArray, List.set_cons_zero, List.set_cons_succ]
      refine wpAnyH_take (i := 7) (oi := ?dqr2q7) (v := ?dvr2q7) ?hir2q7 (by kernel_rfl) (by kernel_rfl) (by kernel_rfl) ?hQr2q7 (Or.inl ⟨?hwr2q7, ?hyr2q7⟩) hS ?hrr2q7
      case hir2q7 => simp only [List.getElem?_toArray, List.getElem?_cons_succ, List.getElem?_cons_zero]; rfl
      case hQr2q7 => exact fun _ _ _ h => h
      case hwr2q7 => rfl
      case hyr2q7 => (intro w hSw; (try dsimp only at hSw); go_simp; (try with_reducible rfl))
      simp only [Act.put, List.setIfInBounds_toArray, List.set_cons_zero, List.set_cons_succ]
      refine wpAnyH_take (i := 8) (oi := ?dqr2q8) (v := ?dvr2q8) ?hir2q8 (by kernel_rfl) (by kernel_rfl) (by kernel_rfl) ?hQr2q8 (Or.inl ⟨?hwr2q8, ?hyr2q8⟩) hS ?hrr2q8
      case hir2q8 => simp only [List.getElem?_toArray, List.getElem?_cons_succ, List.getElem?_cons_zero]; rfl
      case hQr2q8 => exact fun _ _ _ h => h
      case hwr2q8 => rfl
      case hyr2q8 => (intro w hSw; (try dsimp only at hSw); go_simp; (try with_reducible rfl))
      simp only [Act.put, List.setIfInBounds_toArray, List.set_cons_zero, List.set_cons_succ]
      refine wpAnyH_take (i := 9) (oi := ?dqr2q9) (v := ?dvr2q9) ?hir2q9 (by kernel_rfl) (by kernel_rfl) (by kernel_rfl) ?hQr2q9 (Or.inl ⟨?hwr2q9, ?hyr2q9⟩) hS ?hrr2q9
      case hir2q9 => simp only [List.getElem?_toArray, List.getElem?_cons_succ, List.getElem?_cons_zero]; rfl
      case hQr2q9 => exact fun _ _ _ h => h
      case hwr2q9 => rfl
      case hyr2q9 => (intro w hSw; (try dsimp only at hSw); go_simp; (try with_reducible rfl))
      simp only [Act.put, List.setIfInBounds_toArray, List.set_cons_zero, List.set_cons_succ]
      refine wpAnyH_take (i := 10) (oi := ?dqr2q10) (v := ?dvr2q10) ?hir2q10 (by kernel_rfl) (by kernel_rfl) (by kernel_rfl) ?hQr2q10 (Or.inl ⟨?hwr2q10, ?hyr2q10⟩) hS ?hrr2q10
      case hir2q10 => simp only [List.getElem?_toArray, List.getElem?_cons_succ, List.getElem?_cons_zero]; rfl
      case hQr2q10 => exact fun _ _ _ h => h
      case hwr2q10 => rfl
      case hyr2q10 => (intro w hSw; (try dsimp only at hSw); go_simp; (try with_reducible rfl))
      simp only [Act.put, List.setIfInBounds_toArray, List.set_cons_zero, List.set_cons_succ]
      refine wpAnyH_ready (rs := [11]) (by kernel_rfl) (by simp) ?_
      refine AllReadyH.cons (o := ?dqr2q11) ?hir2q11 (fun K hK => ?_) AllReadyH.nil
      case hir2q11 => simp only [List.getElem?_toArray, List.getElem?_cons_succ, List.getElem?_cons_zero]; rfl
      go_simp
      go_at_call 11
      refine (cJ.out _ (ST.out.after hN'.out hS.2.2)).mono ?_
      rintro e u3 ⟨J, rfl, hJ, hq, hb⟩
      have hS2 := (And.intro (keep_cell hb hS.1) (And.intro (keep_cell hb hS.2.1) (Below.after hS.2.2 hb)))
      clear hS
      refine hK.out _ _ hS2 (fun hS => ?_)
      clear hS2 hK K
      try simp only [Act.put, List.setIfInBounds_toArray, List.set_cons_zero, List.set_cons_succ]
      refine wpAnyH_take (i := 12) (oi := ?dqr2q12) (v := ?dvr2q12) ?hir2q12 (by kernel_rfl) (by kernel_rfl) (by kernel_rfl) ?hQr2q12 (Or.inl ⟨?hwr2q12, ?hyr2q12⟩) hS ?hrr2q12
      case hir2q12 => simp only [List.getElem?_toArray, List.getElem?_cons_succ, List.getElem?_cons_zero]; rfl
      case hQr2q12 => exact fun _ _ _ h => h
      case hwr2q12 => rfl
      case hyr2q12 => (intro w hSw; (try dsimp only at hSw); go_simp; (try with_reducible rfl))
      simp only [Act.put, List.setIfInBounds_toArray, List.set_cons_zero, List.set_cons_succ]
      refine wpAnyH_done (by kernel_rfl) ?_ _
      have B3 := Lib.hid hS.2.2
      have HJ := Lib.hid hJ
      have HQ := Lib.hid hq
      have y1 := hS.2.1
      have T3 := Lib.hid (ST.out.after hN'.out hS.2.2)
      have JS := HQ.out.2.1
      have hJm : HQ.out.2.2.1 = HQ.out.2.2.1 := rfl
      have e7 : wrap64 (s0.toInt + vx.toInt) = J.tr.sum.toInt := by rw [HQ.out.2.2.1]; exact i_add s0 vx
      have cz1 := Lib.hid (fun W h => cZ.out W J (by omega) h)
      have cz2 := Lib.hid (fun W h => cZ.out W T (by omega) h)
      have cy1 := Lib.hid (fun W h => cY.out W J (by omega) HQ.out.1 h)
      have cs1 := Lib.hid (fun W h => cS.out W J h)
      rw [JS] at cz1
      obtain ⟨z, hz⟩ : ∃ z, J.tr.sum.toInt = z := ⟨_, rfl⟩
      rw [hz] at e7 cs1
      have hz' := Lib.hid hz
      clear hz
      obtain ⟨a, ha⟩ : ∃ a, T.tr.size = a := ⟨_, rfl⟩
      rw [ha] at cz1 cz2 hsz
      have JS' := Lib.hid JS
      have ha' := Lib.hid ha
      have e8 : IntKind.i64.wrap ((a : Int) + 1) = (a : Int) + 1 := IntWalk.i64_in _ (by omega)
      clear hS hJ hq cJ g0 g1 hJm JS ha e4 e5
      go_upto_region 13 with (fail)
      have BB := Lib.hid (BW.out.trans (B3.out.mono BW.out.size))
      go_wp2_with fail
      refine (cy1.out u3 HJ.out).mono ?_
      rintro e w1 ⟨rfl, hb⟩
      have J_1 := Lib.hid (HJ.out.after hN'.out hb)
      have T_1 := Lib.hid (T3.out.after hN'.out hb)
      have B_1 := Lib.hid (Below.after BB.out hb)
      clear HJ T3 BB
      clear hb
      go_wp2_with fail
      refine (cz1.out w1 J_1.out).mono ?_
      rintro e w2 ⟨rfl, hb⟩
      have J_2 := Lib.hid (J_1.out.after hN'.out hb)
      have T_2 := Lib.hid (T_1.out.after hN'.out hb)
      have B_2 := Lib.hid (Below.after B_1.out hb)
      clear J_1 T_1 B_1
      clear hb
      go_wp2_with fail
      refine (cz2.out w2 T_2.out).mono ?_
      rintro e w3 ⟨rfl, hb⟩
      have J_3 := Lib.hid (J_2.out.after hN'.out hb)
      have T_3 := Lib.hid (T_2.out.after hN'.out hb)
      have B_3 := Lib.hid (Below.after B_2.out hb)
      clear J_2 T_2 B_2
      clear hb
      go_wp2_with fail
      refine (cs1.out w3 J_3.out).mono ?_
      rintro e w4 ⟨rfl, hb⟩
      have J_4 := Lib.hid (J_3.out.after hN'.out hb)
      have T_4 := Lib.hid (T_3.out.after hN'.out hb)
      have B_4 := Lib.hid (Below.after B_3.out hb)
      clear J_3 T_3 B_3
      clear hb
      have JEND := J_4
      have BEND := B_4
      clear e7 e8
      go_wp2_with fail
      go_roundw
      case rel => exact ⟨k + 1, J, by omega, rfl, by rw [hz'.out], by go_num, JEND.out, HQ.out.1, by rw [JS'.out, ha'.out]; omega, BEND.out⟩
      case measure => simp [intOf]; omega
    · obtain rfl : k = n2 := by omega
      go_wp2_with fail
      refine (cA.out wr).mono ?_
      rintro e w9 ⟨rfl, hb⟩
      have B9 := Lib.hid (Below.after BW.out hb)
      clear hb
      go_wp2
      go_ret
      exact ⟨rfl, B9.out⟩
end Go.Proofs.Ytfbmpgffekhmhaa
namespace Go.Proofs.Ytfbmpgffekhmhaa
open Go.RowKit Go.Proofs.Rowm Go.Proofs.Treem Go.Proofs.Cardm
set_option maxRecDepth 100000
variable {Nd : NdP}

theorem wbJoins_any (hN : NodeSays Nd) (hV : WbSays Nd) (hS : WbjSays Nd) (A : Option Addr) (n c : Nat) (l : List Bd) (hl : l.length = n) (hn : n ≤ c) (hc : c ≤ maxLen) (hz : A = none → c = 0) (B : Option Addr) (m d : Nat) (r : List Bd) (kl : r.length = m) (kn : m ≤ d) (kc : d ≤ maxLen) (kz : B = none → d = 0) (key val : BitVec 64) (w : World) (hr : Row w w.heap.size A (flat7 l)) (kr : Row w w.heap.size B (flat7 r)) :
    Calls Try.prog 3 #[.slice A n c, .slice B m d, K key, K val] w fun e w' => e = .returned (.bool true) ∧ Below w.heap.size w w' := by
  rcases long19_or hl hn hc hz hr kl kn kc kz kr with h | ⟨h, t, u, ht, hu, e1, e2⟩
  · exact wbJoins_long (alive19_any hN hV hS) A B n c m d key val w h
  · exact wbJoins_yes hN hS (alive19_any hN hV hS) A B n c m d key val l r t u w h ht hu e1 e2
theorem wbjoinShares_any (hN : NodeSays Nd) (hV : WbSays Nd) (hS : WbjSays Nd) (hW : ShareSays Nd) (A : Option Addr) (n c : Nat) (l : List Bd) (hl : l.length = n) (hn : n ≤ c) (hc : c ≤ maxLen) (hz : A = none → c = 0) (B : Option Addr) (m d : Nat) (r : List Bd) (kl : r.length = m) (kn : m ≤ d) (kc : d ≤ maxLen) (kz : B = none → d = 0) (key val : BitVec 64) (w : World) (hr : Row w w.heap.size A (flat7 l)) (kr : Row w w.heap.size B (flat7 r)) :
    Calls Try.prog 4 #[.slice A n c, .slice B m d, K key, K val] w fun e w' => e = .returned (.bool true) ∧ Below w.heap.size w w' := by
  rcases long19_or hl hn hc hz hr kl kn kc kz kr with h | ⟨h, t, u, ht, hu, e1, e2⟩
  · exact wbjoinShares_long (alive19_any hN hV hS) A B n c m d key val w h
  · exact wbjoinShares_yes hN hS hW (alive19_any hN hV hS) A B n c m d key val l r t u w h ht hu e1 e2
set_option maxHeartbeats 2000000 in
theorem wbjoinChain_off (hA : ∀ W : World, Calls Try.prog 7 #[] W fun e w' => e = .returned (.bool true) ∧ Below W.heap.size W w') (A B : Option Addr) (n c m d : Nat) (b x : Bool) (w : World) (h : Long19 w A n c none 0 0 b) (hb : b = true ∨ 200 < m) :
    Calls Try.prog 5 #[.slice A n c, .slice B m d, .bool x] w fun e w' => e = .returned (.bool true) ∧ Below w.heap.size w w' := by
  have c0 := Lib.hid (h w (Below.refl _ _))
  have c9 := Lib.hid hA
  clear h hA
  cases b with
  | true =>
    go_enter Try.func5, Try.ntmps5
    go_wp2_with fail
    refine c0.out.mono ?_
    rintro e w1 ⟨rfl, hb⟩
    have b1 := Lib.hid hb
    clear hb
    go_wp2_with fail
    refine (c9.out w1).mono ?_
    rintro e w2 ⟨rfl, hb⟩
    have b2 := Lib.hid (Below.after b1.out hb)
    clear hb
    go_wp2
    go_ret
    exact ⟨rfl, b2.out⟩
  | false =>
    have hm : 200 < m := hb.resolve_left (by simp)
    clear hb
    go_enter Try.func5, Try.ntmps5
    go_wp2_with fail
    refine c0.out.mono ?_
    rintro e w1 ⟨rfl, hb⟩
    have b1 := Lib.hid hb
    clear hb
    go_wp2_with fail
    refine (c9.out w1).mono ?_
    rintro e w2 ⟨rfl, hb⟩
    have b2 := Lib.hid (Below.after b1.out hb)
    clear hb
    go_wp2
    go_ret
    exact ⟨rfl, b2.out⟩
theorem wbjoinChain_any (hN : NodeSays Nd) (hV : WbSays Nd) (hS : WbjSays Nd) (A : Option Addr) (n c : Nat) (l : List Bd) (hl : l.length = n) (hn : n ≤ c) (hc : c ≤ maxLen) (hz : A = none → c = 0) (B : Option Addr) (m d : Nat) (ps : List Pr) (kl : ps.length = m) (x : Bool) (w : World) (hr : Row w w.heap.size A (flat7 l)) (kr : Row w w.heap.size B (flat ps)) :
    Calls Try.prog 5 #[.slice A n c, .slice B m d, .bool x] w fun e w' => e = .returned (.bool true) ∧ Below w.heap.size w w' := by
  have hA := alive19_any hN hV hS
  rcases long19_or hl hn hc hz hr (A' := none) (r := []) (m := 0) (d := 0) rfl (Nat.le_refl _) (Nat.zero_le _) (fun _ => rfl) (Row.none_ _ _ _) with h | ⟨h, t, u, ht, hu, e1, e2⟩
  · exact wbjoinChain_off hA A B n c m d true x w h (.inl rfl)
  · by_cases hm : 200 < m
    · exact wbjoinChain_off hA A B n c m d false x w h (.inr hm)
    · cases x with
      | true => exact wbjoinChain_back hN hV hS hA A B n c m d l ps t w h ht e1 kl (by omega) kr
      | false => exact wbjoinChain_fore hN hV hS hA A B n c m d l ps t w h ht e1 kl (by omega) kr
end Go.Proofs.Ytfbmpgffekhmhaa
