/- Proved here: for every order, every two rows of beads, every key, value and tag the law SoundJoins of layer 12 returns true (a node of two trees is sound just if one stands ahead of its key, and the other one behind it; sizes and sums are as they have to be); it changes nothing that lay. Condition: package mix's table of steps holds what its initialiser lays (tied to the program's text by the card). -/
import Derived.Test.YtfndaeocdgcaeaaDoorJF
import Derived.Test.YtfndaeocdgcaeaaDoorJO
import Derived.Test.YtfndaeocdgcaeaaDoorJP
import Derived.Test.YtfndaeocdgcaeaaDoorRows
import Derived.Below
import Derived.ChangeOld
import Derived.Test.YtfndaeocdgcaeaaDoorTie
import Derived.Test.YtfndaeocdgcaeaaDoorCards
/- Layer 12: the statement SoundJoins, walked. Made by wip/gen/layer12laws.py. -/
namespace Go.Proofs.YtfndaeocdgcaeaaDoor
open Go.RowKit Go.Proofs.Treem
set_option maxRecDepth 100000
variable {Nd : NdP} {T : World → Prop}

set_option maxHeartbeats 2000000 in
theorem soundJoins_long1 (hN : NodeSays Nd) (hS : SoundSays Nd T) (hO : OrdSays T) (o : Nat) (A A2 : Option Addr) (n c n2 c2 : Nat) (k x g : BitVec 64) (w : World) (h : LongAt w A n c true) (hT : T w) : Calls Tryd.prog 5 #[.int .u8 o, .slice A n c, .slice A2 n2 c2, K k, K x, G64 g] w fun e w' => e = .returned (.bool true) ∧ Below w.heap.size w w' := by
  have c0 := Lib.hid (h w (Below.refl _ _))
  clear h
  have c9 := Lib.hid (alive12_any hN hS hO w hT)
  clear hN hS hO hT
  go_enter Tryd.func5, Tryd.ntmps5
  go_wp2_with fail
  refine c0.out.mono ?_
  rintro e w' ⟨rfl, rfl⟩
  go_wp2_with fail
  refine c9.out.mono ?_
  rintro e w1 ⟨rfl, hb⟩
  have b1 := Lib.hid hb
  clear hb
  go_wp2
  go_ret
  exact ⟨rfl, b1.out⟩
set_option maxHeartbeats 2000000 in
theorem soundJoins_long2 (hN : NodeSays Nd) (hS : SoundSays Nd T) (hO : OrdSays T) (o : Nat) (A A2 : Option Addr) (n c n2 c2 : Nat) (k x g : BitVec 64) (w : World) (h : LongAt w A n c false) (h2 : LongAt w A2 n2 c2 true) (hT : T w) : Calls Tryd.prog 5 #[.int .u8 o, .slice A n c, .slice A2 n2 c2, K k, K x, G64 g] w fun e w' => e = .returned (.bool true) ∧ Below w.heap.size w w' := by
  have c0 := Lib.hid (h w (Below.refl _ _))
  have c1 := Lib.hid (h2 w (Below.refl _ _))
  clear h h2
  have c9 := Lib.hid (alive12_any hN hS hO w hT)
  clear hN hS hO hT
  go_enter Tryd.func5, Tryd.ntmps5
  go_wp2_with fail
  refine c0.out.mono ?_
  rintro e w' ⟨rfl, rfl⟩
  go_wp2_with fail
  refine c1.out.mono ?_
  rintro e w' ⟨rfl, rfl⟩
  go_wp2_with fail
  refine c9.out.mono ?_
  rintro e w1 ⟨rfl, hb⟩
  have b1 := Lib.hid hb
  clear hb
  go_wp2
  go_ret
  exact ⟨rfl, b1.out⟩
set_option maxHeartbeats 2000000 in
theorem soundJoins_low (hN : NodeSays Nd) (hS : SoundSays Nd T) (hO : OrdSays T) (o : Nat) (A A2 : Option Addr) (n c n2 c2 : Nat) (k x g : BitVec 64) (w : World) (h : LongAt w A n c false) (h2 : LongAt w A2 n2 c2 false) (ho : ¬ 1 ≤ o) (hT : T w) : Calls Tryd.prog 5 #[.int .u8 o, .slice A n c, .slice A2 n2 c2, K k, K x, G64 g] w fun e w' => e = .returned (.bool true) ∧ Below w.heap.size w w' := by
  have c0 := Lib.hid (h w (Below.refl _ _))
  have c1 := Lib.hid (h2 w (Below.refl _ _))
  obtain rfl : o = 0 := by omega
  clear h h2
  have c9 := Lib.hid (alive12_any hN hS hO w hT)
  clear hN hS hO hT
  go_enter Tryd.func5, Tryd.ntmps5
  go_wp2_with fail
  refine c0.out.mono ?_
  rintro e w' ⟨rfl, rfl⟩
  go_wp2_with fail
  refine c1.out.mono ?_
  rintro e w' ⟨rfl, rfl⟩
  go_wp2_with fail
  refine c9.out.mono ?_
  rintro e w1 ⟨rfl, hb⟩
  have b1 := Lib.hid hb
  clear hb
  go_wp2
  go_ret
  exact ⟨rfl, b1.out⟩
set_option maxHeartbeats 2000000 in
theorem soundJoins_high (hN : NodeSays Nd) (hS : SoundSays Nd T) (hO : OrdSays T) (o : Nat) (A A2 : Option Addr) (n c n2 c2 : Nat) (k x g : BitVec 64) (w : World) (h : LongAt w A n c false) (h2 : LongAt w A2 n2 c2 false) (ho : 7 < o) (hT : T w) : Calls Tryd.prog 5 #[.int .u8 o, .slice A n c, .slice A2 n2 c2, K k, K x, G64 g] w fun e w' => e = .returned (.bool true) ∧ Below w.heap.size w w' := by
  have c0 := Lib.hid (h w (Below.refl _ _))
  have c1 := Lib.hid (h2 w (Below.refl _ _))
  have d1 : decide ((o : Int) < 1) = false := decide_eq_false (by omega)
  have d2 : decide ((7 : Int) < (o : Int)) = true := decide_eq_true (by omega)
  clear h h2 ho
  have c9 := Lib.hid (alive12_any hN hS hO w hT)
  clear hN hS hO hT
  go_enter Tryd.func5, Tryd.ntmps5
  go_wp2_with fail
  refine c0.out.mono ?_
  rintro e w' ⟨rfl, rfl⟩
  go_wp2_with fail
  refine c1.out.mono ?_
  rintro e w' ⟨rfl, rfl⟩
  go_wp2_with fail
  refine c9.out.mono ?_
  rintro e w1 ⟨rfl, hb⟩
  have b1 := Lib.hid hb
  clear hb
  go_wp2
  go_ret
  exact ⟨rfl, b1.out⟩
set_option maxHeartbeats 4000000 in
theorem soundJoins_yes (hN : NodeSays Nd) (hS : SoundSays Nd T) (hO : OrdSays T) (o : Nat) (A A2 : Option Addr) (n c n2 c2 : Nat) (k x g : BitVec 64) (l m : List Bd) (t u : Tr) (w : World) (h : LongAt w A n c false) (h2 : LongAt w A2 n2 c2 false) (ht : TreeIn w A n c l t) (hu : TreeIn w A2 n2 c2 m u) (o1 : 1 ≤ o) (o7 : o ≤ 7) (hT : T w) : Calls Tryd.prog 5 #[.int .u8 o, .slice A n c, .slice A2 n2 c2, K k, K x, G64 g] w fun e w' => e = .returned (.bool true) ∧ Below w.heap.size w w' := by
  have c0 := Lib.hid (h w (Below.refl _ _))
  have c1 := Lib.hid (h2 w (Below.refl _ _))
  have cM := Lib.hid (ht.make hN)
  have cM2 := Lib.hid (hu.make hN)
  have hts : t.size ≤ 400 := by rw [ht.size]; exact ht.few
  have hus : u.size ≤ 400 := by rw [hu.size]; exact hu.few
  have cA : Hid (∀ W, Below w.heap.size w W → Calls Tryd.prog 7 #[] W fun e w' => e = .returned (.bool true) ∧ Below W.heap.size W w') := fun W hb => alive12_any hN hS hO W (hO.next hT hb)
  obtain ⟨y, hy⟩ : ∃ y, Tr.n t k x g u = y := ⟨_, rfl⟩
  obtain ⟨z, hz⟩ : ∃ z, Tr.n .e k x g .e = z := ⟨_, rfl⟩
  have hys : y.size ≤ 5000 := by rw [← hy, Tr.size]; omega
  have hzs : z.size ≤ 5000 := by rw [← hz, Tr.size, Tr.size]; omega
  have cC : Hid (∀ W p, Below w.heap.size w W → TreeAt Nd W W.heap.size y p → Calls Tryd.prog 9 #[.int .u8 o, .pointer p] W (Checked o y W)) := fun W p hb hp => hS.check W o y p (hO.next hT hb) hp hys
  have cE : Hid (∀ W p, TreeAt Nd W W.heap.size y p → Calls Tryd.prog 11 #[.pointer p] W fun e w' => e = .returned (.bool true) ∧ Below W.heap.size W w') := fun W p hp => hS.exact W y p hp hys
  have cE2 : Hid (∀ W p, TreeAt Nd W W.heap.size t p → Calls Tryd.prog 11 #[.pointer p] W fun e w' => e = .returned (.bool true) ∧ Below W.heap.size W w') := fun W p hp => hS.exact W t p hp (by omega)
  have cF : Hid (∀ W p q, Below w.heap.size w W → TreeAt Nd W W.heap.size t p → TreeAt Nd W W.heap.size z q → Calls Tryd.prog 12 #[.int .u8 o, .pointer p, .pointer q] W fun e w' => e = .returned (.bool (ahd o t z)) ∧ Below W.heap.size W w') := fun W p q hb hp hq => hS.ahead W o t z p q (hO.next hT hb) hp hq (by omega) hzs
  have cG : Hid (∀ W p q, Below w.heap.size w W → TreeAt Nd W W.heap.size z p → TreeAt Nd W W.heap.size u q → Calls Tryd.prog 12 #[.int .u8 o, .pointer p, .pointer q] W fun e w' => e = .returned (.bool (ahd o z u)) ∧ Below W.heap.size W w') := fun W p q hb hp hq => hS.ahead W o z u p q (hO.next hT hb) hp hq hzs (by omega)
  have cN : Hid (∀ W, Calls Tryd.prog 20 #[.pointer none, K k, K x, G64 g, .pointer none] W fun e w' => ∃ a, e = .returned (.pointer (some a)) ∧ TreeAt Nd w' w'.heap.size z (some a) ∧ Below W.heap.size W w') := fun W => (new9 hN W none none .e .e k x g rfl rfl).mono fun e w' ⟨a, h1, _, _, h2, h3⟩ => ⟨a, h1, hz ▸ h2, h3⟩
  have cN2 : Hid (∀ W p q, TreeAt Nd W W.heap.size t p → TreeAt Nd W W.heap.size u q → Calls Tryd.prog 20 #[.pointer p, K k, K x, G64 g, .pointer q] W fun e w' => ∃ a, e = .returned (.pointer (some a)) ∧ TreeAt Nd w' w'.heap.size y (some a) ∧ Below W.heap.size W w') := fun W p q hp hq => (new9 hN W p q t u k x g hp hq).mono fun e w' ⟨a, h1, _, _, h2, h3⟩ => ⟨a, h1, hy ▸ h2, h3⟩
  have hjoin : (chkE o y == 0) = (ahd o t z && ahd o z u) := by
    rw [chkE_ok o y o1 o7, Bool.eq_iff_iff, ← hy, join_sound, Bool.and_eq_true, ahd, ahd, decide_eq_true (⟨o1, o7⟩ : 1 ≤ o ∧ o ≤ 7), Bool.true_and, Bool.true_and, hz]
  unfold Checked at cC
  obtain ⟨f, hf⟩ : ∃ f, chkN o y = f := ⟨_, rfl⟩
  obtain ⟨E, hE⟩ : ∃ E, chkE o y = E := ⟨_, rfl⟩
  obtain ⟨v1, hv1⟩ : ∃ v, ahd o t z = v := ⟨_, rfl⟩
  obtain ⟨v2, hv2⟩ : ∃ v, ahd o z u = v := ⟨_, rfl⟩
  rw [hf, hE] at cC
  rw [hv1] at cF
  rw [hv2] at cG
  rw [hE, hv1, hv2] at hjoin
  have hj := Lib.hid hjoin
  have hN' := Lib.hid hN
  have b_0 := Lib.hid (Below.refl w.heap.size w)
  have d1 : decide ((o : Int) < 1) = false := decide_eq_false (by omega)
  have d2 : decide ((7 : Int) < (o : Int)) = false := decide_eq_false (by omega)
  clear hN hS hO hT h h2 ht hu hts hus hf hE hv1 hv2 hjoin hys hzs hy hz o1 o7
  go_enter Tryd.func5, Tryd.ntmps5
  go_wp2_with fail
  refine c0.out.mono ?_
  rintro e w' ⟨rfl, rfl⟩
  go_wp2_with fail
  refine c1.out.mono ?_
  rintro e w' ⟨rfl, rfl⟩
  go_wp2_with fail
  refine (cM.out w b_0.out).mono ?_
  rintro e w_1 ⟨p, rfl, hP, hb⟩
  have P_1 := Lib.hid hP
  have b_1 := Lib.hid (Below.after b_0.out hb)
  clear hb b_0 hP
  go_wp2_with fail
  refine (cM2.out w_1 b_1.out).mono ?_
  rintro e w_2 ⟨q, rfl, hQ, hb⟩
  have P_2 := Lib.hid (P_1.out.after hN'.out hb)
  have Q_2 := Lib.hid hQ
  have b_2 := Lib.hid (Below.after b_1.out hb)
  clear hb b_1 P_1 hQ
  go_wp2_with fail
  refine (cN.out w_2).mono ?_
  rintro e w_3 ⟨a1, rfl, hX, hb⟩
  have P_3 := Lib.hid (P_2.out.after hN'.out hb)
  have Q_3 := Lib.hid (Q_2.out.after hN'.out hb)
  have Z_3 := Lib.hid hX
  have b_3 := Lib.hid (Below.after b_2.out hb)
  clear hb b_2 P_2 Q_2 hX
  go_wp2_with fail
  refine (cN2.out w_3 _ _ P_3.out Q_3.out).mono ?_
  rintro e w_4 ⟨a2, rfl, hX, hb⟩
  have P_4 := Lib.hid (P_3.out.after hN'.out hb)
  have Q_4 := Lib.hid (Q_3.out.after hN'.out hb)
  have Z_4 := Lib.hid (Z_3.out.after hN'.out hb)
  have Y_4 := Lib.hid hX
  have b_4 := Lib.hid (Below.after b_3.out hb)
  clear hb b_3 P_3 Q_3 Z_3 hX
  go_wp2_with fail
  refine (cC.out w_4 _ b_4.out Y_4.out).mono ?_
  rintro e w_5 ⟨rfl, hb⟩
  have P_5 := Lib.hid (P_4.out.after hN'.out hb)
  have Q_5 := Lib.hid (Q_4.out.after hN'.out hb)
  have Z_5 := Lib.hid (Z_4.out.after hN'.out hb)
  have Y_5 := Lib.hid (Y_4.out.after hN'.out hb)
  have b_5 := Lib.hid (Below.after b_4.out hb)
  clear hb b_4 P_4 Q_4 Z_4 Y_4
  go_wp2_with fail
  refine (cF.out w_5 _ _ b_5.out P_5.out Z_5.out).mono ?_
  rintro e w_6 ⟨rfl, hb⟩
  have P_6 := Lib.hid (P_5.out.after hN'.out hb)
  have Q_6 := Lib.hid (Q_5.out.after hN'.out hb)
  have Z_6 := Lib.hid (Z_5.out.after hN'.out hb)
  have Y_6 := Lib.hid (Y_5.out.after hN'.out hb)
  have b_6 := Lib.hid (Below.after b_5.out hb)
  clear hb b_5 P_5 Q_5 Z_5 Y_5
  cases v1
  case false =>
    have hj2 : (E == 0) = false := hj.out
    clear hj
    go_wp2_with fail
    refine (cE.out w_6 _ Y_6.out).mono ?_
    rintro e w_7 ⟨rfl, hb⟩
    have P_7 := Lib.hid (P_6.out.after hN'.out hb)
    have Q_7 := Lib.hid (Q_6.out.after hN'.out hb)
    have Z_7 := Lib.hid (Z_6.out.after hN'.out hb)
    have Y_7 := Lib.hid (Y_6.out.after hN'.out hb)
    have b_7 := Lib.hid (Below.after b_6.out hb)
    clear hb b_6 P_6 Q_6 Z_6 Y_6
    go_wp2_with fail
    refine (cE2.out w_7 _ P_7.out).mono ?_
    rintro e w_8 ⟨rfl, hb⟩
    have P_8 := Lib.hid (P_7.out.after hN'.out hb)
    have Q_8 := Lib.hid (Q_7.out.after hN'.out hb)
    have Z_8 := Lib.hid (Z_7.out.after hN'.out hb)
    have Y_8 := Lib.hid (Y_7.out.after hN'.out hb)
    have b_8 := Lib.hid (Below.after b_7.out hb)
    clear hb b_7 P_7 Q_7 Z_7 Y_7
    go_wp2_with fail
    refine (cA.out w_8 b_8.out).mono ?_
    rintro e w_9 ⟨rfl, hb⟩
    have P_9 := Lib.hid (P_8.out.after hN'.out hb)
    have Q_9 := Lib.hid (Q_8.out.after hN'.out hb)
    have Z_9 := Lib.hid (Z_8.out.after hN'.out hb)
    have Y_9 := Lib.hid (Y_8.out.after hN'.out hb)
    have b_9 := Lib.hid (Below.after b_8.out hb)
    clear hb b_8 P_8 Q_8 Z_8 Y_8
    go_wp2
    go_ret
    exact ⟨rfl, b_9.out⟩
  case true =>
    go_wp2_with fail
    refine (cG.out w_6 _ _ b_6.out Z_6.out Q_6.out).mono ?_
    rintro e w_7 ⟨rfl, hb⟩
    have P_7 := Lib.hid (P_6.out.after hN'.out hb)
    have Q_7 := Lib.hid (Q_6.out.after hN'.out hb)
    have Z_7 := Lib.hid (Z_6.out.after hN'.out hb)
    have Y_7 := Lib.hid (Y_6.out.after hN'.out hb)
    have b_7 := Lib.hid (Below.after b_6.out hb)
    clear hb b_6 P_6 Q_6 Z_6 Y_6
    have hj2 : (E == 0) = v2 := hj.out
    clear hj
    go_wp2_with fail
    refine (cE.out w_7 _ Y_7.out).mono ?_
    rintro e w_8 ⟨rfl, hb⟩
    have P_8 := Lib.hid (P_7.out.after hN'.out hb)
    have Q_8 := Lib.hid (Q_7.out.after hN'.out hb)
    have Z_8 := Lib.hid (Z_7.out.after hN'.out hb)
    have Y_8 := Lib.hid (Y_7.out.after hN'.out hb)
    have b_8 := Lib.hid (Below.after b_7.out hb)
    clear hb b_7 P_7 Q_7 Z_7 Y_7
    go_wp2_with fail
    refine (cE2.out w_8 _ P_8.out).mono ?_
    rintro e w_9 ⟨rfl, hb⟩
    have P_9 := Lib.hid (P_8.out.after hN'.out hb)
    have Q_9 := Lib.hid (Q_8.out.after hN'.out hb)
    have Z_9 := Lib.hid (Z_8.out.after hN'.out hb)
    have Y_9 := Lib.hid (Y_8.out.after hN'.out hb)
    have b_9 := Lib.hid (Below.after b_8.out hb)
    clear hb b_8 P_8 Q_8 Z_8 Y_8
    go_wp2_with fail
    refine (cA.out w_9 b_9.out).mono ?_
    rintro e w_10 ⟨rfl, hb⟩
    have P_10 := Lib.hid (P_9.out.after hN'.out hb)
    have Q_10 := Lib.hid (Q_9.out.after hN'.out hb)
    have Z_10 := Lib.hid (Z_9.out.after hN'.out hb)
    have Y_10 := Lib.hid (Y_9.out.after hN'.out hb)
    have b_10 := Lib.hid (Below.after b_9.out hb)
    clear hb b_9 P_9 Q_9 Z_9 Y_9
    go_wp2
    go_ret
    exact ⟨rfl, b_10.out⟩
end Go.Proofs.YtfndaeocdgcaeaaDoor
namespace Go.Proofs.YtfndaeocdgcaeaaDoor
open Go.ChangeShapes Go.WideShapes Go.ChangeAt Go.RowKit
open Treem in
theorem soundJoins_any (o : Nat) (ho : o ≤ 255) (A : Option Addr) (n c : Nat) (l : List Bd) (hl : l.length = n) (hn : n ≤ c) (hc : c ≤ maxLen) (hz : A = none → c = 0) (B : Option Addr) (m d : Nat) (r : List Bd) (kl : r.length = m) (kn : m ≤ d) (kc : d ≤ maxLen) (kz : B = none → d = 0) (k x g : BitVec 64) (w : World) (hr : Row w w.heap.size A (flat7 l)) (kr : Row w w.heap.size B (flat7 r)) (h0 : 0 < w.heap.size) (hs : Go.Proofs.YtfndaeocdgcaeaaDoor.Steps w) :
    Calls Tryd.prog 5 #[.int .u8 o, .slice A n c, .slice B m d, K k, K x, G64 g] w fun e w' => e = .returned (.bool true) ∧ Below w.heap.size w w' := by
  rcases long_or hl hn hc hz hr with h | ⟨h, t, ht⟩
  · exact soundJoins_long1 node_says (sound_of node_says ord_says) ord_says o A B n c m d k x g w h ⟨h0, hs⟩
  · rcases long_or kl kn kc kz kr with j | ⟨j, q, hq⟩
    · exact soundJoins_long2 node_says (sound_of node_says ord_says) ord_says o A B n c m d k x g w h j ⟨h0, hs⟩
    · by_cases h1 : 1 ≤ o
      · by_cases h7 : o ≤ 7
        · exact soundJoins_yes node_says (sound_of node_says ord_says) ord_says o A B n c m d k x g l r t q w h j ht hq h1 h7 ⟨h0, hs⟩
        · exact soundJoins_high node_says (sound_of node_says ord_says) ord_says o A B n c m d k x g w h j (by omega) ⟨h0, hs⟩
      · exact soundJoins_low node_says (sound_of node_says ord_says) ord_says o A B n c m d k x g w h j h1 ⟨h0, hs⟩

set_option maxRecDepth 100000 in
theorem soundJoins_lifted (os : Os) (started : os.Started) (H : Type) (enc : TypeId × Value → H) :
    ReturnsInHanded {} Tryd.checked os 5 .any (fun w args => (Rows.soundJoinsSpec.pre enc Tryd.prog Tryd.f5 [] false w args ∧ laidMetH Tryd.prog laid12 w) ∧ sizedMet enc Tryd.prog Tryd.f5 (OpenSpec.ofChange Rows.soundJoinsSpec) false w args)
      (Rows.soundJoinsSpec.post enc Tryd.prog Tryd.f5 false true false false) := by
  refine returnsInHanded_of_change_and (C := Tryd.checked) (X := fun w _ => laidMetH Tryd.prog laid12 w) (fun _ _ _ hh h => h.of_heap hh) own started (by kernel_rfl) Tryd.func5
    (ChangeSpec.witness_shaped (enc := enc) (C := Tryd.checked) (os := os) (X := fun w _ => laidMetH Tryd.prog laid12 w) false (World.doorLaid Tryd.prog 400 os) #[.int .u8 0, .slice none 0 0, .slice none 0 0, .int .i64 0, .int .i64 0, .int .u64 0] 8 rfl (World.shaped_of_RefB (by kernel_rfl) (by kernel_rfl)) (by kernel_rfl) (by kernel_rfl) (by kernel_rfl) (door_met os _)) ?_
  intro W base args ds gs before hval0 hW _ _ hL _
  have hval : ∀ (j : Nat) t v, Tryd.f5.params[j]? = some t → args[j]? = some v → Value.okWide Tryd.prog W .any base t v := hval0
  have hW' := hW
  obtain ⟨p, q, hA0, hV, rfl, hfz, hnd⟩ := hW
  have hA : DataW.TrodAll enc Tryd.prog W 0 (fun _ => true) true Tryd.f5.params.toList args.toList ds p := hA0
  rw [Tryd.params5] at hA hval
  obtain ⟨v0, vs0, d0, ds0, p0, q0, hargs, rfl, rfl, h0, r0⟩ := trodAll_cons hA
  obtain ⟨v1, vs1, d1, ds1, p1, q1, rfl, rfl, rfl, h1, r1⟩ := trodAll_cons r0
  obtain ⟨v2, vs2, d2, ds2, p2, q2, rfl, rfl, rfl, h2, r2⟩ := trodAll_cons r1
  obtain ⟨v3, vs3, d3, ds3, p3, q3, rfl, rfl, rfl, h3, r3⟩ := trodAll_cons r2
  obtain ⟨v4, vs4, d4, ds4, p4, q4, rfl, rfl, rfl, h4, r4⟩ := trodAll_cons r3
  obtain ⟨v5, vs5, d5, ds5, p5, q5, rfl, rfl, rfl, h5, r5⟩ := trodAll_cons r4
  obtain ⟨rfl, rfl, rfl⟩ := trodAll_nil r5
  obtain rfl : args = #[v0, v1, v2, v3, v4, v5] := by cases args; simp_all
  obtain ⟨rfl, rfl⟩ := trodVars_none hV
  obtain ⟨a0, rfl, rfl, rfl, w0⟩ := open_int Tryd.underlying5 (hval 0 5 v0 rfl rfl) h0
  obtain ⟨b0, rfl, u0⟩ := byte_of a0 w0
  have k1 := h1
  have lt1 : ∀ x ∈ p1, x.block < W.heap.size := by obtain ⟨m, hm⟩ := k1; exact DataW.trod_lt m _ _ _ hm
  obtain ⟨A1, n1, c1, l1, rfl, hl1, hn1, hc1, hz1, hr1⟩ := open_beads (hval 1 22 v1 rfl rfl) h1
  have k2 := h2
  have lt2 : ∀ x ∈ p2, x.block < W.heap.size := by obtain ⟨m, hm⟩ := k2; exact DataW.trod_lt m _ _ _ hm
  obtain ⟨A2, n2, c2, l2, rfl, hl2, hn2, hc2, hz2, hr2⟩ := open_beads (hval 2 22 v2 rfl rfl) h2
  obtain ⟨a3, rfl, rfl, rfl, w3⟩ := open_int Tryd.underlying2 (hval 3 2 v3 rfl rfl) h3
  obtain ⟨b3, rfl⟩ := key_of a3 w3
  obtain ⟨a4, rfl, rfl, rfl, w4⟩ := open_int Tryd.underlying2 (hval 4 2 v4 rfl rfl) h4
  obtain ⟨b4, rfl⟩ := key_of a4 w4
  obtain ⟨a5, rfl, rfl, rfl, w5⟩ := open_int Tryd.underlying42 (hval 5 42 v5 rfl rfl) h5
  obtain ⟨b5, rfl⟩ := num_of a5 w5
  obtain ⟨hz, hst⟩ := steps_of hL
  clear hA0 hval0
  refine (soundJoins_any b0 u0 A1 n1 c1 l1 hl1 hn1 hc1 hz1 A2 n2 c2 l2 hl2 hn2 hc2 hz2 b3 b4 b5 W hr1 hr2 hz hst).mono fun e W' ⟨he, bel⟩ => ?_
  subst he
  exact ⟨_, rfl, _, _, _, [], _, [], hW', trodAll_mk1 (shut_bool Tryd.underlying4 _), trodAll_cons_mk (shut_int Tryd.underlying5 w0) (trodAll_cons_mk (Below.trod laidOut (by kernel_rfl) (of_decide_eq_true (by kernel_rfl)) k1 bel lt1) (trodAll_cons_mk (Below.trod laidOut (by kernel_rfl) (of_decide_eq_true (by kernel_rfl)) k2 bel lt2) (trodAll_cons_mk (shut_int Tryd.underlying2 w3) (trodAll_cons_mk (shut_int Tryd.underlying2 w4) (trodAll_cons_mk (shut_int Tryd.underlying42 w5) trodAll_mk0))))), rfl, bel.frame _, fun h => by cases h⟩

theorem soundJoins_row : Rows.SoundJoinsSaid :=
  OpenClaim.holds_of_wide 5 Tryd.f5 rfl rfl rfl rfl rfl rfl rfl ⟨rfl, rfl, rfl, rfl, rfl⟩ rfl rfl rfl rfl rfl (by kernel_rfl) Tryd.func5 (by kernel_rfl)
    (of_decide_eq_true (by kernel_rfl)) (by unfold Func.isWrapper; first | (rw [if_pos (by decide +kernel)]; kernel_rfl) | (rw [if_neg (by decide +kernel)]; exact ⟨rfl, rfl⟩))
    (fun os started H enc _ => soundJoins_lifted os started H enc)

theorem soundJoins_holds : Rows.SoundJoinsCardSaid :=
  Claim7.holds_tied_plain_at .later [] [.data] true Rows.soundJoinsCard.stood.harness false
    soundJoins_row (fun _ h => by cases h) (by kernel_rfl) (fun _ h => by cases h) soundJoins_row_tie rfl ⟨rfl, rfl⟩ (by kernel_rfl) rfl
    (fun f fn hf hfn => by
      obtain rfl : f = 5 := Option.some.inj ((show Tryd.prog.funcNamed Rows.soundJoinsRow.func = some 5 by kernel_rfl).symm.trans hf) |>.symm
      obtain rfl : fn = Tryd.f5 := (Option.some.inj (Tryd.func5.symm.trans hfn)).symm
      exact ⟨by kernel_rfl, fun j t ht => by
        rw [Tryd.params5] at ht
        have hm : t ∈ [5, 22, 22, 2, 2, 42] := by simpa using Array.mem_of_getElem? ht
        have hall : ([5, 22, 22, 2, 2, 42].all fun u => !Tryd.prog.wantsStandIn u) = true := by kernel_rfl
        exact (show Tryd.prog.wantsStandIn t = false by simpa using List.all_eq_true.1 hall t hm)⟩)
    (by kernel_rfl)
#print axioms soundJoins_holds
end Go.Proofs.YtfndaeocdgcaeaaDoor
