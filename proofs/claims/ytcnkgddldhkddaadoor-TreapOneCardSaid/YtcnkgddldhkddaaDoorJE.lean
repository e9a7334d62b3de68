/- What the listed table (package mix's steps) gives a walk; a start that meets it (layer 20). -/
import Derived.Test.YtcnkgddldhkddaaDoorJB
import Derived.Test.YtcnkgddldhkddaaDoorJA
import Derived.Test.YtcnkgddldhkddaaDoorGBeads
import Derived.Lib.SmallJoins
import Derived.Test.YtcnkgddldhkddaaDoorRows
import Derived.Test.YtcnkgddldhkddaaDoorGOpen
import Derived.ProofKit
import Derived.LaidMore
import Derived.OpenShut
import Derived.Stop.Joined
import Derived.Deep.Slices
import Derived.Deep.Fields
import Derived.ChangeSame
/- Layer 20: the chapter's example (alive). Made by wip/gen/layer20laws.py. -/
namespace Go.Proofs.YtcnkgddldhkddaaDoor
open Go.RowKit Go.Proofs.Treem
set_option maxRecDepth 100000
variable {Nd : NdP} {T : World → Prop}

set_option maxHeartbeats 4000000 in
theorem alive20_any (hN : NodeSays Nd) (hS : TreapSays Nd T) (w : World) (hT : T w) : Calls Tryd.prog 8 #[] w fun e w' => e = .returned (.bool true) ∧ Below w.heap.size w w' := by
  have cF : Hid (∀ W A c, LieI W W.heap.size A 3 c exI → Calls Tryd.prog 22 #[.slice A 3 c] W fun e w' => ∃ a x y z, ∃ pl pr, e = .returned (.pointer (some a)) ∧ x.l = some pl ∧ x.r = some pr ∧ x.k = 2#64 ∧ Nd w' w'.heap.size a x ∧ y.k = 1#64 ∧ Nd w' w'.heap.size pl y ∧ z.k = 3#64 ∧ Nd w' w'.heap.size pr z ∧ TreeAt Nd w' w'.heap.size exT (some a) ∧ Below W.heap.size W w') := fun W A c h => (hS.of W A 3 c exI (by decide) h).mono (by
    rintro e w' ⟨p, rfl, k1, k2⟩
    rw [of_ex] at k1
    have k3 := k1
    obtain ⟨a, pl, pr, rfl, k4, ⟨b, ql, qr, rfl, k5, -, -⟩, ⟨d, sl, sr, rfl, k6, -, -⟩⟩ := k3
    exact ⟨a, _, _, _, b, d, rfl, rfl, rfl, rfl, k4, rfl, k5, rfl, k6, k1, k2⟩)
  have cN : Hid (∀ W p, TreeAt Nd W W.heap.size exT p → Calls Tryd.prog 19 #[.pointer p, .int .i64 4, .int .i64 0, .int .u64 8, .pointer none] W fun e w' => ∃ a, e = .returned (.pointer (some a)) ∧ TreeAt Nd w' w'.heap.size (.n exT 4#64 0#64 8#64 .e) (some a) ∧ Below W.heap.size W w') := fun W p h => (new9 hN W p none exT .e 4#64 0#64 8#64 h rfl).mono fun e w' ⟨a, k1, _, _, k4, k5⟩ => ⟨a, k1, k4, k5⟩
  have cC : Hid (∀ W p, TreeAt Nd W W.heap.size (.n exT 4#64 0#64 8#64 .e) p → Calls Tryd.prog 10 #[.pointer p] W fun e w' => e = .returned (.tuple #[.int .i64 0, .int .i64 8]) ∧ Below W.heap.size W w') := fun W p hp => hS.check W (.n exT 4#64 0#64 8#64 .e) p hp (by decide)
  have cM : Hid (∀ W p, TreeAt Nd W W.heap.size exT p → Calls Tryd.prog 12 #[.pointer p] W fun e w' => e = .returned (.bool true) ∧ Below W.heap.size W w') := fun W p hp => hS.may W exT p hp (by decide)
  have cI : Hid (∀ W p, TreeAt Nd W W.heap.size exT p → Calls Tryd.prog 15 #[.pointer p] W fun e w' => ∃ A c, e = .returned (.slice A 3 c) ∧ LieI w' w'.heap.size A 3 c exI ∧ Below W.heap.size W w') := fun W p hp => hS.items W exT p hp (by decide)
  have hmx : mixedT exT = false := by decide
  have cX : Hid (∀ W, Below w.heap.size w W → ∀ p, TreeAt Nd W W.heap.size exT p → Calls Tryd.prog 17 #[.pointer p] W fun e w' => e = .returned (.bool false) ∧ Below W.heap.size W w') := fun W hb p hp => hmx ▸ hS.mixed W exT p (hS.now w W hT hb) hp (by decide)
  have cX0 : Hid (∀ W, Below w.heap.size w W → Calls Tryd.prog 17 #[.pointer none] W fun e w' => e = .returned (.bool true) ∧ Below W.heap.size W w') := fun W hb => hS.mixed W .e none (hS.now w W hT hb) rfl (by decide)
  have cF0 : Hid (∀ W, Calls Tryd.prog 22 #[.slice none 0 0] W fun e w' => e = .returned (.pointer none) ∧ Below W.heap.size W w') := fun W => (hS.of W none 0 0 [] (by decide) ⟨rfl, by decide, Nat.le_refl _, Nat.zero_le _, fun _ => rfl, Row.none_ _ _ _⟩).mono (by
    rintro e w' ⟨p, rfl, k1, k2⟩
    rw [ofT_nil] at k1
    obtain rfl : p = none := k1
    exact ⟨rfl, k2⟩)
  have cB : Hid (∀ W p, TreeAt Nd W W.heap.size exT p → Calls Tryd.prog 20 #[.pointer p, .pointer none] W fun e w' => e = .returned (.bool false) ∧ Below W.heap.size W w') := fun W p hp => hS.above W exT .e p none hp rfl
  have cB0 : Hid (∀ W, Calls Tryd.prog 20 #[.pointer none, .pointer none] W fun e w' => e = .returned (.bool false) ∧ Below W.heap.size W w') := fun W => hS.above W .e .e none none rfl rfl
  have hN' := Lib.hid hN
  clear hN hS hT hmx
  go_enter Tryd.func8, Tryd.ntmps8
  have B_0 := Lib.hid (Below.refl w.heap.size w)
  go_upto_region 2 with (fail)
  obtain ⟨u0, hu⟩ : ∃ u, w.alloc (.cells #[.int .i64 1, .int .i64 0, .int .u64 5, .int .i64 2, .int .i64 0, .int .u64 9, .int .i64 3, .int .i64 0, .int .u64 5] 38) = u := ⟨_, rfl⟩
  have hb : Below w.heap.size w u0 := hu ▸ (Below.refl _ _).alloc (Nat.le_refl _) _
  have hL : LieI u0 u0.heap.size (some ⟨w.heap.size, 0, none⟩) 3 3 exI := ⟨rfl, by decide, Nat.le_refl _, by unfold maxLen; decide, fun e => (by cases e), by rw [← hu]; exact (Has.new w 38 #[.int .i64 1, .int .i64 0, .int .u64 5, .int .i64 2, .int .i64 0, .int .u64 9, .int .i64 3, .int .i64 0, .int .u64 5]).row⟩
  rw [hu]
  have B_1 := Lib.hid (Below.after B_0.out hb)
  clear B_0
  have L_2 := Lib.hid hL
  clear hb hu hL
  obtain ⟨g, hg⟩ : ∃ g, w.heap.size = g := ⟨_, rfl⟩
  rw [hg] at L_2 ⊢
  clear hg
  go_wp2_with fail
  refine (cF.out u0 _ _ L_2.out).mono ?_
  rintro e w3 ⟨a, x, y, z, pl, pr, rfl, hxl, hxr, hxk, hX, hyk, hY, hzk, hZ, hP, hb⟩
  have L_3 := Lib.hid (L_2.out.after hb)
  have B_3 := Lib.hid (Below.after B_1.out hb)
  clear L_2 B_1
  have X_3 := Lib.hid hX
  clear hX
  have Y_3 := Lib.hid hY
  clear hY
  have Z_3 := Lib.hid hZ
  clear hZ
  have P_3 := Lib.hid hP
  clear hP
  clear hb
  go_wp2_with fail
  refine (cN.out w3 _ P_3.out).mono ?_
  rintro e w4 ⟨b, rfl, hQ, hb⟩
  have L_4 := Lib.hid (L_3.out.after hb)
  have X_4 := Lib.hid (nd_after hN'.out X_3.out hb)
  have Y_4 := Lib.hid (nd_after hN'.out Y_3.out hb)
  have Z_4 := Lib.hid (nd_after hN'.out Z_3.out hb)
  have P_4 := Lib.hid (P_3.out.after hN'.out hb)
  have B_4 := Lib.hid (Below.after B_3.out hb)
  clear L_3 X_3 Y_3 Z_3 P_3 B_3
  have Q_4 := Lib.hid hQ
  clear hQ
  clear hb
  go_wp2_with fail
  refine (cC.out w4 _ Q_4.out).mono ?_
  rintro e w5 ⟨rfl, hb⟩
  have L_5 := Lib.hid (L_4.out.after hb)
  have X_5 := Lib.hid (nd_after hN'.out X_4.out hb)
  have Y_5 := Lib.hid (nd_after hN'.out Y_4.out hb)
  have Z_5 := Lib.hid (nd_after hN'.out Z_4.out hb)
  have P_5 := Lib.hid (P_4.out.after hN'.out hb)
  have Q_5 := Lib.hid (Q_4.out.after hN'.out hb)
  have B_5 := Lib.hid (Below.after B_4.out hb)
  clear L_4 X_4 Y_4 Z_4 P_4 Q_4 B_4
  clear hb
  go_wp2_with fail
  refine (hN'.out.key w5 _ _ _ X_5.out).mono ?_
  rintro e w' ⟨rfl, rfl⟩
  rw [hxk]
  go_wp2_with fail
  refine (hN'.out.left w5 _ _ _ X_5.out).mono ?_
  rintro e w' ⟨rfl, rfl⟩
  rw [hxl]
  go_wp2_with fail
  refine (hN'.out.key w5 _ _ _ Y_5.out).mono ?_
  rintro e w' ⟨rfl, rfl⟩
  rw [hyk]
  go_wp2_with fail
  refine (hN'.out.right w5 _ _ _ X_5.out).mono ?_
  rintro e w' ⟨rfl, rfl⟩
  rw [hxr]
  go_wp2_with fail
  refine (hN'.out.key w5 _ _ _ Z_5.out).mono ?_
  rintro e w' ⟨rfl, rfl⟩
  rw [hzk]
  go_wp2_with fail
  refine (cM.out w5 _ P_5.out).mono ?_
  rintro e w6 ⟨rfl, hb⟩
  have L_6 := Lib.hid (L_5.out.after hb)
  have X_6 := Lib.hid (nd_after hN'.out X_5.out hb)
  have Y_6 := Lib.hid (nd_after hN'.out Y_5.out hb)
  have Z_6 := Lib.hid (nd_after hN'.out Z_5.out hb)
  have P_6 := Lib.hid (P_5.out.after hN'.out hb)
  have Q_6 := Lib.hid (Q_5.out.after hN'.out hb)
  have B_6 := Lib.hid (Below.after B_5.out hb)
  clear L_5 X_5 Y_5 Z_5 P_5 Q_5 B_5
  clear hb
  go_wp2_with fail
  refine (cI.out w6 _ P_6.out).mono ?_
  rintro e w7 ⟨A2, c2, rfl, hI, hb⟩
  have L_7 := Lib.hid (L_6.out.after hb)
  have X_7 := Lib.hid (nd_after hN'.out X_6.out hb)
  have Y_7 := Lib.hid (nd_after hN'.out Y_6.out hb)
  have Z_7 := Lib.hid (nd_after hN'.out Z_6.out hb)
  have P_7 := Lib.hid (P_6.out.after hN'.out hb)
  have Q_7 := Lib.hid (Q_6.out.after hN'.out hb)
  have B_7 := Lib.hid (Below.after B_6.out hb)
  clear L_6 X_6 Y_6 Z_6 P_6 Q_6 B_6
  have I_7 := Lib.hid hI
  clear hI
  clear hb
  go_wp2_with fail
  refine (sameI20_any A2 (some ⟨g, 0, none⟩) 3 3 c2 3 exI exI true (by simp) w7 I_7.out L_7.out).mono ?_
  rintro e w8 ⟨rfl, hb⟩
  have L_8 := Lib.hid (L_7.out.after hb)
  have X_8 := Lib.hid (nd_after hN'.out X_7.out hb)
  have Y_8 := Lib.hid (nd_after hN'.out Y_7.out hb)
  have Z_8 := Lib.hid (nd_after hN'.out Z_7.out hb)
  have P_8 := Lib.hid (P_7.out.after hN'.out hb)
  have Q_8 := Lib.hid (Q_7.out.after hN'.out hb)
  have I_8 := Lib.hid (I_7.out.after hb)
  have B_8 := Lib.hid (Below.after B_7.out hb)
  clear L_7 X_7 Y_7 Z_7 P_7 Q_7 I_7 B_7
  clear hb
  go_wp2_with fail
  refine (cX.out w8 B_8.out _ P_8.out).mono ?_
  rintro e w9 ⟨rfl, hb⟩
  have L_9 := Lib.hid (L_8.out.after hb)
  have X_9 := Lib.hid (nd_after hN'.out X_8.out hb)
  have Y_9 := Lib.hid (nd_after hN'.out Y_8.out hb)
  have Z_9 := Lib.hid (nd_after hN'.out Z_8.out hb)
  have P_9 := Lib.hid (P_8.out.after hN'.out hb)
  have Q_9 := Lib.hid (Q_8.out.after hN'.out hb)
  have I_9 := Lib.hid (I_8.out.after hb)
  have B_9 := Lib.hid (Below.after B_8.out hb)
  clear L_8 X_8 Y_8 Z_8 P_8 Q_8 I_8 B_8
  clear hb
  go_wp2_with fail
  refine (cX0.out w9 B_9.out).mono ?_
  rintro e w10 ⟨rfl, hb⟩
  have L_10 := Lib.hid (L_9.out.after hb)
  have X_10 := Lib.hid (nd_after hN'.out X_9.out hb)
  have Y_10 := Lib.hid (nd_after hN'.out Y_9.out hb)
  have Z_10 := Lib.hid (nd_after hN'.out Z_9.out hb)
  have P_10 := Lib.hid (P_9.out.after hN'.out hb)
  have Q_10 := Lib.hid (Q_9.out.after hN'.out hb)
  have I_10 := Lib.hid (I_9.out.after hb)
  have B_10 := Lib.hid (Below.after B_9.out hb)
  clear L_9 X_9 Y_9 Z_9 P_9 Q_9 I_9 B_9
  clear hb
  go_wp2_with fail
  refine (cF0.out w10).mono ?_
  rintro e w11 ⟨rfl, hb⟩
  have L_11 := Lib.hid (L_10.out.after hb)
  have X_11 := Lib.hid (nd_after hN'.out X_10.out hb)
  have Y_11 := Lib.hid (nd_after hN'.out Y_10.out hb)
  have Z_11 := Lib.hid (nd_after hN'.out Z_10.out hb)
  have P_11 := Lib.hid (P_10.out.after hN'.out hb)
  have Q_11 := Lib.hid (Q_10.out.after hN'.out hb)
  have I_11 := Lib.hid (I_10.out.after hb)
  have B_11 := Lib.hid (Below.after B_10.out hb)
  clear L_10 X_10 Y_10 Z_10 P_10 Q_10 I_10 B_10
  clear hb
  go_wp2_with fail
  refine (cB.out w11 _ P_11.out).mono ?_
  rintro e w12 ⟨rfl, hb⟩
  have L_12 := Lib.hid (L_11.out.after hb)
  have X_12 := Lib.hid (nd_after hN'.out X_11.out hb)
  have Y_12 := Lib.hid (nd_after hN'.out Y_11.out hb)
  have Z_12 := Lib.hid (nd_after hN'.out Z_11.out hb)
  have P_12 := Lib.hid (P_11.out.after hN'.out hb)
  have Q_12 := Lib.hid (Q_11.out.after hN'.out hb)
  have I_12 := Lib.hid (I_11.out.after hb)
  have B_12 := Lib.hid (Below.after B_11.out hb)
  clear L_11 X_11 Y_11 Z_11 P_11 Q_11 I_11 B_11
  clear hb
  go_wp2_with fail
  refine (cB0.out w12).mono ?_
  rintro e w13 ⟨rfl, hb⟩
  have L_13 := Lib.hid (L_12.out.after hb)
  have X_13 := Lib.hid (nd_after hN'.out X_12.out hb)
  have Y_13 := Lib.hid (nd_after hN'.out Y_12.out hb)
  have Z_13 := Lib.hid (nd_after hN'.out Z_12.out hb)
  have P_13 := Lib.hid (P_12.out.after hN'.out hb)
  have Q_13 := Lib.hid (Q_12.out.after hN'.out hb)
  have I_13 := Lib.hid (I_12.out.after hb)
  have B_13 := Lib.hid (Below.after B_12.out hb)
  clear L_12 X_12 Y_12 Z_12 P_12 Q_12 I_12 B_12
  clear hb
  go_wp2
  go_ret
  exact ⟨rfl, B_13.out⟩
end Go.Proofs.YtcnkgddldhkddaaDoor
/- Arguments that are items, and slices of items, opened. -/
namespace Go.Proofs.YtcnkgddldhkddaaDoor
open Go.ChangeShapes Go.WideShapes Go.ChangeAt Go.RowKit Go.Deep Go.Joins Go.Proofs.Treem
set_option maxRecDepth 100000

theorem cellsIt : Tryd.prog.cellsOf 38 = 3 := by kernel_rfl
section
variable {H : Type} {enc : TypeId × Value → H} {W : World} {b0 : Nat} {spare : Nat → Bool} {held : Bool}
/-- the three cells of an item in memory -/
theorem item_cells {fuel : Nat} {cs : List Value} {x : DataW H × List MemPlace} (h : DataW.trod enc Tryd.prog W b0 spare held fuel 38 cs = some x) : ∃ p : It, cs = itC p := by
  obtain ⟨xs, n, _, rfl, hl, hlen, hf⟩ := DataW.trod_struct Tryd.underlying38 h
  rw [cellsIt] at hl
  match xs, hlen, cs, hl with
  | [y0, y1, y2], _, [u0, u1, u2], _ =>
    have h0 := hf 0 _ rfl
    have h1 := hf 1 _ rfl
    have h2 := hf 2 _ rfl
    simp [cells9I, cells9U] at h0 h1 h2
    obtain ⟨a0, rfl⟩ := key_cell9 Tryd.underlying2 h0
    obtain ⟨a1, rfl⟩ := key_cell9 Tryd.underlying2 h1
    obtain ⟨a2, rfl⟩ := num_cell9 Tryd.underlying36 h2
    exact ⟨⟨a0, a1, a2⟩, rfl⟩
/-- an item that came in, by value -/
theorem open_item {base : Nat} {v : Value} {d : DataW H} {p : List MemPlace} (hv : Value.okWide Tryd.prog W .any base 38 v) (h : DataW.Trod enc Tryd.prog W b0 spare held 38 v d p) : ∃ x : It, v = itV x := by
  obtain ⟨v0, v1, v2, y0, y1, y2, n, rfl, _, _, h0, h1, h2⟩ := open_agg3 Tryd.underlying38 (by kernel_rfl) cellsIt hv h
  obtain ⟨a, rfl⟩ := key_cell9 Tryd.underlying2 h0
  obtain ⟨b, rfl⟩ := key_cell9 Tryd.underlying2 h1
  obtain ⟨c, rfl⟩ := num_cell9 Tryd.underlying36 h2
  exact ⟨⟨a, b, c⟩, rfl⟩
/-- what a slice holds whose items lie one by one -/
theorem row_of_items {w : World} {ad : Addr} {n : Nat} (f : Fin n → It) (hb : 0 < n → ad.block < w.heap.size) (h : ∀ i : Fin n, ∀ j, j < 3 → ∀ u, (itC (f i))[j]? = some u → w.cell? (ad.add (i.1 * 3 + j)) = some u) : Row w w.heap.size (some ad) (flat3 (List.ofFn f)) := by
  intro j u hu
  have hj : j < (flat3 (List.ofFn f)).length := by
    rcases Nat.lt_or_ge j (flat3 (List.ofFn f)).length with hl | hl
    · exact hl
    · rw [List.getElem?_eq_none hl] at hu; cases hu
  rw [flat3_length, List.length_ofFn] at hj
  obtain ⟨i, hi⟩ : ∃ i, i = j / 3 := ⟨_, rfl⟩
  obtain ⟨q, hq⟩ : ∃ q, q = j % 3 := ⟨_, rfl⟩
  have hin : i < n := by omega
  have hl : i < (List.ofFn f).length := by rw [List.length_ofFn]; exact hin
  have hq3 : q < 3 := by omega
  obtain rfl : j = i * 3 + q := by omega
  rw [flat3_at _ i q hl hq3, List.getElem_ofFn] at hu
  exact ⟨ad, rfl, hb (by omega), h ⟨i, hin⟩ q hq3 u hu⟩
/-- a slice of items that came in -/
theorem open_items {base : Nat} {v : Value} {d : DataW H} {ps : List MemPlace} (hv : Value.okWide Tryd.prog W .any base 33 v) (h : DataW.Trod enc Tryd.prog W b0 spare held 33 v d ps) :
    ∃ A n c, ∃ l : List It, v = .slice A n c ∧ l.length = n ∧ n ≤ c ∧ c ≤ maxLen ∧ (A = none → c = 0) ∧ Row W W.heap.size A (flat3 l) := by
  obtain ⟨A, n, c, rfl⟩ := okWide_slice Tryd.underlying33 hv
  obtain ⟨fuel, hf⟩ := h
  rcases open_slice Tryd.underlying33 hf with ⟨hcs, _⟩ | ⟨x, len, cap, m, k, D, Pl, hcs, _, hl, hm, hmm, _, hi⟩
  · simp [Value.cells] at hcs
    obtain ⟨rfl, rfl, rfl⟩ := hcs
    exact ⟨none, 0, 0, [], rfl, rfl, Nat.le_refl _, Nat.zero_le _, fun _ => rfl, Row.none_ _ _ _⟩
  · simp [Value.cells] at hcs
    obtain ⟨rfl, rfl, rfl⟩ := hcs
    have hnm : n ≤ m := by rw [hmm]; split <;> omega
    rw [cellsIt] at hi
    have hex : ∀ i : Fin n, ∃ p : It, ∀ j, j < 3 → ∀ u, (itC p)[j]? = some u → W.cell? (x.add (i.1 * 3 + j)) = some u := fun i => by
      obtain ⟨cs', hc, ht⟩ := hi i.1 (by have := i.2; omega)
      obtain ⟨p, rfl⟩ := item_cells ht
      obtain ⟨_, _, hat⟩ := World.cells?_some hc
      refine ⟨p, fun j hj u hu => ?_⟩
      have e0 := hat j (by omega)
      rw [Go.Proofs.YtcnkgddldhkddaaDoor.add_add] at e0
      rw [e0]
      exact hu
    obtain ⟨f, hf'⟩ := Classical.axiomOfChoice hex
    refine ⟨some x, n, c, List.ofFn f, rfl, List.length_ofFn, hl, hm, (fun e => by cases e), row_of_items f (fun h0 => ?_) hf'⟩
    have := block_lt_of_cell (hf' ⟨0, h0⟩ 0 (by omega) _ rfl)
    rw [add_block] at this
    exact this
end
end Go.Proofs.YtcnkgddldhkddaaDoor
namespace Go.Proofs.YtcnkgddldhkddaaDoor
open Go.ChangeShapes Go.WideShapes Go.ChangeAt Go.RowKit Go.Deep Go.Proofs.Mixm
set_option maxRecDepth 100000

theorem own : ownKnob Tryd.prog.godebug = none := by kernel_rfl
/-- the list of the rows: one variable -/
abbrev laid20 : List (String × DataW Unit) := Rows.treapTellsRow.laid
theorem gSteps : Tryd.prog.globalNamed laid20[0].1 = some 0 := by kernel_rfl
theorem tSteps : (Tryd.prog.globals[0]?).map (·.type) = some 90 := by kernel_rfl
theorem cellsS3 : Tryd.prog.cellsOf 90 = 6 := by kernel_rfl
theorem cellsSt : Tryd.prog.cellsOf 88 = 2 := by kernel_rfl
theorem cellsU : Tryd.prog.cellsOf 86 = 1 := by kernel_rfl
theorem cellsU64 : Tryd.prog.cellsOf 36 = 1 := by kernel_rfl

theorem door_met (os : Os) (args : Array Value) : laidMetH Tryd.prog laid20 ((World.doorLaid Tryd.prog 400 os).forCall (fun _ _ => 0) ⟨#[], args, []⟩).memory :=
  laidMetH_of_parts3 (fuel := 8) (laidMet_of_run' 8 (by kernel_rfl) (by kernel_rfl)) (by kernel_rfl) (by kernel_rfl)

section
variable {H : Type} {enc : TypeId × Value → H} {W : World}
/-- one step of the table: its two cells -/
theorem step_cells {base fuel : Nat} {sp : Nat → Bool} {held : Bool} {a b : Value} {x : DataW H × List MemPlace} {s f : Int} (h : DataW.trod enc Tryd.prog W base sp held fuel 88 [a, b] = some x) (hx : x.1 = .agg [.lit (.int .u64 s), .lit (.int .u64 f)]) :
    a = .int .u64 s ∧ b = .int .u64 f := by
  obtain ⟨y0, y1, n, rfl, _, h0, h1⟩ := trod_struct2 Tryd.underlying88 h
  simp only [DataW.agg.injEq, List.cons.injEq, and_true] at hx
  simp [cellsU] at h0
  simp [cellsU64] at h1
  obtain ⟨k, e1, e2, _⟩ := DataW.trod_int Tryd.underlying86 h0
  obtain ⟨k', e1', e2', _⟩ := DataW.trod_int Tryd.underlying36 h1
  simp at e1 e1'
  subst e1 e1' e2 e2'
  simp at hx
  exact ⟨by rw [hx.1], by rw [hx.2]⟩
end
theorem steps_of {W : World} (h : laidMetH Tryd.prog laid20 W) : 0 < W.heap.size ∧ Steps W := by
  rw [MakeChecks.laidMetH_plain _ _ _ (by kernel_rfl)] at h
  obtain ⟨ps, ⟨g0, t0, cs0, f0, p0, q0, hg0, ht0, hv0, hd0, _, _⟩, _, _⟩ := h
  obtain rfl := Option.some.inj (gSteps.symm.trans hg0)
  obtain rfl := Option.some.inj (tSteps.symm.trans ht0)
  obtain ⟨xs, m1, rfl, hx1, hlen, hn3, hel⟩ := DataW.trod_array Tryd.underlying90 hd0
  have hc := World.var?_cell hg0 hv0
  rw [cellsS3] at hlen
  obtain ⟨cs⟩ := cs0
  match cs, hlen with
  | [a0, a1, a2, a3, a4, a5], _ =>
    have hz : 0 < W.heap.size := by
      have := hc 0
      simp only [World.cell?] at this
      cases hh : W.heap[0]? with
      | none => rw [hh] at this; simp at this
      | some o => exact (Array.getElem?_eq_some_iff.1 hh).1
    match xs, hn3, hx1, hel with
    | [x0, x1, x2], _, hx1, hel =>
      have e0 := hel 0 (by decide)
      have e1 := hel 1 (by decide)
      have e2 := hel 2 (by decide)
      simp only [cellsSt] at e0 e1 e2
      simp at e0 e1 e2
      simp only [Prod.mk.injEq, Rows.laid_joinery_mix_steps, DataW.agg.injEq, List.map_cons, List.map_nil, List.cons.injEq, and_true] at hx1
      obtain ⟨⟨hx0, hx1, hx2⟩, _⟩ := hx1
      obtain ⟨rfl, rfl⟩ := step_cells e0 hx0.symm
      obtain ⟨rfl, rfl⟩ := step_cells e1 hx1.symm
      obtain ⟨rfl, rfl⟩ := step_cells e2 hx2.symm
      exact ⟨hz, hc 0, hc 1, hc 2, hc 3, hc 4, hc 5⟩

theorem laidOut : laidOutB Tryd.prog = true := by kernel_rfl

end Go.Proofs.YtcnkgddldhkddaaDoor
