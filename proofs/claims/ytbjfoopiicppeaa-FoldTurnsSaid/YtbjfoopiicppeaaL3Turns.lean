/- The statement FoldTurns of layer 3, walked. -/
import Derived.Test.YtbjfoopiicppeaaL3Parts
import Derived.BigRegion
import Derived.RegionTactic
import Derived.Outline
namespace Go.Proofs.Ytbjfoopiicppeaa
open Go.RowKit Go.Proofs.Foldm

/-- a row of the call's own, not empty: its block, known whole -/
structure Mine (w : World) (g n cap : Nat) (xs : List Value) : Prop where
  fits : n ≤ cap
  most : cap ≤ maxLen
  len : xs.length = n
  has : ∃ cs, Has w g 2 cs ∧ cs.size = cap ∧ cs.toList.take n = xs
theorem Mine.row {w : World} {g n cap : Nat} {xs : List Value} (h : Mine w g n cap xs) : Row w w.heap.size (some ⟨g, 0, none⟩) xs := by
  obtain ⟨cs, h1, h2, h3⟩ := h.has
  have := h1.row.take n
  rw [h3] at this
  exact this
theorem Mine.lt {w : World} {g n cap : Nat} {xs : List Value} (h : Mine w g n cap xs) : g < w.heap.size := by
  obtain ⟨cs, h1, _⟩ := h.has
  exact h1.lt
theorem Mine.cell {w : World} {g n cap : Nat} {xs : List Value} (h : Mine w g n cap xs) {j : Nat} {u : Value} (hu : xs[j]? = some u) : w.cell? ⟨g, j, none⟩ = some u := by
  have := (h.row.at_ hu).2
  rw [add_none, Nat.zero_add] at this
  exact this
theorem Mine.free {w : World} {g n cap : Nat} {xs : List Value} (h : Mine w g n cap xs) (j : Nat) : w.frozen? ⟨g, j, none⟩ = false := by
  obtain ⟨cs, h1, _⟩ := h.has
  exact h1.free j
theorem Mine.next {w w' : World} {g n cap : Nat} {xs : List Value} (h : Mine w g n cap xs) (hb : Below w.heap.size w w') : Mine w' g n cap xs := by
  obtain ⟨cs, h1, h2, h3⟩ := h.has
  exact ⟨h.fits, h.most, h.len, cs, h1.next hb, h2, h3⟩
theorem Mine.drewN {w : World} {g n cap : Nat} {xs : List Value} (h : Mine w g n cap xs) (k : Nat) : Mine (w.drewN k) g n cap xs := by
  obtain ⟨cs, h1, h2, h3⟩ := h.has
  exact ⟨h.fits, h.most, h.len, cs, h1, h2, h3⟩
theorem Mine.drew {w : World} {g n cap : Nat} {xs : List Value} (h : Mine w g n cap xs) : Mine w.drew g n cap xs := by
  obtain ⟨cs, h1, h2, h3⟩ := h.has
  exact ⟨h.fits, h.most, h.len, cs, h1, h2, h3⟩
theorem Mine.far {w : World} {g n cap : Nat} {xs : List Value} (h : Mine w g n cap xs) {p : Addr} (hp : g ≠ p.block) (u : Value) : Mine (w.setCell p u) g n cap xs := by
  obtain ⟨cs, h1, h2, h3⟩ := h.has
  exact ⟨h.fits, h.most, h.len, cs, h1.far hp u, h2, h3⟩
theorem Mine.set {w : World} {g n cap : Nat} {xs : List Value} (h : Mine w g n cap xs) (j : Nat) (u : Value) : Mine (w.setCell ⟨g, j, none⟩ u) g n cap (xs.set j u) := by
  obtain ⟨cs, h1, h2, h3⟩ := h.has
  refine ⟨h.fits, h.most, by rw [List.length_set]; exact h.len, _, h1.set j u, by simpa using h2, ?_⟩
  rw [Array.toList_setIfInBounds, ← h3, List.take_set]
/-- what own returns, of a row that is not empty -/
def MineNew (w : World) (n : Nat) (xs : List Value) (e : Ending) (w' : World) : Prop :=
  ∃ g cap, e = .returned (.slice (some ⟨g, 0, none⟩) n cap) ∧ w.heap.size ≤ g ∧ Mine w' g n cap xs ∧ Below w.heap.size w w'
theorem own_mine {A : Option Addr} {n c : Nat} {l : List (BitVec 64)} (hl : l.length = n) (h0 : 0 < n) (h3 : n ≤ 300) {w : World} (hr : Row w w.heap.size A (l.map K)) :
    Calls Try.prog 9 #[.slice A n c] w (MineNew w n (l.map K)) := by
  refine (own_any A n c l hl h3 w hr (fun e => ?_)).mono fun e w' h => ?_
  · subst e
    obtain ⟨ad, h, _⟩ := hr.head (by rw [List.length_map]; omega)
    cases h
  · obtain ⟨v, he, ho, hb⟩ := h
    rcases ho.2 with ⟨rfl, h⟩ | ⟨g, cap, cur, rfl, hg, hh, hnc, hm, hs, ht⟩
    · omega
    · rw [Nat.mul_one] at hs ht
      exact ⟨g, cap, he, hg, ⟨hnc, hm, by rw [List.length_map]; exact hl, cur, hh, hs, ht⟩, hb⟩

/-- two change places -/
theorem turn_swap (l : List (BitVec 64)) (x y : Nat) (hx : x < l.length) (hy : y < l.length) : ((l.map K).set x (K l[y])).set y (K l[x]) = ((l.set x l[y]).set y l[x]).map K := by
  rw [List.map_set, List.map_set]

set_option maxRecDepth 100000 in
set_option maxHeartbeats 4000000 in
theorem turns_mid (A : Option Addr) (n c : Nat) (l : List (BitVec 64)) (i k : Nat) (v : BitVec 64) (hi : i ≤ 255) (hk : k ≤ 255) (hl : l.length = n) (hn : n ≤ c) (hc : c ≤ maxLen) (h300 : n ≤ 300) (h2 : 2 ≤ n) (w : World) (hr : Row w w.heap.size A (l.map K)) :
    Calls Try.prog 5 #[.slice A n c, .int .u8 i, .int .u8 k, K v] w fun e w' => e = .returned (.bool true) ∧ Below w.heap.size w w' := by
  obtain ⟨x, hx, hx1⟩ : ∃ x : Nat, ((i : Int) % (n : Int)) = (x : Int) ∧ x < n := ⟨i % n, rfl, Nat.mod_lt _ (by omega)⟩
  obtain ⟨y, hy, hy1⟩ : ∃ y : Nat, ((k : Int) % (n : Int)) = (y : Int) ∧ y < n := ⟨k % n, rfl, Nat.mod_lt _ (by omega)⟩
  have hx' : (i : Int).tmod (n : Int) = (x : Int) := by rw [Int.tmod_eq_emod_of_nonneg (by omega)]; exact hx
  have hy' : (k : Int).tmod (n : Int) = (y : Int) := by rw [Int.tmod_eq_emod_of_nonneg (by omega)]; exact hy
  have hl' := Lib.hid hl
  have hr' := Lib.hid hr
  have hc' := Lib.hid hc
  have k0 := Lib.hid (Below.refl w.heap.size w)
  have hd1 : decide ((300 : Int) < (n : Int)) = false := by simp; omega
  have hd2 : decide ((n : Int) < (2 : Int)) = false := by simp; omega
  clear hl hr hc
  go_enter Try.func5, Try.ntmps5
  go_wp2_with fail
  refine (own_mine hl'.out (by omega) h300 (hr'.out.next k0.out)).mono ?_
  rintro e w1 ⟨g1, cap1, rfl, hg, hm, hb⟩
  have g1n := Lib.hid hg
  have m1 := Lib.hid hm
  have b1 := Lib.hid hb
  have k1 := Lib.hid (Below.after k0.out hb)
  clear hg hm hb
  go_wp2_with fail
  refine (own_mine hl'.out (by omega) h300 (hr'.out.next k1.out)).mono ?_
  rintro e w2 ⟨g2, cap2, rfl, hg, hm, hb⟩
  have g2n := Lib.hid hg
  have m2 := Lib.hid hm
  have b2 := Lib.hid hb
  have k2 := Lib.hid (Below.after k1.out hb)
  clear hg hm hb
  go_wp2_with fail
  go_quiet (fail)
  go_wp2_with fail
  obtain ⟨W, hW⟩ : ∃ W, w2.drewN nq = W := ⟨_, rfl⟩
  have ma : Hid (Mine W g1 n cap1 (l.map K)) := hW ▸ (m1.out.next b2.out).drewN nq
  have mb : Hid (Mine W g2 n cap2 (l.map K)) := hW ▸ m2.out.drewN nq
  have kW : Hid (Below w.heap.size w W) := hW ▸ below_drewN k2.out nq
  have hgg : Hid (g1 ≠ g2 ∧ w.heap.size ≤ g1 ∧ w.heap.size ≤ g2) := ⟨by have := m1.out.lt; have := g2n.out; omega, g1n.out, by have := g2n.out; have := k1.out.size; omega⟩
  rw [hW]
  clear hW m1 m2 k1 k2 b1 b2 g1n g2n hx hy hx' hy'
  have hxl : x < l.length := by rw [hl'.out]; exact hx1
  have hyl : y < l.length := by rw [hl'.out]; exact hy1
  have cx : W.cell? ⟨g1, x, none⟩ = some (K l[x]) := ma.out.cell (by simp [hxl])
  have cy : W.cell? ⟨g1, y, none⟩ = some (K l[y]) := ma.out.cell (by simp [hyl])
  have fx : W.frozen? ⟨g1, x, none⟩ = false := ma.out.free x
  have fy : W.frozen? ⟨g1, y, none⟩ = false := ma.out.free y
  have cy2 : (W.setCell ⟨g1, x, none⟩ (K l[y])).cell? ⟨g1, y, none⟩ = some (K l[y]) := (ma.out.set x (K l[y])).cell (by rw [List.getElem?_set]; by_cases e : x = y <;> simp [e, hyl])
  go_region
  obtain ⟨W2, hW2⟩ : ∃ W2, ((W.setCell ⟨g1, x, none⟩ (K l[y])).setCell ⟨g1, y, none⟩ (K l[x])).drew = W2 := ⟨_, rfl⟩
  have na : Hid (Mine W2 g1 n cap1 (((l.set x l[y]).set y l[x]).map K)) := hW2 ▸ turn_swap l x y hxl hyl ▸ ((ma.out.set x (K l[y])).set y (K l[x])).drew
  have nb : Hid (Mine W2 g2 n cap2 (l.map K)) := hW2 ▸ ((mb.out.far (p := ⟨g1, x, none⟩) (Ne.symm hgg.out.1) (K l[y])).far (p := ⟨g1, y, none⟩) (Ne.symm hgg.out.1) (K l[x])).drew
  have nk : Hid (Below w.heap.size w W2) := hW2 ▸ ((kW.out.setCell (p := ⟨g1, x, none⟩) hgg.out.2.1 (K l[y])).setCell (p := ⟨g1, y, none⟩) hgg.out.2.1 (K l[x])).drew
  rw [hW2]
  have hsw := Lib.hid (sum_swap l x y hxl hyl)
  obtain ⟨la, hla⟩ : ∃ m, (l.set x l[y]).set y l[x] = m := ⟨_, rfl⟩
  have lla : Hid (la.length = n) := by show la.length = n; rw [← hla, List.length_set, List.length_set]; exact hl'.out
  rw [hla] at na hsw
  clear hW2 cx cy fx fy cy2 ma mb kW hla
  obtain ⟨S, hS⟩ : ∃ S, sum l = S := ⟨_, rfl⟩
  have ne : ∀ m : List (BitVec 64), m.length = n → m ≠ [] := fun m h e => by subst e; simp at h; omega
  have s1 : Hid (run 3 l = S) := (run_sum l (ne _ hl'.out)).trans hS
  have s2 : Hid (run 3 la = S) := (run_sum la (ne _ lla.out)).trans (hsw.out.trans hS)
  have s3 : Hid (sum la = S) := hsw.out.trans hS
  clear ne hsw hS
  go_wp2_with fail
  refine (run_is (by omega) (by omega) s1.out hl'.out (by omega) hn hc'.out (hr'.out.next nk.out)).mono ?_
  rintro e w3 ⟨rfl, hb⟩
  have k3 := Lib.hid (Below.after nk.out hb)
  have b3 := Lib.hid hb
  clear hb
  have na3 := Lib.hid (na.out.next b3.out)
  have nb3 := Lib.hid (nb.out.next b3.out)
  go_wp2_with fail
  refine (run_is (by omega) (by omega) s2.out lla.out (by omega) na3.out.fits na3.out.most na3.out.row).mono ?_
  rintro e w4 ⟨rfl, hb⟩
  have k4 := Lib.hid (Below.after k3.out hb)
  have b4 := Lib.hid hb
  clear hb
  have na4 := Lib.hid (na3.out.next b4.out)
  have nb4 := Lib.hid (nb3.out.next b4.out)
  go_wp2_with fail
  refine (sum_is s3.out lla.out na4.out.fits na4.out.most na4.out.row).mono ?_
  rintro e w5 ⟨rfl, hb⟩
  have k5 := Lib.hid (Below.after k4.out hb)
  have b5 := Lib.hid hb
  clear hb
  have nb5 := Lib.hid (nb4.out.next b5.out)
  clear na na3 na4 nb nb3 nb4
  have hp1 : n - 1 < l.length := by rw [hl'.out]; omega
  have hp0 : 0 < l.length := by rw [hl'.out]; omega
  obtain ⟨cb, hcb⟩ : ∃ u, w5.cell? ⟨g2, n - 1, none⟩ = some u := ⟨_, nb5.out.cell (j := n - 1) (u := K l[n - 1]) (by simp [hp1])⟩
  have fb := nb5.out.free (n - 1)
  obtain ⟨lb, hlb⟩ : ∃ m, l.set (n - 1) v = m := ⟨_, rfl⟩
  have nb6 : Hid (Mine (w5.setCell ⟨g2, n - 1, none⟩ (K v)) g2 n cap2 (lb.map K)) := by rw [← hlb, List.map_set]; exact nb5.out.set (n - 1) (K v)
  have kb6 : Hid (Below w.heap.size w (w5.setCell ⟨g2, n - 1, none⟩ (K v))) := k5.out.setCell (p := ⟨g2, n - 1, none⟩) hgg.out.2.2 (K v)
  have llb : Hid (lb.length = n) := by show lb.length = n; rw [← hlb, List.length_set]; exact hl'.out
  obtain ⟨X1, hX1⟩ : ∃ u, l[0] = u := ⟨_, rfl⟩
  have x1 : Hid (run 1 l = X1) := (run_left l hp0).trans hX1
  have x2 : Hid (run 1 lb = X1) := by subst hlb; refine (run_left _ (by simpa using hp0)).trans ?_; rw [List.getElem_set_ne (by omega)]; exact hX1
  have hX1' := Lib.hid hX1
  clear hX1 hlb
  go_wp2_with fail
  refine (run_is (by omega) (by omega) x1.out hl'.out (by omega) hn hc'.out (hr'.out.next kb6.out)).mono ?_
  rintro e w6 ⟨rfl, hb⟩
  have k6 := Lib.hid (Below.after kb6.out hb)
  have b6 := Lib.hid hb
  clear hb
  have nb7 := Lib.hid (nb6.out.next b6.out)
  go_wp2_with fail
  refine (run_is (by omega) (by omega) x2.out llb.out (by omega) nb7.out.fits nb7.out.most nb7.out.row).mono ?_
  rintro e w7 ⟨rfl, hb⟩
  have k7 := Lib.hid (Below.after k6.out hb)
  have b7 := Lib.hid hb
  clear hb
  clear nb5 nb6 nb7 hcb fb llb x1 x2
  go_wp2_with fail
  refine (own_mine hl'.out (by omega) h300 (hr'.out.next k7.out)).mono ?_
  rintro e w8 ⟨g8, cap8, rfl, hg, hm, hb⟩
  have g8n := Lib.hid hg
  have m8 := Lib.hid hm
  have b8 := Lib.hid hb
  have k8 := Lib.hid (Below.after k7.out hb)
  clear hg hm hb
  have hp0' : Hid (w.heap.size ≤ g8) := by have := g8n.out; have := k7.out.size; show w.heap.size ≤ g8; omega
  have hcc : w8.cell? ⟨g8, 0, none⟩ = some (K l[0]) := m8.out.cell (by simp [hp0])
  have fc := m8.out.free 0
  obtain ⟨lc, hlc⟩ : ∃ m, l.set 0 v = m := ⟨_, rfl⟩
  have nc : Hid (Mine (w8.setCell ⟨g8, 0, none⟩ (K v)) g8 n cap8 (lc.map K)) := by rw [← hlc, List.map_set]; exact m8.out.set 0 (K v)
  have kc : Hid (Below w.heap.size w (w8.setCell ⟨g8, 0, none⟩ (K v))) := k8.out.setCell (p := ⟨g8, 0, none⟩) hp0'.out (K v)
  have llc : Hid (lc.length = n) := by show lc.length = n; rw [← hlc, List.length_set]; exact hl'.out
  obtain ⟨Y1, hY1⟩ : ∃ u, l[l.length - 1] = u := ⟨_, rfl⟩
  have y1 : Hid (run 2 l = Y1) := (run_right l hp0).trans hY1
  have y2 : Hid (run 2 lc = Y1) := by subst hlc; refine (run_right _ (by simpa using hp0)).trans ?_; rw [List.getElem_set_ne (by rw [List.length_set, hl'.out]; omega)]; simp only [List.length_set]; exact hY1
  clear hY1 hlc
  go_wp2_with fail
  refine (run_is (by omega) (by omega) y1.out hl'.out (by omega) hn hc'.out (hr'.out.next kc.out)).mono ?_
  rintro e w9 ⟨rfl, hb⟩
  have k9 := Lib.hid (Below.after kc.out hb)
  have b9 := Lib.hid hb
  clear hb
  have nc9 := Lib.hid (nc.out.next b9.out)
  go_wp2_with fail
  refine (run_is (by omega) (by omega) y2.out llc.out (by omega) nc9.out.fits nc9.out.most nc9.out.row).mono ?_
  rintro e w10 ⟨rfl, hb⟩
  have k10 := Lib.hid (Below.after k9.out hb)
  have b10 := Lib.hid hb
  clear hb
  clear nc nc9 hcc fc llc y1 y2 m8 b8 g8n
  go_wp2_with fail
  refine (sums_any _ _ _ _ hl'.out hn h300 _ (hr'.out.next k10.out)).mono ?_
  rintro e w11 ⟨A11, c11, rfl, hc1, hc2, hrr, hb⟩
  have k11 := Lib.hid (Below.after k10.out hb)
  have r11 := Lib.hid hrr
  have n11 := Lib.hid (And.intro hc1 hc2)
  have b11 := Lib.hid hb
  clear hb hrr hc1 hc2
  obtain ⟨aa, rfl, _⟩ := r11.out.head (by rw [List.length_map, sums_length]; exact hp0)
  obtain ⟨ab, rfl, _⟩ := hr'.out.head (by rw [List.length_map]; exact hp0)
  have ca : w11.cell? aa = some (K l[0]) := by have := (r11.out.at_ (j := 0) (u := K l[0]) (by rw [List.getElem?_map, sums_at l 0 hp0, sum_take l 0 hp0]; simp [sum_nil])).2; rw [add_zero] at this; exact this
  have cl : w11.cell? ab = some (K l[0]) := by have := ((hr'.out.next k11.out).at_ (j := 0) (u := K l[0]) (by simp [hp0])).2; rw [add_zero] at this; exact this
  go_wp2_with fail
  go_quiet (fail)
  have kn := Lib.hid k11.out.size
  clear ca cl
  go_wp2_with fail
  go_loopw [18] (fun i wr => ∃ q : Nat, 1 ≤ q ∧ q ≤ n ∧ i = .int .i64 q ∧ Below w11.heap.size w11 wr) (fun i _ => n - (intOf i).toNat)
  case atStart => exact ⟨1, Nat.le_refl _, by omega, rfl, below_drewN (Below.refl _ _) _⟩
  case round =>
    obtain ⟨q, hq1, hq2, rfl, hb⟩ := hrel
    have bq := Lib.hid hb
    clear hb
    by_cases hlt : q < n
    · have hql : q < l.length := by rw [hl'.out]; exact hlt
      have hqp : q - 1 < l.length := by omega
      obtain ⟨u1, hu1⟩ : ∃ u, sum (l.take (q + 1)) = u := ⟨_, rfl⟩
      obtain ⟨u0, hu0⟩ : ∃ u, sum (l.take (q - 1 + 1)) = u := ⟨_, rfl⟩
      have c1 : wr.cell? (aa.add q) = some (K u1) := ((r11.out.next bq.out).at_ (by rw [List.getElem?_map, sums_at l q hql, hu1]; rfl)).2
      have c0 : wr.cell? (aa.add (q - 1)) = some (K u0) := ((r11.out.next bq.out).at_ (by rw [List.getElem?_map, sums_at l (q - 1) hqp, hu0]; rfl)).2
      have c2 : wr.cell? (ab.add q) = some (K l[q]) := ((hr'.out.next (Below.after k11.out bq.out)).at_ (by simp [hql])).2
      have hw0 : wrap64 (u1.toInt - u0.toInt) = l[q].toInt := by rw [i_sub, ← hu1, ← hu0, sum_take l q hql, show q - 1 + 1 = q by omega, BitVec.add_comm, BitVec.add_sub_cancel]
      have hw1 : IntKind.i64.wrap (u1.toInt - u0.toInt) = l[q].toInt := by rw [wrap_kind]; exact hw0
      clear hu1 hu0
      have hj1 : (0 : Int) ≤ (q : Int) - 1 := by omega
      have hj2 : ((q : Int) - 1).toNat = q - 1 := by omega
      have hj3 : IntKind.i64.wrap ((q : Int) - 1) = (q : Int) - 1 := IntWalk.i64_in _ (by omega)
      go_wp2_with fail
      go_quiet (fail)
      clear hj1 hj2 hj3
      go_wp2
      go_roundw
      case rel => exact ⟨q + 1, by omega, by omega, by go_num, below_drewN bq.out _⟩
      case measure => simp [intOf]; omega
    · go_wp2_with fail
      refine (alive3_any _).mono ?_
      rintro e w12 ⟨rfl, hb⟩
      have k12 := Lib.hid (Below.after (Below.after k11.out bq.out) hb)
      clear hb
      go_wp2
      go_ret
      exact ⟨rfl, k12.out⟩

set_option maxRecDepth 100000 in
set_option maxHeartbeats 400000 in
theorem turns_out (A : Option Addr) (n c : Nat) (i k : Nat) (v : BitVec 64) (h : 300 < n ∨ n < 2) (w : World) :
    Calls Try.prog 5 #[.slice A n c, .int .u8 i, .int .u8 k, K v] w fun e w' => e = .returned (.bool true) ∧ Below w.heap.size w w' := by
  rcases h with h | h
  · go_enter Try.func5, Try.ntmps5
    go_wp2_with fail
    refine (alive3_any _).mono ?_
    rintro e w1 ⟨rfl, hb⟩
    have k1 := Lib.hid hb
    clear hb
    go_wp2
    go_ret
    exact ⟨rfl, k1.out⟩
  · have h' : ¬ 300 < n := by omega
    go_enter Try.func5, Try.ntmps5
    go_wp2_with fail
    refine (alive3_any _).mono ?_
    rintro e w1 ⟨rfl, hb⟩
    have k1 := Lib.hid hb
    clear hb
    go_wp2
    go_ret
    exact ⟨rfl, k1.out⟩

theorem turns3 (A : Option Addr) (n c : Nat) (l : List (BitVec 64)) (i k : Nat) (v : BitVec 64) (hi : i ≤ 255) (hk : k ≤ 255) (hl : l.length = n) (hn : n ≤ c) (hc : c ≤ maxLen) (w : World) (hr : Row w w.heap.size A (l.map K)) :
    Calls Try.prog 5 #[.slice A n c, .int .u8 i, .int .u8 k, K v] w fun e w' => e = .returned (.bool true) ∧ Below w.heap.size w w' := by
  by_cases h : 300 < n ∨ n < 2
  · exact turns_out A n c i k v h w
  · exact turns_mid A n c l i k v hi hk hl hn hc (by omega) (by omega) w hr
end Go.Proofs.Ytbjfoopiicppeaa
