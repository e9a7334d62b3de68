/- Layer 13: the statement ShareAlike, walked. Made by wip/gen/layer13alike.py. -/
import Derived.Test.YthhhkcjggfdagaaL13Make
import Derived.Test.YthhhkcjggfdagaaL9Tells
namespace Go.Proofs.Ythhhkcjggfdagaa
open Go.RowKit Go.Proofs.Treem Go.Proofs.Cardm
set_option maxRecDepth 100000
variable {Nd : NdP}

theorem Stand.left (hN : NodeSays Nd) {W : World} {a : Addr} {x : No} {L R : AT} (h : Stand Nd W (.n a x L R)) : Stand Nd W L := by
  obtain ⟨h1, h2, h3, h4, h5⟩ := h.lies
  obtain ⟨b, pl, pr, e, k1, k2, k3⟩ := h.tree
  cases e
  have e := hN.uniq k1 h1
  exact ⟨h4, by rw [← h2, ← e]; exact k2⟩
theorem Stand.right (hN : NodeSays Nd) {W : World} {a : Addr} {x : No} {L R : AT} (h : Stand Nd W (.n a x L R)) : Stand Nd W R := by
  obtain ⟨h1, h2, h3, h4, h5⟩ := h.lies
  obtain ⟨b, pl, pr, e, k1, k2, k3⟩ := h.tree
  cases e
  have e := hN.uniq k1 h1
  exact ⟨h5, by rw [← h3, ← e]; exact k3⟩
/-- a node with another key and value is one of its own -/
theorem with13 (hN : NodeSays Nd) (w : World) (a : Addr) (x : No) (L R : AT) (k v : BitVec 64) (h : Stand Nd w (.n a x L R)) : Calls Try.prog 12 #[.pointer (some a), K k, K v] w fun e w' => ∃ b y, e = .returned (.pointer (some b)) ∧ Stand Nd w' (.n b y L R) ∧ w.heap.size ≤ b.block ∧ Below w.heap.size w w' := by
  have hl := h.left hN
  have hr := h.right hN
  obtain ⟨h1, h2, h3, h4, h5⟩ := h.lies
  refine (hN.with_ w w.heap.size a x k v _ _ _ _ (Nat.le_refl _) h1 (h2 ▸ hl.tree.look) (h3 ▸ hr.tree.look)).mono ?_
  intro e w' hb
  rw [h2, h3] at hb
  obtain ⟨b, e1, e2, e3, e4, e5⟩ := TreeAt.born hN (Nat.le_refl _) hl.tree hr.tree hb
  exact ⟨b, _, e1, ⟨⟨e3, rfl, rfl, h4.after hN e5, h5.after hN e5⟩, e4⟩, e2, e5⟩
theorem AT.addrs_len : ∀ T : AT, T.addrs.length = T.size
  | .e => rfl
  | .n a x l r => by simp only [AT.addrs, AT.size, List.length_append, List.length_cons, AT.addrs_len l, AT.addrs_len r]; omega
theorem tops_none {W : World} {B : Nat} {T : AT} {O : List Addr} (ht : T.lies Nd W B) (h : ∀ a ∈ T.addrs, a ∉ O) : topsOf O T = [] := by
  cases hh : topsOf O T with
  | nil => rfl
  | cons V l =>
    rcases AT.tops_in (Nd := Nd) O T [] ht V (by rw [show T.tops O [] = V :: l from hh]; simp) with h1 | ⟨_, ⟨a, e, ha⟩, k⟩
    · cases h1
    · exact absurd ha (h a (k a (AT.root_mem e)))
theorem addrsOf_one (T : AT) : addrsOf [T] = T.addrs := by simp [addrsOf]
theorem newC_no {l m : List Addr} (h : ∀ a ∈ l, a ∉ m) : newC l m = card l := by have := new_same l m; rw [same_no h] at this; omega
set_option maxHeartbeats 2000000 in
theorem shareAlike_long (hN : NodeSays Nd) (hS : ShareSays Nd) (A : Option Addr) (n c : Nat) (w : World) (h : LongAt w A n c true) : Calls Try.prog 3 #[.slice A n c] w fun e w' => e = .returned (.bool true) ∧ Below w.heap.size w w' := by
  have c0 := Lib.hid (h w (Below.refl _ _))
  have c9 := Lib.hid (alive13_any hN hS w)
  clear h hN hS
  go_enter Try.func3, Try.ntmps3
  go_wp2_with fail
  refine c0.out.mono ?_
  rintro e w' ⟨rfl, rfl⟩
  go_wp2_with fail
  refine c9.out.mono ?_
  rintro e w1 ⟨rfl, hb⟩
  have b1 := Lib.hid hb
  clear hb
  go_wp2
  go_ret
  exact ⟨rfl, b1.out⟩
set_option maxHeartbeats 2000000 in
theorem shareAlike_wide (hN : NodeSays Nd) (hS : ShareSays Nd) (A : Option Addr) (n c : Nat) (w : World) (h : LongAt w A n c false) (hn : 100 < n) : Calls Try.prog 3 #[.slice A n c] w fun e w' => e = .returned (.bool true) ∧ Below w.heap.size w w' := by
  have c0 := Lib.hid (h w (Below.refl _ _))
  have c9 := Lib.hid (alive13_any hN hS w)
  have d1 : decide ((100 : Int) < (n : Int)) = true := decide_eq_true (by omega)
  have d2 : decide (100 < n) = true := decide_eq_true hn
  clear h hN hS
  go_enter Try.func3, Try.ntmps3
  go_wp2_with fail
  refine c0.out.mono ?_
  rintro e w' ⟨rfl, rfl⟩
  go_wp2_with fail
  refine c9.out.mono ?_
  rintro e w1 ⟨rfl, hb⟩
  have b1 := Lib.hid hb
  clear hb
  go_wp2
  go_ret
  exact ⟨rfl, b1.out⟩
set_option maxHeartbeats 8000000 in
theorem shareAlike_yes (hN : NodeSays Nd) (hS : ShareSays Nd) (A : Option Addr) (n c : Nat) (l : List Bd) (t : Tr) (w : World) (h : LongAt w A n c false) (ht : TreeIn w A n c l t) (hn : n ≤ 100) : Calls Try.prog 3 #[.slice A n c] w fun e w' => e = .returned (.bool true) ∧ Below w.heap.size w w' := by
  have c0 := Lib.hid (h w (Below.refl _ _))
  have d1 : decide ((100 : Int) < (n : Int)) = false := decide_eq_false (by omega)
  have d2 : decide (100 < n) = false := decide_eq_false (by omega)
  have cM : Hid (∀ W, Below w.heap.size w W → Calls Try.prog 7 #[.slice A n c] W (Grown13 Nd t W)) := fun W hW => make13 hN t A n c w.heap.size l ht.pre ht.size (Nat.le_trans ht.few (by decide)) W hW.size (ht.lie.next hW)
  have hsz := Lib.hid ht.size
  have hN' := Lib.hid hN
  have hS' := Lib.hid hS
  have hn' := Lib.hid hn
  clear h ht hN hS hn
  go_enter Try.func3, Try.ntmps3
  go_wp2_with fail
  refine c0.out.mono ?_
  rintro e w' ⟨rfl, rfl⟩
  go_wp2_with fail
  refine (cM.out w (Below.refl _ _)).mono ?_
  rintro e w1 ⟨T, rfl, eT, hT, aT, nT, hb⟩
  have T_1 := Lib.hid hT
  have ltT : Hid (∀ a ∈ T.addrs, a.block < w1.heap.size) := hT.lt hN'.out
  have B_1 := Lib.hid hb
  have cM2 := Lib.hid (cM.out w1 hb)
  have lenT : Hid (card T.addrs = n) := by show _ = _; rw [card_nodup _ nT, AT.addrs_len, ← AT.size_tr, eT]; exact hsz.out
  clear hT aT nT hb cM c0
  go_wp2_with fail
  refine cM2.out.mono ?_
  rintro e w2 ⟨U, rfl, eU, hU, aU, nU, hb⟩
  have apart : ∀ a ∈ T.addrs, a ∉ U.addrs := fun a h1 h2 => by have := ltT.out a h1; have := aU a h2; omega
  have lenU : card U.addrs = n := by rw [card_nodup _ nU, AT.addrs_len, ← AT.size_tr, eU]; exact hsz.out
  have few : card (U.addrs ++ T.addrs) ≤ 2000 := by rw [card_append]; have := new_le T.addrs U.addrs; have := lenT.out; have := hn'.out; omega
  have few2 : card (T.addrs ++ T.addrs) ≤ 2000 := by rw [card_append, new_all (fun a h => h)]; have := lenT.out; have := hn'.out; omega
  have s1 : Hid (∀ W, Stand Nd W T → Stand Nd W U → Calls Try.prog 8 #[.pointer T.ptr, .pointer U.ptr] W fun e w' => e = .returned (.int .i64 0) ∧ Below W.heap.size W w') := fun W h1 h2 => by
    have := hS'.out.same W T U h1 h2 few
    rw [same_no apart] at this
    exact this
  have s2 : Hid (∀ W g, Stand Nd W T → Stand Nd W U → LieP W W.heap.size (some ⟨g, 0, none⟩) 1 1 [U.ptr] → Calls Try.prog 9 #[.pointer T.ptr, .slice (some ⟨g, 0, none⟩) 1 1] W fun e w' => e = .returned (nI n) ∧ Below W.heap.size W w') := fun W g h1 h2 h3 => by
    have := hS'.out.new W T [U] _ 1 1 h1 (fun V hV => by rw [List.mem_singleton.1 hV]; exact h2) h3 (by decide) (by rw [addrsOf_one]; exact few)
    rw [addrsOf_one, newC_no apart, lenT.out] at this
    exact this
  have s3 : Hid (∀ W g, Stand Nd W T → LieP W W.heap.size (some ⟨g, 0, none⟩) 1 1 [T.ptr] → Calls Try.prog 9 #[.pointer T.ptr, .slice (some ⟨g, 0, none⟩) 1 1] W fun e w' => e = .returned (.int .i64 0) ∧ Below W.heap.size W w') := fun W g h1 h3 => by
    have := hS'.out.new W T [T] _ 1 1 h1 (fun V hV => by rw [List.mem_singleton.1 hV]; exact h1) h3 (by decide) (by rw [addrsOf_one]; exact few2)
    rw [addrsOf_one, new_all (fun a h => h)] at this
    exact this
  have s4 : Hid (∀ W, Stand Nd W T → Calls Try.prog 10 #[.pointer T.ptr] W fun e w' => e = .returned (nI n) ∧ Below W.heap.size W w') := fun W h1 => by
    have := hS'.out.nodes W T h1 (by have := lenT.out; have := hn'.out; omega)
    rw [lenT.out] at this
    exact this
  have s5 : Hid (∀ W g, Stand Nd W T → Stand Nd W U → LieP W W.heap.size (some ⟨g, 0, none⟩) 1 1 [U.ptr] → Calls Try.prog 11 #[.pointer T.ptr, .slice (some ⟨g, 0, none⟩) 1 1] W fun e w' => (∃ A c, e = .returned (.slice A 0 c)) ∧ Below W.heap.size W w') := fun W g h1 h2 h3 => by
    refine (hS'.out.tops W T [U] _ 1 1 h1 (fun V hV => by rw [List.mem_singleton.1 hV]; exact h2) h3 (by decide) (by rw [addrsOf_one]; exact few)).mono ?_
    rintro e w' ⟨v, rfl, ho, hb⟩
    rw [addrsOf_one, tops_none h1.lies apart] at ho
    obtain ⟨A, c, rfl, -, -, -⟩ := own_slice ho
    exact ⟨⟨A, c, rfl⟩, hb⟩
  have T_2 := Lib.hid (T_1.out.after hN'.out hb)
  have U_2 := Lib.hid hU
  have B_2 := Lib.hid (Below.after B_1.out hb)
  have few2' := Lib.hid few2
  clear hU aU nU hb cM2 apart lenU few few2 T_1 B_1 ltT eU
  go_wp2_with fail
  refine (s1.out w2 T_2.out U_2.out).mono ?_
  rintro e w3 ⟨rfl, hb⟩
  have T_3 := Lib.hid (T_2.out.after hN'.out hb)
  have U_3 := Lib.hid (U_2.out.after hN'.out hb)
  have B_3 := Lib.hid (Below.after B_2.out hb)
  clear T_2 U_2 B_2
  clear hb
  obtain ⟨g4, hg4⟩ : ∃ g, w3.heap.size = g := ⟨_, rfl⟩
  obtain ⟨u4, hu4⟩ : ∃ u, w3.alloc (.cells #[.pointer U.ptr] 25) = u := ⟨_, rfl⟩
  have l4 : LieP u4 u4.heap.size (some ⟨g4, 0, none⟩) 1 1 [U.ptr] := hg4 ▸ hu4 ▸ LieP.lit [U.ptr] (Has.new w3 25 #[.pointer U.ptr]) (by unfold maxLen; simp)
  have bl : Below w3.heap.size w3 u4 := hu4 ▸ (Below.refl _ _).alloc (Nat.le_refl _) _
  have HU4 := Lib.hid hu4
  have HG4 := Lib.hid hg4
  have L4 := Lib.hid l4
  have T_4 := Lib.hid (T_3.out.after hN'.out bl)
  have U_4 := Lib.hid (U_3.out.after hN'.out bl)
  have B_4 := Lib.hid (Below.after B_3.out bl)
  clear T_3 U_3 B_3
  clear bl hu4 hg4 l4
  go_wp2_with fail
  rw [HU4.out, HG4.out]
  refine (s2.out u4 g4 T_4.out U_4.out L4.out).mono ?_
  rintro e w5 ⟨rfl, hb⟩
  have T_5 := Lib.hid (T_4.out.after hN'.out hb)
  have U_5 := Lib.hid (U_4.out.after hN'.out hb)
  have B_5 := Lib.hid (Below.after B_4.out hb)
  clear T_4 U_4 B_4
  clear hb
  obtain ⟨g6, hg6⟩ : ∃ g, w5.heap.size = g := ⟨_, rfl⟩
  obtain ⟨u6, hu6⟩ : ∃ u, w5.alloc (.cells #[.pointer T.ptr] 25) = u := ⟨_, rfl⟩
  have l6 : LieP u6 u6.heap.size (some ⟨g6, 0, none⟩) 1 1 [T.ptr] := hg6 ▸ hu6 ▸ LieP.lit [T.ptr] (Has.new w5 25 #[.pointer T.ptr]) (by unfold maxLen; simp)
  have bl : Below w5.heap.size w5 u6 := hu6 ▸ (Below.refl _ _).alloc (Nat.le_refl _) _
  have HU6 := Lib.hid hu6
  have HG6 := Lib.hid hg6
  have L6 := Lib.hid l6
  have T_6 := Lib.hid (T_5.out.after hN'.out bl)
  have U_6 := Lib.hid (U_5.out.after hN'.out bl)
  have B_6 := Lib.hid (Below.after B_5.out bl)
  clear T_5 U_5 B_5
  clear bl hu6 hg6 l6
  go_wp2_with fail
  rw [HU6.out, HG6.out]
  refine (s3.out u6 g6 T_6.out L6.out).mono ?_
  rintro e w7 ⟨rfl, hb⟩
  have T_7 := Lib.hid (T_6.out.after hN'.out hb)
  have U_7 := Lib.hid (U_6.out.after hN'.out hb)
  have B_7 := Lib.hid (Below.after B_6.out hb)
  clear T_6 U_6 B_6
  clear hb
  go_wp2_with fail
  refine (s4.out w7 T_7.out).mono ?_
  rintro e w8 ⟨rfl, hb⟩
  have T_8 := Lib.hid (T_7.out.after hN'.out hb)
  have U_8 := Lib.hid (U_7.out.after hN'.out hb)
  have B_8 := Lib.hid (Below.after B_7.out hb)
  clear T_7 U_7 B_7
  clear hb
  obtain ⟨g9, hg9⟩ : ∃ g, w8.heap.size = g := ⟨_, rfl⟩
  obtain ⟨u9, hu9⟩ : ∃ u, w8.alloc (.cells #[.pointer U.ptr] 25) = u := ⟨_, rfl⟩
  have l9 : LieP u9 u9.heap.size (some ⟨g9, 0, none⟩) 1 1 [U.ptr] := hg9 ▸ hu9 ▸ LieP.lit [U.ptr] (Has.new w8 25 #[.pointer U.ptr]) (by unfold maxLen; simp)
  have bl : Below w8.heap.size w8 u9 := hu9 ▸ (Below.refl _ _).alloc (Nat.le_refl _) _
  have HU9 := Lib.hid hu9
  have HG9 := Lib.hid hg9
  have L9 := Lib.hid l9
  have T_9 := Lib.hid (T_8.out.after hN'.out bl)
  have U_9 := Lib.hid (U_8.out.after hN'.out bl)
  have B_9 := Lib.hid (Below.after B_8.out bl)
  clear T_8 U_8 B_8
  clear bl hu9 hg9 l9
  go_wp2_with fail
  rw [HU9.out, HG9.out]
  refine (s5.out u9 g9 T_9.out U_9.out L9.out).mono ?_
  rintro e w10 ⟨⟨A5, c5, rfl⟩, hb⟩
  have T_10 := Lib.hid (T_9.out.after hN'.out hb)
  have U_10 := Lib.hid (U_9.out.after hN'.out hb)
  have B_10 := Lib.hid (Below.after B_9.out hb)
  clear T_9 U_9 B_9
  clear hb
  clear U_10
  clear s1 s2 s3 s4 s5
  cases T with
  | e =>
    have hn0 : n = 0 := by have := lenT.out; simp only [AT.addrs, card] at this; omega
    subst hn0
    have q0 := Lib.hid (hN'.out.with0 w10 1#64 1#64)
    have q1 : Hid (∀ W g, Stand Nd W .e → LieP W W.heap.size (some ⟨g, 0, none⟩) 1 1 [none] → Calls Try.prog 9 #[.pointer none, .slice (some ⟨g, 0, none⟩) 1 1] W fun e w' => e = .returned (.int .i64 0) ∧ Below W.heap.size W w') := fun W g h1 h3 => hS'.out.new W .e [.e] _ 1 1 h1 (fun V hV => by rw [List.mem_singleton.1 hV]; exact h1) h3 (by decide) (by decide)
    have c9 := Lib.hid (fun W => alive13_any hN'.out hS'.out W)
    go_wp2_with fail
    refine (q0.out).mono ?_
    rintro e w11 ⟨rfl, hb⟩
    have T_11 := Lib.hid (T_10.out.after hN'.out hb)
    have B_11 := Lib.hid (Below.after B_10.out hb)
    clear T_10 B_10
    clear hb
    obtain ⟨g12, hg12⟩ : ∃ g, w11.heap.size = g := ⟨_, rfl⟩
    obtain ⟨u12, hu12⟩ : ∃ u, w11.alloc (.cells #[.pointer AT.e.ptr] 25) = u := ⟨_, rfl⟩
    have l12 : LieP u12 u12.heap.size (some ⟨g12, 0, none⟩) 1 1 [AT.e.ptr] := hg12 ▸ hu12 ▸ LieP.lit [AT.e.ptr] (Has.new w11 25 #[.pointer AT.e.ptr]) (by unfold maxLen; simp)
    have bl : Below w11.heap.size w11 u12 := hu12 ▸ (Below.refl _ _).alloc (Nat.le_refl _) _
    have HU12 := Lib.hid hu12
    have HG12 := Lib.hid hg12
    have L12 := Lib.hid l12
    have T_12 := Lib.hid (T_11.out.after hN'.out bl)
    have B_12 := Lib.hid (Below.after B_11.out bl)
    clear T_11 B_11
    clear bl hu12 hg12 l12
    go_wp2_with fail
    rw [HU12.out, HG12.out]
    refine (q1.out u12 g12 T_12.out L12.out).mono ?_
    rintro e w13 ⟨rfl, hb⟩
    have T_13 := Lib.hid (T_12.out.after hN'.out hb)
    have B_13 := Lib.hid (Below.after B_12.out hb)
    clear T_12 B_12
    clear hb
    go_wp2_with fail
    refine (c9.out w13).mono ?_
    rintro e w14 ⟨rfl, hb⟩
    have T_14 := Lib.hid (T_13.out.after hN'.out hb)
    have B_14 := Lib.hid (Below.after B_13.out hb)
    clear T_13 B_13
    clear hb
    go_wp2_with fail
    go_ret
    exact ⟨rfl, B_14.out⟩
  | n a x L R =>
    have hn1 : 1 ≤ n := by have h := lenT.out; rw [← h]; exact Nat.le_trans (by simp [card]) (card_sub (l := [a]) (m := (AT.n a x L R).addrs) (fun b hb => by rw [List.mem_singleton.1 hb]; exact AT.mem_n.2 (.inl rfl)))
    have q0 := Lib.hid (with13 hN'.out w10 a x L R 1#64 1#64 T_10.out)
    have ltT := Lib.hid (T_10.out.lt hN'.out)
    have c9 := Lib.hid (fun W => alive13_any hN'.out hS'.out W)
    go_wp2_with fail
    refine (q0.out).mono ?_
    rintro e w11 ⟨b, y, rfl, hC, hab, hb⟩
    have T_11 := Lib.hid (T_10.out.after hN'.out hb)
    have B_11 := Lib.hid (Below.after B_10.out hb)
    clear T_10 B_10
    have C_11 := Lib.hid hC
    clear hC
    clear hb
    have hnb : b ∉ (AT.n a x L R).addrs := fun h => by have := ltT.out b h; omega
    have kC : newC (AT.n b y L R).addrs (AT.n a x L R).addrs = 1 := by
      unfold newC
      refine card_same (a := b) _ (fun z hz => ?_) (fun e => ?_)
      · obtain ⟨h1, h2⟩ := List.mem_filter.1 hz
        simp only [decide_eq_true_eq] at h2
        rcases AT.mem_n.1 h1 with h | h | h
        · exact h
        · exact absurd (AT.mem_n.2 (.inr (.inl h))) h2
        · exact absurd (AT.mem_n.2 (.inr (.inr h))) h2
      · have : b ∈ (AT.n b y L R).addrs.filter fun a_1 => decide (a_1 ∉ (AT.n a x L R).addrs) := List.mem_filter.2 ⟨AT.mem_n.2 (.inl rfl), by simpa using hnb⟩
        rw [e] at this; cases this
    have fewC : card ((AT.n a x L R).addrs ++ (AT.n b y L R).addrs) ≤ 2000 := by rw [card_append, kC]; have := lenT.out; have := hn'.out; omega
    have q1 : Hid (∀ W g, Stand Nd W (.n a x L R) → Stand Nd W (.n b y L R) → LieP W W.heap.size (some ⟨g, 0, none⟩) 1 1 [some a] → Calls Try.prog 9 #[.pointer (some b), .slice (some ⟨g, 0, none⟩) 1 1] W fun e w' => e = .returned (.int .i64 1) ∧ Below W.heap.size W w') := fun W g h1 h2 h3 => by
      have := hS'.out.new W (.n b y L R) [.n a x L R] _ 1 1 h2 (fun V hV => by rw [List.mem_singleton.1 hV]; exact h1) h3 (by decide) (by rw [addrsOf_one]; exact fewC)
      rw [addrsOf_one, kC] at this
      exact this
    clear hnb kC fewC hab ltT
    obtain ⟨g12, hg12⟩ : ∃ g, w11.heap.size = g := ⟨_, rfl⟩
    obtain ⟨u12, hu12⟩ : ∃ u, w11.alloc (.cells #[.pointer (AT.n a x L R).ptr] 25) = u := ⟨_, rfl⟩
    have l12 : LieP u12 u12.heap.size (some ⟨g12, 0, none⟩) 1 1 [(AT.n a x L R).ptr] := hg12 ▸ hu12 ▸ LieP.lit [(AT.n a x L R).ptr] (Has.new w11 25 #[.pointer (AT.n a x L R).ptr]) (by unfold maxLen; simp)
    have bl : Below w11.heap.size w11 u12 := hu12 ▸ (Below.refl _ _).alloc (Nat.le_refl _) _
    have HU12 := Lib.hid hu12
    have HG12 := Lib.hid hg12
    have L12 := Lib.hid l12
    have T_12 := Lib.hid (T_11.out.after hN'.out bl)
    have C_12 := Lib.hid (C_11.out.after hN'.out bl)
    have B_12 := Lib.hid (Below.after B_11.out bl)
    clear T_11 C_11 B_11
    clear bl hu12 hg12 l12
    go_wp2_with fail
    rw [HU12.out, HG12.out]
    refine (q1.out u12 g12 T_12.out C_12.out L12.out).mono ?_
    rintro e w13 ⟨rfl, hb⟩
    have T_13 := Lib.hid (T_12.out.after hN'.out hb)
    have C_13 := Lib.hid (C_12.out.after hN'.out hb)
    have B_13 := Lib.hid (Below.after B_12.out hb)
    clear T_12 C_12 B_12
    clear hb
    by_cases hn2 : 1 < n
    · go_wp2_with fail
      refine (c9.out w13).mono ?_
      rintro e w14 ⟨rfl, hb⟩
      have T_14 := Lib.hid (T_13.out.after hN'.out hb)
      have C_14 := Lib.hid (C_13.out.after hN'.out hb)
      have B_14 := Lib.hid (Below.after B_13.out hb)
      clear T_13 C_13 B_13
      clear hb
      go_wp2_with fail
      go_ret
      exact ⟨rfl, B_14.out⟩
    · obtain rfl : n = 1 := by omega
      go_wp2_with fail
      refine (c9.out w13).mono ?_
      rintro e w14 ⟨rfl, hb⟩
      have T_14 := Lib.hid (T_13.out.after hN'.out hb)
      have C_14 := Lib.hid (C_13.out.after hN'.out hb)
      have B_14 := Lib.hid (Below.after B_13.out hb)
      clear T_13 C_13 B_13
      clear hb
      go_wp2_with fail
      go_ret
      exact ⟨rfl, B_14.out⟩
end Go.Proofs.Ythhhkcjggfdagaa
