/- Layer 13: the statement ShareAdds, walked. Made by wip/gen/layer13adds.py. -/
import Derived.Test.YthhhkcjggfdagaaL13Some
import Derived.Test.YthhhkcjggfdagaaL13Alike
import Derived.Test.YthhhkcjggfdagaaGCut
namespace Go.Proofs.Ythhhkcjggfdagaa
open Go.RowKit Go.Proofs.Treem Go.Proofs.Cardm Go.Proofs.Rowm
set_option maxRecDepth 100000
variable {Nd : NdP}

/-- what holds of a tree, and of the sides of all that it holds of, holds of its tops -/
theorem tops_prop (Pr : AT → Prop) (hs : ∀ a x l r, Pr (.n a x l r) → Pr l ∧ Pr r) (O : List Addr) : ∀ (T : AT) (out : List AT), Pr T → ∀ V ∈ T.tops O out, V ∈ out ∨ Pr V
  | .e, _, _, _, h => .inl h
  | .n a x l r, out, hp, V, h => by
    rw [AT.tops] at h
    split at h
    · split at h
      · exact .inl h
      · rcases List.mem_append.1 h with h | h
        · exact .inl h
        · rw [List.mem_singleton.1 h]; exact .inr hp
    · rcases tops_prop Pr hs O r _ (hs a x l r hp).2 V h with h | h
      · exact tops_prop Pr hs O l out (hs a x l r hp).1 V h
      · exact .inr h
theorem Stand.top (hN : NodeSays Nd) {W : World} {T : AT} (h : Stand Nd W T) (O : List Addr) : ∀ V ∈ topsOf O T, Stand Nd W V := fun V hV =>
  (tops_prop (Stand Nd W) (fun _ _ _ _ h => ⟨h.left hN, h.right hN⟩) O T [] h V hV).resolve_left (fun h => by cases h)
theorem size_ptr13 (W : World) : (sizeOf 25).run Try.prog W = .ok 1 W := by kernel_rfl
theorem sums13 (NP NQ NT TO SO N1 : Nat) (k2 : NT = 1 + NP + NQ) (k3 : TO + SO = NT) (bT : NT ≤ 19) (h1 : 1 + NP = N1) :
    wrap64 (1 + (NP : Int)) = (N1 : Int) ∧ wrap64 ((N1 : Int) + (NQ : Int)) = (NT : Int) ∧ wrap64 ((TO : Int) + (SO : Int)) = (NT : Int) ∧ NT ≤ 2000 := by
  unfold wrap64
  refine ⟨?_, ?_, ?_, ?_⟩ <;> omega
theorem sum13 (x y : Nat) (hx : x ≤ 19) (hy : y ≤ 19) : IntKind.i64.wrap ((x : Int) + (y : Int)) = ((x + y : Nat) : Int) := by rw [IntWalk.i64_in _ (by omega)]; push_cast; rfl
theorem addrs_two (P Q : AT) : addrsOf [P, Q] = P.addrs ++ Q.addrs := by simp [addrsOf]
section
variable {a : Addr} {x : No} {P Q : AT}
theorem one_new (hp : a ∉ P.addrs) (hq : a ∉ Q.addrs) : newC (AT.n a x P Q).addrs (P.addrs ++ Q.addrs) = 1 := by
  unfold newC
  refine card_same (a := a) _ (fun z hz => ?_) (fun e => ?_)
  · obtain ⟨h1, h2⟩ := List.mem_filter.1 hz
    simp only [decide_eq_true_eq, List.mem_append, not_or] at h2
    rcases AT.mem_n.1 h1 with h | h | h
    · exact h
    · exact absurd h h2.1
    · exact absurd h h2.2
  · have : a ∈ (AT.n a x P Q).addrs.filter fun a_1 => decide (a_1 ∉ P.addrs ++ Q.addrs) := List.mem_filter.2 ⟨AT.mem_n.2 (.inl rfl), by simp [hp, hq]⟩
    rw [e] at this; cases this
theorem all_new (hp : a ∉ P.addrs) (hq : a ∉ Q.addrs) : card (AT.n a x P Q).addrs = 1 + card P.addrs + newC Q.addrs P.addrs := by
  have e : card (AT.n a x P Q).addrs = card (a :: (P.addrs ++ Q.addrs)) := card_eq fun z => by
    rw [AT.mem_n, List.mem_cons, List.mem_append]
  rw [e, card_cons _ _ (by simp [hp, hq]), card_append]
  omega
end
set_option maxHeartbeats 8000000 in
theorem shareAdds_any (hN : NodeSays Nd) (hS : ShareSays Nd) (A : Option Addr) (n c : Nat) (l : List Pr) (a b q : Nat) (ha : a ≤ 255) (hb : b ≤ 255) (hq : q ≤ 255) (w : World) (h : LieD w w.heap.size A n c l) :
    Calls Try.prog 4 #[.slice A n c, .int .u8 a, .int .u8 b, .int .u8 q] w fun e w' => e = .returned (.bool true) ∧ Below w.heap.size w w' := by
  have c0 := Lib.hid (few13_any A n c w.heap.size l w h)
  have cS := Lib.hid (fun hn => some13_any hN A n c w.heap.size l hn w (Nat.le_refl _) h)
  have c9 := Lib.hid (alive13_any hN hS)
  have hN' := Lib.hid hN
  have hS' := Lib.hid hS
  have ha' := Lib.hid ha
  have hb' := Lib.hid hb
  have hq' := Lib.hid hq
  clear h hN hS ha hb hq
  go_enter Try.func4, Try.ntmps4
  go_wp2_with fail
  refine c0.out.mono ?_
  rintro e w' ⟨⟨B, rfl, hB⟩, rfl⟩
  have hB' := Lib.hid hB
  clear hB c0
  cases B with
  | false =>
    go_wp2_with fail
    refine (c9.out _).mono ?_
    rintro e w1 ⟨rfl, hb⟩
    have b1 := Lib.hid hb
    clear hb
    go_wp2
    go_ret
    exact ⟨rfl, b1.out⟩
  | true =>
    have hn18 : n ≤ 18 := hB'.out (by trivial)
    by_cases hn0 : n = 0
    · subst hn0
      clear hn18
      go_wp2_with fail
      refine (c9.out _).mono ?_
      rintro e w1 ⟨rfl, hb⟩
      have b1 := Lib.hid hb
      clear hb
      go_wp2
      go_ret
      exact ⟨rfl, b1.out⟩
    · have z0 : ((n : Int) == 0) = false := by simp; omega
      go_wp2_with fail
      refine (cS.out hn18).mono ?_
      rintro e w1 ⟨v, Fm, rs, rfl, how, hfm, hfl, hbw⟩
      obtain ⟨Ax, cx, rfl, lie⟩ := LieP.of_own how
      obtain ⟨ia, hia⟩ : ∃ i, a % n = i := ⟨_, rfl⟩
      obtain ⟨ib, hib⟩ : ∃ i, b % n = i := ⟨_, rfl⟩
      obtain ⟨io, hio⟩ : ∃ i, q % n = i := ⟨_, rfl⟩
      have la : ia < n := hia ▸ Nat.mod_lt _ (by omega)
      have lb : ib < n := hib ▸ Nat.mod_lt _ (by omega)
      have lo : io < n := hio ▸ Nat.mod_lt _ (by omega)
      obtain ⟨P, hP⟩ : ∃ T, Fm[ia]'(by omega) = T := ⟨_, rfl⟩
      obtain ⟨Q, hQ⟩ : ∃ T, Fm[ib]'(by omega) = T := ⟨_, rfl⟩
      obtain ⟨O, hO⟩ : ∃ T, Fm[io]'(by omega) = T := ⟨_, rfl⟩
      have gp : ∀ (i : Nat) (hi : i < Fm.length), (Fm.map AT.ptr)[i]? = some (Fm[i]).ptr := fun i hi => by rw [List.getElem?_map, List.getElem?_eq_getElem hi]; rfl
      obtain ⟨adx, rfl, -, x0⟩ := lie.at_ ia P.ptr (by rw [gp ia (by omega), hP])
      obtain ⟨adx', e', -, x1⟩ := lie.at_ ib Q.ptr (by rw [gp ib (by omega), hQ])
      cases e'
      obtain ⟨adx', e', -, x2⟩ := lie.at_ io O.ptr (by rw [gp io (by omega), hO])
      cases e'
      have mP : P ∈ Fm := hP ▸ List.getElem_mem _
      have mQ : Q ∈ Fm := hQ ▸ List.getElem_mem _
      have mO : O ∈ Fm := hO ▸ List.getElem_mem _
      have rlen : rs.length = n := by have := congrArg List.length hfm.roots; rw [List.length_map, List.length_map, hfl] at this; exact this.symm
      have ra : (a : Int) % (n : Int) = (ia : Int) := by rw [← hia]; rfl
      have rb : (b : Int) % (n : Int) = (ib : Int) := by rw [← hib]; rfl
      have rq : (q : Int) % (n : Int) = (io : Int) := by rw [← hio]; rfl
      have sa : (a : Int).tmod (n : Int) = (ia : Int) := by rw [Int.tmod_eq_emod_of_nonneg (by omega)]; exact ra
      have sb : (b : Int).tmod (n : Int) = (ib : Int) := by rw [Int.tmod_eq_emod_of_nonneg (by omega)]; exact rb
      have sq : (q : Int).tmod (n : Int) = (io : Int) := by rw [Int.tmod_eq_emod_of_nonneg (by omega)]; exact rq
      have ua : IntKind.i64.wrap (a : Int) = (a : Int) := IntWalk.i64_in _ (by have := ha'.out; omega)
      have ub : IntKind.i64.wrap (b : Int) = (b : Int) := IntWalk.i64_in _ (by have := hb'.out; omega)
      have uq : IntKind.i64.wrap (q : Int) = (q : Int) := IntWalk.i64_in _ (by have := hq'.out; omega)
      have va : IntKind.i64.wrap (ia : Int) = (ia : Int) := IntWalk.i64_in _ (by omega)
      have vb : IntKind.i64.wrap (ib : Int) = (ib : Int) := IntWalk.i64_in _ (by omega)
      have vq : IntKind.i64.wrap (io : Int) = (io : Int) := IntWalk.i64_in _ (by omega)
      have FM := Lib.hid hfm
      have B_1 := Lib.hid hbw
      have RL := Lib.hid rlen
      have hP' := Lib.hid mP
      have hQ' := Lib.hid mQ
      have hO' := Lib.hid mO
      have N18 := Lib.hid hn18
      clear hia hib hio hP hQ hO gp hfm hbw how hfl rlen mP mQ mO lie cS hB' hn18 ra rb rq
      go_wp2_with fail
      refine wp_region_held_drew (S := fun u => u.cell? (adx.add ia) = some (.pointer P.ptr) ∧ u.cell? (adx.add ib) = some (.pointer Q.ptr) ∧ u.cell? (adx.add io) = some (.pointer O.ptr)) (by kernel_rfl) ⟨x0, x1, x2⟩ (fun hS => ?_)
      refine wpAnyH_take (i := 0) (oi := ?dqr1q0) (v := ?dvr1q0) ?hir1q0 (by kernel_rfl) (by kernel_rfl) (by kernel_rfl) ?hQr1q0 (Or.inl ⟨?hwr1q0, ?hyr1q0⟩) hS ?hrr1q0
      case hir1q0 => simp only [List.getElem?_toArray, List.getElem?_cons_zero]; rfl
      case hQr1q0 => exact fun _ _ _ h => h
      case hwr1q0 => rfl
      case hyr1q0 => (intro w hSw; (try dsimp only at hSw); go_simp; (try with_reducible rfl))
      simp only [Act.put, List.setIfInBounds_toArray, List.set_cons_zero, List.set_cons_succ]
      refine wpAnyH_take (i := 1) (oi := ?dqr1q1) (v := ?dvr1q1) ?hir1q1 (by kernel_rfl) (by kernel_rfl) (by kernel_rfl) ?hQr1q1 (Or.inl ⟨?hwr1q1, ?hyr1q1⟩) hS ?hrr1q1
      case hir1q1 => simp only [List.getElem?_toArray, List.getElem?_cons_succ, List.getElem?_cons_zero]; rfl
      case hQr1q1 => exact fun _ _ _ h => h
      case hwr1q1 => rfl
      case hyr1q1 => (intro w hSw; (try dsimp only at hSw); go_simp; (try with_reducible rfl))
      simp only [Act.put, List.setIfInBounds_toArray, List.set_cons_zero, List.set_cons_succ]
      refine wpAnyH_take (i := 2) (oi := ?dqr1q2) (v := ?dvr1q2) ?hir1q2 (by kernel_rfl) (by kernel_rfl) (by kernel_rfl) ?hQr1q2 (Or.inl ⟨?hwr1q2, ?hyr1q2⟩) hS ?hrr1q2
      case hir1q2 => simp only [List.getElem?_toArray, List.getElem?_cons_succ, List.getElem?_cons_zero]; rfl
      case hQr1q2 => exact fun _ _ _ h => h
      case hwr1q2 => rfl
      case hyr1q2 => (intro w hSw; (try dsimp only at hSw); go_simp; (try with_reducible rfl))
      simp only [Act.put, List.setIfInBounds_toArray, List.set_cons_zero, List.set_cons_succ]
      refine wpAnyH_take (i := 3) (oi := ?dqr1q3) (v := ?dvr1q3) ?hir1q3 (by kernel_rfl) (by kernel_rfl) (by kernel_rfl) ?hQr1q3 (Or.inl ⟨?hwr1q3, ?hyr1q3⟩) hS ?hrr1q3
      case hir1q3 => simp only [List.getElem?_toArray, List.getElem?_cons_succ, List.getElem?_cons_zero]; rfl
      case hQr1q3 => exact fun _ _ _ h => h
      case hwr1q3 => rfl
      case hyr1q3 => (intro w hSw; (try dsimp only at hSw); go_simp; (try with_reducible rfl))
      simp only [Act.put, List.setIfInBounds_toArray, List.set_cons_zero, List.set_cons_succ]
      refine wpAnyH_take (i := 4) (oi := ?dqr1q4) (v := ?dvr1q4) ?hir1q4 (by kernel_rfl) (by kernel_rfl) (by kernel_rfl) ?hQr1q4 (Or.inl ⟨?hwr1q4, ?hyr1q4⟩) hS ?hrr1q4
      case hir1q4 => simp only [List.getElem?_toArray, List.getElem?_cons_succ, List.getElem?_cons_zero]; rfl
      case hQr1q4 => exact fun _ _ _ h => h
      case hwr1q4 => rfl
      case hyr1q4 => (intro w hSw; (try dsimp only at hSw); go_simp; (try with_reducible rfl))
      simp only [Act.put, List.setIfInBounds_toArray, List.set_cons_zero, List.set_cons_succ]
      refine wpAnyH_take (i := 5) (oi := ?dqr1q5) (v := ?dvr1q5) ?hir1q5 (by kernel_rfl) (by kernel_rfl) (by kernel_rfl) ?hQr1q5 (Or.inl ⟨?hwr1q5, ?hyr1q5⟩) hS ?hrr1q5
      case hir1q5 => simp only [List.getElem?_toArray, List.getElem?_cons_succ, List.getElem?_cons_zero]; rfl
      case hQr1q5 => exact fun _ _ _ h => h
      case hwr1q5 => rfl
      case hyr1q5 => (intro w hSw; (try dsimp only at hSw); go_simp; (try with_reducible rfl))
      simp only [Act.put, List.setIfInBounds_toArray, List.set_cons_zero, List.set_cons_succ]
      refine wpAnyH_take (i := 6) (oi := ?dqr1q6) (v := ?dvr1q6) ?hir1q6 (by kernel_rfl) (by kernel_rfl) (by kernel_rfl) ?hQr1q6 (Or.inl ⟨?hwr1q6, ?hyr1q6⟩) hS ?hrr1q6
      case hir1q6 => simp only [List.getElem?_toArray, List.getElem?_cons_succ, List.getElem?_cons_zero]; rfl
      case hQr1q6 => exact fun _ _ _ h => h
      case hwr1q6 => rfl
      case hyr1q6 => (intro w hSw; (try dsimp only at hSw); go_simp; (try with_reducible rfl))
      simp only [Act.put, List.setIfInBounds_toArray, List.set_cons_zero, List.set_cons_succ]
      refine wpAnyH_take (i := 7) (oi := ?dqr1q7) (v := ?dvr1q7) ?hir1q7 (by kernel_rfl) (by kernel_rfl) (by kernel_rfl) ?hQr1q7 (Or.inl ⟨?hwr1q7, ?hyr1q7⟩) hS ?hrr1q7
      case hir1q7 => simp only [List.getElem?_toArray, List.getElem?_cons_succ, List.getElem?_cons_zero]; rfl
      case hQr1q7 => exact fun _ _ _ h => h
      case hwr1q7 => rfl
      case hyr1q7 => (intro w hSw; (try dsimp only at hSw); go_simp; (try with_reducible rfl))
      simp only [Act.put, List.setIfInBounds_toArray, List.set_cons_zero, List.set_cons_succ]
      refine wpAnyH_take (i := 8) (oi := ?dqr1q8) (v := ?dvr1q8) ?hir1q8 (by kernel_rfl) (by kernel_rfl) (by kernel_rfl) ?hQr1q8 (Or.inl ⟨?hwr1q8, ?hyr1q8⟩) hS ?hrr1q8
      case hir1q8 => simp only [List.getElem?_toArray, List.getElem?_cons_succ, List.getElem?_cons_zero]; rfl
      case hQr1q8 => exact fun _ _ _ h => h
      case hwr1q8 => rfl
      case hyr1q8 => (intro w hSw; (try dsimp only at hSw); go_simp; (try with_reducible rfl))
      simp only [Act.put, List.setIfInBounds_toArray, List.set_cons_zero, List.set_cons_succ]
      refine wpAnyH_take (i := 9) (oi := ?dqr1q9) (v := ?dvr1q9) ?hir1q9 (by kernel_rfl) (by kernel_rfl) (by kernel_rfl) ?hQr1q9 (Or.inl ⟨?hwr1q9, ?hyr1q9⟩) hS ?hrr1q9
      case hir1q9 => simp only [List.getElem?_toArray, List.getElem?_cons_succ, List.getElem?_cons_zero]; rfl
      case hQr1q9 => exact fun _ _ _ h => h
      case hwr1q9 => rfl
      case hyr1q9 => (intro w hSw; (try dsimp only at hSw); go_simp; (try with_reducible rfl))
      simp only [Act.put, List.setIfInBounds_toArray, List.set_cons_zero, List.set_cons_succ]
      refine wpAnyH_take (i := 10) (oi := ?dqr1q10) (v := ?dvr1q10) ?hir1q10 (by kernel_rfl) (by kernel_rfl) (by kernel_rfl) ?hQr1q10 (Or.inl ⟨?hwr1q10, ?hyr1q10⟩) hS ?hrr1q10
      case hir1q10 => simp only [List.getElem?_toArray, List.getElem?_cons_succ, List.getElem?_cons_zero]; rfl
      case hQr1q10 => exact fun _ _ _ h => h
      case hwr1q10 => rfl
      case hyr1q10 => (intro w hSw; (try dsimp only at hSw); go_simp; (try with_reducible rfl))
      simp only [Act.put, List.setIfInBounds_toArray, List.set_cons_zero, List.set_cons_succ]
      refine wpAnyH_take (i := 11) (oi := ?dqr1q11) (v := ?dvr1q11) ?hir1q11 (by kernel_rfl) (by kernel_rfl) (by kernel_rfl) ?hQr1q11 (Or.inl ⟨?hwr1q11, ?hyr1q11⟩) hS ?hrr1q11
      case hir1q11 => simp only [List.getElem?_toArray, List.getElem?_cons_succ, List.getElem?_cons_zero]; rfl
      case hQr1q11 => exact fun _ _ _ h => h
      case hwr1q11 => rfl
      case hyr1q11 => (intro w hSw; (try dsimp only at hSw); go_simp; (try with_reducible rfl))
      simp only [Act.put, List.setIfInBounds_toArray, List.set_cons_zero, List.set_cons_succ]
      refine wpAnyH_take (i := 12) (oi := ?dqr1q12) (v := ?dvr1q12) ?hir1q12 (by kernel_rfl) (by kernel_rfl) (by kernel_rfl) ?hQr1q12 (Or.inl ⟨?hwr1q12, ?hyr1q12⟩) hS ?hrr1q12
      case hir1q12 => simp only [List.getElem?_toArray, List.getElem?_cons_succ, List.getElem?_cons_zero]; rfl
      case hQr1q12 => exact fun _ _ _ h => h
      case hwr1q12 => rfl
      case hyr1q12 => (intro w hSw; (try dsimp only at hSw); go_simp; (try with_reducible rfl))
      simp only [Act.put, List.setIfInBounds_toArray, List.set_cons_zero, List.set_cons_succ]
      refine wpAnyH_take (i := 13) (oi := ?dqr1q13) (v := ?dvr1q13) ?hir1q13 (by kernel_rfl) (by kernel_rfl) (by kernel_rfl) ?hQr1q13 (Or.inl ⟨?hwr1q13, ?hyr1q13⟩) hS ?hrr1q13
      case hir1q13 => simp only [List.getElem?_toArray, List.getElem?_cons_succ, List.getElem?_cons_zero]; rfl
      case hQr1q13 => exact fun _ _ _ h => h
      case hwr1q13 => rfl
      case hyr1q13 => (intro w hSw; (try dsimp only at hSw); go_simp; (try with_reducible rfl))
      simp only [Act.put, List.setIfInBounds_toArray, List.set_cons_zero, List.set_cons_succ]
      refine wpAnyH_take (i := 14) (oi := ?dqr1q14) (v := ?dvr1q14) ?hir1q14 (by kernel_rfl) (by kernel_rfl) (by kernel_rfl) ?hQr1q14 (Or.inl ⟨?hwr1q14, ?hyr1q14⟩) hS ?hrr1q14
      case hir1q14 => simp only [List.getElem?_toArray, List.getElem?_cons_succ, List.getElem?_cons_zero]; rfl
      case hQr1q14 => exact fun _ _ _ h => h
      case hwr1q14 => rfl
      case hyr1q14 => (intro w hSw; (try dsimp only at hSw); go_simp; (try with_reducible rfl))
      simp only [Act.put, List.setIfInBounds_toArray, List.set_cons_zero, List.set_cons_succ]
      refine wpAnyH_take (i := 15) (oi := ?dqr1q15) (v := ?dvr1q15) ?hir1q15 (by kernel_rfl) (by kernel_rfl) (by kernel_rfl) ?hQr1q15 (Or.inl ⟨?hwr1q15, ?hyr1q15⟩) hS ?hrr1q15
      case hir1q15 => simp only [List.getElem?_toArray, List.getElem?_cons_succ, List.getElem?_cons_zero]; rfl
      case hQr1q15 => exact fun _ _ _ h => h
      case hwr1q15 => rfl
      case hyr1q15 => (intro w hSw; (try dsimp only at hSw); go_simp; (try with_reducible rfl))
      simp only [Act.put, List.setIfInBounds_toArray, List.set_cons_zero, List.set_cons_succ]
      refine wpAnyH_take (i := 16) (oi := ?dqr1q16) (v := ?dvr1q16) ?hir1q16 (by kernel_rfl) (by kernel_rfl) (by kernel_rfl) ?hQr1q16 (Or.inl ⟨?hwr1q16, ?hyr1q16⟩) hS ?hrr1q16
      case hir1q16 => simp only [List.getElem?_toArray, List.getElem?_cons_succ, List.getElem?_cons_zero]; rfl
      case hQr1q16 => exact fun _ _ _ h => h
      case hwr1q16 => rfl
      case hyr1q16 => (intro w hSw; (try dsimp only at hSw); go_simp; (try with_reducible rfl))
      simp only [Act.put, List.setIfInBounds_toArray, List.set_cons_zero, List.set_cons_succ]
      refine wpAnyH_take (i := 17) (oi := ?dqr1q17) (v := ?dvr1q17) ?hir1q17 (by kernel_rfl) (by kernel_rfl) (by kernel_rfl) ?hQr1q17 (Or.inl ⟨?hwr1q17, ?hyr1q17⟩) hS ?hrr1q17
      case hir1q17 => simp only [List.getElem?_toArray, List.getElem?_cons_succ, List.getElem?_cons_zero]; rfl
      case hQr1q17 => exact fun _ _ _ h => h
      case hwr1q17 => rfl
      case hyr1q17 => (intro w hSw; (try dsimp only at hSw); go_simp; (try with_reducible rfl))
      simp only [Act.put, List.setIfInBounds_toArray, List.set_cons_zero, List.set_cons_succ]
      refine wpAnyH_take (i := 18) (oi := ?dqr1q18) (v := ?dvr1q18) ?hir1q18 (by kernel_rfl) (by kernel_rfl) (by kernel_rfl) ?hQr1q18 (Or.inl ⟨?hwr1q18, ?hyr1q18⟩) hS ?hrr1q18
      case hir1q18 => simp only [List.getElem?_toArray, List.getElem?_cons_succ, List.getElem?_cons_zero]; rfl
      case hQr1q18 => exact fun _ _ _ h => h
      case hwr1q18 => rfl
      case hyr1q18 => (intro w hSw; (try dsimp only at hSw); go_simp; (try with_reducible rfl))
      simp only [Act.put, List.setIfInBounds_toArray, List.set_cons_zero, List.set_cons_succ]
      refine wpAnyH_take (i := 19) (oi := ?dqr1q19) (v := ?dvr1q19) ?hir1q19 (by kernel_rfl) (by kernel_rfl) (by kernel_rfl) ?hQr1q19 (Or.inl ⟨?hwr1q19, ?hyr1q19⟩) hS ?hrr1q19
      case hir1q19 => simp only [List.getElem?_toArray, List.getElem?_cons_succ, List.getElem?_cons_zero]; rfl
      case hQr1q19 => exact fun _ _ _ h => h
      case hwr1q19 => rfl
      case hyr1q19 => (intro w hSw; (try dsimp only at hSw); go_simp; (try with_reducible rfl))
      simp only [Act.put, List.setIfInBounds_toArray, List.set_cons_zero, List.set_cons_succ]
      refine wpAnyH_take (i := 20) (oi := ?dqr1q20) (v := ?dvr1q20) ?hir1q20 (by kernel_rfl) (by kernel_rfl) (by kernel_rfl) ?hQr1q20 (Or.inl ⟨?hwr1q20, ?hyr1q20⟩) hS ?hrr1q20
      case hir1q20 => simp only [List.getElem?_toArray, List.getElem?_cons_succ, List.getElem?_cons_zero]; rfl
      case hQr1q20 => exact fun _ _ _ h => h
      case hwr1q20 => rfl
      case hyr1q20 => (intro w hSw; (try dsimp only at hSw); go_simp; (try with_reducible rfl))
      simp only [Act.put, List.setIfInBounds_toArray, List.set_cons_zero, List.set_cons_succ]
      refine wpAnyH_take (i := 21) (oi := ?dqr1q21) (v := ?dvr1q21) ?hir1q21 (by kernel_rfl) (by kernel_rfl) (by kernel_rfl) ?hQr1q21 (Or.inl ⟨?hwr1q21, ?hyr1q21⟩) hS ?hrr1q21
      case hir1q21 => simp only [List.getElem?_toArray, List.getElem?_cons_succ, List.getElem?_cons_zero]; rfl
      case hQr1q21 => exact fun _ _ _ h => h
      case hwr1q21 => rfl
      case hyr1q21 => (intro w hSw; (try dsimp only at hSw); go_simp; (try with_reducible rfl))
      simp only [Act.put, List.setIfInBounds_toArray, List.set_cons_zero, List.set_cons_succ]
      refine wpAnyH_take (i := 22) (oi := ?dqr1q22) (v := ?dvr1q22) ?hir1q22 (by kernel_rfl) (by kernel_rfl) (by kernel_rfl) ?hQr1q22 (Or.inl ⟨?hwr1q22, ?hyr1q22⟩) hS ?hrr1q22
      case hir1q22 => simp only [List.getElem?_toArray, List.getElem?_cons_succ, List.getElem?_cons_zero]; rfl
      case hQr1q22 => exact fun _ _ _ h => h
      case hwr1q22 => rfl
      case hyr1q22 => (intro w hSw; (try dsimp only at hSw); go_simp; (try with_reducible rfl))
      simp only [Act.put, List.setIfInBounds_toArray, List.set_cons_zero, List.set_cons_succ]
      refine wpAnyH_take (i := 23) (oi := ?dqr1q23) (v := ?dvr1q23) ?hir1q23 (by kernel_rfl) (by kernel_rfl) (by kernel_rfl) ?hQr1q23 (Or.inl ⟨?hwr1q23, ?hyr1q23⟩) hS ?hrr1q23
      case hir1q23 => simp only [List.getElem?_toArray, List.getElem?_cons_succ, List.getElem?_cons_zero]; rfl
      case hQr1q23 => exact fun _ _ _ h => h
      case hwr1q23 => rfl
      case hyr1q23 => (intro w hSw; (try dsimp only at hSw); go_simp; (try with_reducible rfl))
      simp only [Act.put, List.setIfInBounds_toArray, List.set_cons_zero, List.set_cons_succ]
      refine wpAnyH_take (i := 24) (oi := ?dqr1q24) (v := ?dvr1q24) ?hir1q24 (by kernel_rfl) (by kernel_rfl) (by kernel_rfl) ?hQr1q24 (Or.inl ⟨?hwr1q24, ?hyr1q24⟩) hS ?hrr1q24
      case hir1q24 => simp only [List.getElem?_toArray, List.getElem?_cons_succ, List.getElem?_cons_zero]; rfl
      case hQr1q24 => exact fun _ _ _ h => h
      case hwr1q24 => rfl
      case hyr1q24 => (intro w hSw; (try dsimp only at hSw); go_simp; (try with_reducible rfl))
      simp only [Act.put, List.setIfInBounds_toArray, List.set_cons_zero, List.set_cons_succ]
      refine wpAnyH_take (i := 25) (oi := ?dqr1q25) (v := ?dvr1q25) ?hir1q25 (by kernel_rfl) (by kernel_rfl) (by kernel_rfl) ?hQr1q25 (Or.inl ⟨?hwr1q25, ?hyr1q25⟩) hS ?hrr1q25
      case hir1q25 => simp only [List.getElem?_toArray, List.getElem?_cons_succ, List.getElem?_cons_zero]; rfl
      case hQr1q25 => exact fun _ _ _ h => h
      case hwr1q25 => rfl
      case hyr1q25 => (intro w hSw; (try dsimp only at hSw); go_simp; (try with_reducible rfl))
      simp only [Act.put, List.setIfInBounds_toArray, List.set_cons_zero, List.set_cons_succ]
      refine wpAnyH_take (i := 26) (oi := ?dqr1q26) (v := ?dvr1q26) ?hir1q26 (by kernel_rfl) (by kernel_rfl) (by kernel_rfl) ?hQr1q26 (Or.inl ⟨?hwr1q26, ?hyr1q26⟩) hS ?hrr1q26
      case hir1q26 => simp only [List.getElem?_toArray, List.getElem?_cons_succ, List.getElem?_cons_zero]; rfl
      case hQr1q26 => exact fun _ _ _ h => h
      case hwr1q26 => rfl
      case hyr1q26 => (intro w hSw; (try dsimp only at hSw); go_simp; (try with_reducible rfl))
      simp only [Act.put, List.setIfInBounds_toArray, List.set_cons_zero, List.set_cons_succ]
      refine wpAnyH_done (by kernel_rfl) ?_ _
      have bd : Below w1.heap.size w1 w1.drew := (Below.refl _ _).drew
      have FD := FM.out.after hN'.out bd
      have cN : Hid (Calls Try.prog 15 #[.pointer P.ptr, .int .i64 7, .int .i64 7, .int .u64 7, .pointer Q.ptr] w1.drew (Made13 Nd P Q 7#64 7#64 7#64 w1.drew)) := new13 hN'.out w1.drew P Q 7#64 7#64 7#64 (FD.stand (.inr hP'.out)) (FD.stand (.inr hQ'.out))
      have BD := Lib.hid (Below.after B_1.out bd)
      have FD' := Lib.hid FD
      clear hS x0 x1 x2 bd FD FM B_1 sa sb sq ua ub uq va vb vq la lb lo z0
      go_wp2_with fail
      refine cN.out.mono ?_
      rintro e w3 ⟨t, y, rfl, -, hT, hab, hb⟩
      have O_3 := Lib.hid ((FD'.out.stand (.inr hO'.out)).after hN'.out hb)
      have B_3 := Lib.hid (Below.after BD.out hb)
      have tP : t ∉ P.addrs := fun h => by have := (FD'.out.stand (.inr hP'.out)).lt hN'.out t h; omega
      have tQ : t ∉ Q.addrs := fun h => by have := (FD'.out.stand (.inr hQ'.out)).lt hN'.out t h; omega
      have inP := (FD'.out.all P hP'.out).2
      have inQ := (FD'.out.all Q hQ'.out).2
      have inO := (FD'.out.all O hO'.out).2
      obtain ⟨T, hTe⟩ : ∃ T, AT.n t y P Q = T := ⟨_, rfl⟩
      have pT : T.ptr = some t := hTe ▸ rfl
      have k1 : newC T.addrs (P.addrs ++ Q.addrs) = 1 := hTe ▸ one_new tP tQ
      have k2 : card T.addrs = 1 + card P.addrs + newC Q.addrs P.addrs := hTe ▸ all_new tP tQ
      have inT : ∀ z ∈ T.addrs, z ∈ t :: rs := fun z hz => by
        rw [← hTe] at hz
        rcases AT.mem_n.1 hz with rfl | hz | hz
        · exact List.mem_cons_self ..
        · exact List.mem_cons_of_mem _ (inP z hz)
        · exact List.mem_cons_of_mem _ (inQ z hz)
      have few : ∀ X : List Addr, (∀ z ∈ X, z ∈ t :: rs) → card X ≤ 19 := fun X hX => by
        have h1 := card_sub hX
        have h2 := card_le (t :: rs)
        rw [List.length_cons, RL.out] at h2
        have := N18.out
        omega
      have few2 : ∀ X Y : List Addr, (∀ z ∈ X, z ∈ t :: rs) → (∀ z ∈ Y, z ∈ t :: rs) → card (X ++ Y) ≤ 2000 := fun X Y hX hY => Nat.le_trans (few (X ++ Y) (fun z hz => (List.mem_append.1 hz).elim (hX z) (hY z))) (by decide)
      have iP : ∀ z ∈ P.addrs, z ∈ t :: rs := fun z hz => List.mem_cons_of_mem _ (inP z hz)
      have iQ : ∀ z ∈ Q.addrs, z ∈ t :: rs := fun z hz => List.mem_cons_of_mem _ (inQ z hz)
      have iO : ∀ z ∈ O.addrs, z ∈ t :: rs := fun z hz => List.mem_cons_of_mem _ (inO z hz)
      have sPQ : ∀ W, Stand Nd W T → Stand Nd W P ∧ Stand Nd W Q := fun W h => by rw [← hTe] at h; exact ⟨h.left hN'.out, h.right hN'.out⟩
      have k3 := new_same T.addrs O.addrs
      have bT := few T.addrs inT
      obtain ⟨ts, hts⟩ : ∃ l, topsOf O.addrs T = l := ⟨_, rfl⟩
      obtain ⟨KK, hKK⟩ : ∃ m, ts.length = m := ⟨_, rfl⟩
      have hKl : KK ≤ 19 := by have := tops_len (Nd := Nd) O.addrs T (hTe ▸ hT.lies : T.lies Nd w3 w3.heap.size); rw [hts, hKK] at this; omega
      have hcard : card (addrsOf ts) = sameC T.addrs O.addrs := by rw [← hts]; exact tops_card hN'.out (hTe ▸ hT.lies : T.lies Nd w3 w3.heap.size) O_3.out.lies
      have htin : ∀ V ∈ ts, (∃ z, V.ptr = some z ∧ z ∈ O.addrs ∧ z ∈ T.addrs) ∧ (∀ z ∈ V.addrs, z ∈ T.addrs) ∧ (∀ z ∈ V.addrs, z ∈ O.addrs) := fun V hV => by
        rw [← hts] at hV
        rcases AT.tops_in (Nd := Nd) O.addrs T [] (hTe ▸ hT.lies : T.lies Nd w3 w3.heap.size) V hV with h | ⟨h1, ⟨z, e, hz⟩, h3⟩
        · cases h
        · exact ⟨⟨z, e, hz, h3 z (AT.root_mem e)⟩, h3, AT.closed hN'.out O_3.out.lies h1 e hz⟩
      have hstd : ∀ W, Stand Nd W T → ∀ V ∈ ts, Stand Nd W V := fun W h V hV => h.top hN'.out O.addrs V (by rw [hts]; exact hV)
      obtain ⟨NP, hNP⟩ : ∃ m, card P.addrs = m := ⟨_, rfl⟩
      obtain ⟨NQ, hNQ⟩ : ∃ m, newC Q.addrs P.addrs = m := ⟨_, rfl⟩
      obtain ⟨NT, hNT⟩ : ∃ m, card T.addrs = m := ⟨_, rfl⟩
      obtain ⟨TO, hTO⟩ : ∃ m, newC T.addrs O.addrs = m := ⟨_, rfl⟩
      obtain ⟨SO, hSO⟩ : ∃ m, sameC T.addrs O.addrs = m := ⟨_, rfl⟩
      rw [hNP, hNQ, hNT] at k2
      rw [hTO, hSO, hNT] at k3
      rw [hNT] at bT
      rw [hSO] at hcard
      obtain ⟨N1, hN1⟩ : ∃ m, 1 + NP = m := ⟨_, rfl⟩
      obtain ⟨q1, q2, q3, q4⟩ := sums13 NP NQ NT TO SO N1 k2 k3 bT hN1
      have c1 : Hid (∀ W g, Stand Nd W T → LieP W W.heap.size (some ⟨g, 0, none⟩) 2 2 [P.ptr, Q.ptr] → Calls Try.prog 9 #[.pointer (some t), .slice (some ⟨g, 0, none⟩) 2 2] W fun e w' => e = .returned (.int .i64 1) ∧ Below W.heap.size W w') := fun W g h1 h3 => by
        have := hS'.out.new W T [P, Q] _ 2 2 h1 (fun V hV => by
          rcases List.mem_cons.1 hV with rfl | hV
          · exact (sPQ W h1).1
          · rw [List.mem_singleton.1 hV]; exact (sPQ W h1).2) h3 (by decide) (by rw [addrs_two]; exact few2 _ _ (fun z hz => (List.mem_append.1 hz).elim (iP z) (iQ z)) inT)
        rw [addrs_two, k1, pT] at this
        exact this
      have c2 : Hid (∀ W, Stand Nd W T → Calls Try.prog 10 #[.pointer (some t)] W fun e w' => e = .returned (nI NT) ∧ Below W.heap.size W w') := fun W h1 => by
        have := hS'.out.nodes W T h1 (hNT.symm ▸ q4)
        rw [hNT, pT] at this
        exact this
      have c3 : Hid (∀ W, Stand Nd W T → Calls Try.prog 10 #[.pointer P.ptr] W fun e w' => e = .returned (nI NP) ∧ Below W.heap.size W w') := fun W h1 => by
        have := hS'.out.nodes W P (sPQ W h1).1 (Nat.le_trans (few _ iP) (by decide))
        rw [hNP] at this
        exact this
      have c4 : Hid (∀ W g, Stand Nd W T → LieP W W.heap.size (some ⟨g, 0, none⟩) 1 1 [P.ptr] → Calls Try.prog 9 #[.pointer Q.ptr, .slice (some ⟨g, 0, none⟩) 1 1] W fun e w' => e = .returned (nI NQ) ∧ Below W.heap.size W w') := fun W g h1 h3 => by
        have := hS'.out.new W Q [P] _ 1 1 (sPQ W h1).2 (fun V hV => by rw [List.mem_singleton.1 hV]; exact (sPQ W h1).1) h3 (by decide) (by rw [addrsOf_one]; exact few2 _ _ iP iQ)
        rw [addrsOf_one, hNQ] at this
        exact this
      have c5 : Hid (∀ W g, Stand Nd W T → Stand Nd W O → LieP W W.heap.size (some ⟨g, 0, none⟩) 1 1 [O.ptr] → Calls Try.prog 9 #[.pointer (some t), .slice (some ⟨g, 0, none⟩) 1 1] W fun e w' => e = .returned (nI TO) ∧ Below W.heap.size W w') := fun W g h1 h2 h3 => by
        have := hS'.out.new W T [O] _ 1 1 h1 (fun V hV => by rw [List.mem_singleton.1 hV]; exact h2) h3 (by decide) (by rw [addrsOf_one]; exact few2 _ _ iO inT)
        rw [addrsOf_one, hTO, pT] at this
        exact this
      have c6 : Hid (∀ W, Stand Nd W T → Stand Nd W O → Calls Try.prog 8 #[.pointer (some t), .pointer O.ptr] W fun e w' => e = .returned (nI SO) ∧ Below W.heap.size W w') := fun W h1 h2 => by
        have := hS'.out.same W T O h1 h2 (few2 _ _ iO inT)
        rw [hSO, pT] at this
        exact this
      have c7 : Hid (∀ W g, Stand Nd W T → Stand Nd W O → LieP W W.heap.size (some ⟨g, 0, none⟩) 1 1 [O.ptr] → Calls Try.prog 11 #[.pointer (some t), .slice (some ⟨g, 0, none⟩) 1 1] W fun e w' => ∃ v, e = .returned v ∧ w'.ownsRow W.heap.size 25 1 v KK ((ts.map AT.ptr).map Value.pointer) ∧ Below W.heap.size W w') := fun W g h1 h2 h3 => by
        have := hS'.out.tops W T [O] _ 1 1 h1 (fun V hV => by rw [List.mem_singleton.1 hV]; exact h2) h3 (by decide) (by rw [addrsOf_one]; exact few2 _ _ iO inT)
        rw [addrsOf_one, hts, hKK, pT] at this
        exact this
      rw [hTe] at hT
      have T_3 := Lib.hid hT
      have HT := Lib.hid htin
      have HS := Lib.hid hstd
      have HK := Lib.hid hKK
      have HKL := Lib.hid hKl
      have HC := Lib.hid hcard
      have FW := Lib.hid few2
      have FT := Lib.hid few
      have IO := Lib.hid iO
      have IT := Lib.hid inT
      have PT := Lib.hid pT
      clear hT hTe pT k1 k2 k3 inT few few2 iP iQ iO sPQ bT hts hKK hKl hcard htin hstd hNP hNQ hNT hTO hSO hN1 tP tQ inP inQ inO hab hb cN FD' BD
      obtain ⟨g4, hg4⟩ : ∃ g, w3.heap.size = g := ⟨_, rfl⟩
      obtain ⟨u4, hu4⟩ : ∃ u, w3.alloc (.cells #[.pointer P.ptr, .pointer Q.ptr] 25) = u := ⟨_, rfl⟩
      have l4 : LieP u4 u4.heap.size (some ⟨g4, 0, none⟩) 2 2 [P.ptr, Q.ptr] := hg4 ▸ hu4 ▸ LieP.lit [P.ptr, Q.ptr] (Has.new w3 25 #[.pointer P.ptr, .pointer Q.ptr]) (by unfold maxLen; simp)
      have bl : Below w3.heap.size w3 u4 := hu4 ▸ (Below.refl _ _).alloc (Nat.le_refl _) _
      have HU4 := Lib.hid hu4
      have HG4 := Lib.hid hg4
      have L4 := Lib.hid l4
      have T_4 := Lib.hid (T_3.out.after hN'.out bl)
      have O_4 := Lib.hid (O_3.out.after hN'.out bl)
      have B_4 := Lib.hid (Below.after B_3.out bl)
      clear T_3 O_3 B_3
      clear bl hu4 hg4 l4
      go_wp2_with fail
      rw [HU4.out, HG4.out]
      refine (c1.out u4 g4 T_4.out L4.out).mono ?_
      rintro e w5 ⟨rfl, hb⟩
      have T_5 := Lib.hid (T_4.out.after hN'.out hb)
      have O_5 := Lib.hid (O_4.out.after hN'.out hb)
      have B_5 := Lib.hid (Below.after B_4.out hb)
      clear T_4 O_4 B_4
      clear hb
      go_wp2_with fail
      refine (c2.out w5 T_5.out).mono ?_
      rintro e w6 ⟨rfl, hb⟩
      have T_6 := Lib.hid (T_5.out.after hN'.out hb)
      have O_6 := Lib.hid (O_5.out.after hN'.out hb)
      have B_6 := Lib.hid (Below.after B_5.out hb)
      clear T_5 O_5 B_5
      clear hb
      go_wp2_with fail
      refine (c3.out w6 T_6.out).mono ?_
      rintro e w7 ⟨rfl, hb⟩
      have T_7 := Lib.hid (T_6.out.after hN'.out hb)
      have O_7 := Lib.hid (O_6.out.after hN'.out hb)
      have B_7 := Lib.hid (Below.after B_6.out hb)
      clear T_6 O_6 B_6
      clear hb
      obtain ⟨g8, hg8⟩ : ∃ g, w7.heap.size = g := ⟨_, rfl⟩
      obtain ⟨u8, hu8⟩ : ∃ u, w7.alloc (.cells #[.pointer P.ptr] 25) = u := ⟨_, rfl⟩
      have l8 : LieP u8 u8.heap.size (some ⟨g8, 0, none⟩) 1 1 [P.ptr] := hg8 ▸ hu8 ▸ LieP.lit [P.ptr] (Has.new w7 25 #[.pointer P.ptr]) (by unfold maxLen; simp)
      have bl : Below w7.heap.size w7 u8 := hu8 ▸ (Below.refl _ _).alloc (Nat.le_refl _) _
      have HU8 := Lib.hid hu8
      have HG8 := Lib.hid hg8
      have L8 := Lib.hid l8
      have T_8 := Lib.hid (T_7.out.after hN'.out bl)
      have O_8 := Lib.hid (O_7.out.after hN'.out bl)
      have B_8 := Lib.hid (Below.after B_7.out bl)
      clear T_7 O_7 B_7
      clear bl hu8 hg8 l8
      go_wp2_with fail
      rw [HU8.out, HG8.out]
      refine (c4.out u8 g8 T_8.out L8.out).mono ?_
      rintro e w9 ⟨rfl, hb⟩
      have T_9 := Lib.hid (T_8.out.after hN'.out hb)
      have O_9 := Lib.hid (O_8.out.after hN'.out hb)
      have B_9 := Lib.hid (Below.after B_8.out hb)
      clear T_8 O_8 B_8
      clear hb
      obtain ⟨g10, hg10⟩ : ∃ g, w9.heap.size = g := ⟨_, rfl⟩
      obtain ⟨u10, hu10⟩ : ∃ u, w9.alloc (.cells #[.pointer O.ptr] 25) = u := ⟨_, rfl⟩
      have l10 : LieP u10 u10.heap.size (some ⟨g10, 0, none⟩) 1 1 [O.ptr] := hg10 ▸ hu10 ▸ LieP.lit [O.ptr] (Has.new w9 25 #[.pointer O.ptr]) (by unfold maxLen; simp)
      have bl : Below w9.heap.size w9 u10 := hu10 ▸ (Below.refl _ _).alloc (Nat.le_refl _) _
      have HU10 := Lib.hid hu10
      have HG10 := Lib.hid hg10
      have L10 := Lib.hid l10
      have T_10 := Lib.hid (T_9.out.after hN'.out bl)
      have O_10 := Lib.hid (O_9.out.after hN'.out bl)
      have B_10 := Lib.hid (Below.after B_9.out bl)
      clear T_9 O_9 B_9
      clear bl hu10 hg10 l10
      go_wp2_with fail
      rw [HU10.out, HG10.out]
      refine (c5.out u10 g10 T_10.out O_10.out L10.out).mono ?_
      rintro e w11 ⟨rfl, hb⟩
      have T_11 := Lib.hid (T_10.out.after hN'.out hb)
      have O_11 := Lib.hid (O_10.out.after hN'.out hb)
      have B_11 := Lib.hid (Below.after B_10.out hb)
      clear T_10 O_10 B_10
      clear hb
      go_wp2_with fail
      refine (c6.out w11 T_11.out O_11.out).mono ?_
      rintro e w12 ⟨rfl, hb⟩
      have T_12 := Lib.hid (T_11.out.after hN'.out hb)
      have O_12 := Lib.hid (O_11.out.after hN'.out hb)
      have B_12 := Lib.hid (Below.after B_11.out hb)
      clear T_11 O_11 B_11
      clear hb
      go_wp2_with fail
      refine (c2.out w12 T_12.out).mono ?_
      rintro e w13 ⟨rfl, hb⟩
      have T_13 := Lib.hid (T_12.out.after hN'.out hb)
      have O_13 := Lib.hid (O_12.out.after hN'.out hb)
      have B_13 := Lib.hid (Below.after B_12.out hb)
      clear T_12 O_12 B_12
      clear hb
      obtain ⟨g14, hg14⟩ : ∃ g, w13.heap.size = g := ⟨_, rfl⟩
      obtain ⟨u14, hu14⟩ : ∃ u, w13.alloc (.cells #[.pointer O.ptr] 25) = u := ⟨_, rfl⟩
      have l14 : LieP u14 u14.heap.size (some ⟨g14, 0, none⟩) 1 1 [O.ptr] := hg14 ▸ hu14 ▸ LieP.lit [O.ptr] (Has.new w13 25 #[.pointer O.ptr]) (by unfold maxLen; simp)
      have bl : Below w13.heap.size w13 u14 := hu14 ▸ (Below.refl _ _).alloc (Nat.le_refl _) _
      have HU14 := Lib.hid hu14
      have HG14 := Lib.hid hg14
      have L14 := Lib.hid l14
      have T_14 := Lib.hid (T_13.out.after hN'.out bl)
      have O_14 := Lib.hid (O_13.out.after hN'.out bl)
      have B_14 := Lib.hid (Below.after B_13.out bl)
      clear T_13 O_13 B_13
      clear bl hu14 hg14 l14
      go_wp2_with fail
      rw [HU14.out, HG14.out]
      refine (c7.out u14 g14 T_14.out O_14.out L14.out).mono ?_
      rintro e w15 ⟨vt, rfl, hR, hb⟩
      have T_15 := Lib.hid (T_14.out.after hN'.out hb)
      have O_15 := Lib.hid (O_14.out.after hN'.out hb)
      have B_15 := Lib.hid (Below.after B_14.out hb)
      clear T_14 O_14 B_14
      have R_15 := Lib.hid hR
      clear hR
      clear hb
      have hR0 := R_15.out
      obtain ⟨At, ct, rfl, -, -, -⟩ := own_slice hR0
      obtain ⟨bs, hbs⟩ : ∃ b, w15.ownsRow b 25 1 (.slice At KK ct) KK ((ts.map AT.ptr).map Value.pointer) := ⟨_, hR0⟩
      have RB := Lib.hid hbs
      clear hR0 hbs c1 c2 c3 c4 c5 c7 q1 q2 q3
      go_wp2_with fail
      go_loopw [15, 16] (fun s i wr => ∃ j : Nat, j ≤ KK ∧ i = .int .i64 j ∧ s = nI (card (addrsOf (ts.take j))) ∧ Stand Nd wr T ∧ Stand Nd wr O ∧ wr.ownsRow bs 25 1 (.slice At KK ct) KK ((ts.map AT.ptr).map Value.pointer) ∧ Below w.heap.size w wr) (fun _ i _ => KK - (intOf i).toNat)
      case atStart => exact ⟨0, Nat.zero_le _, rfl, by simp [addrsOf, card], T_15.out, O_15.out, RB.out, B_15.out⟩
      case round =>
        obtain ⟨j, hj, rfl, rfl, hT, hO, hR, hbw⟩ := hrel
        have T_r := Lib.hid hT
        have O_r := Lib.hid hO
        have R_r := Lib.hid hR
        have B_r := Lib.hid hbw
        have kl := HKL.out
        by_cases hlt : j < KK
        · have hjl : j < ts.length := by rw [HK.out]; exact hlt
          obtain ⟨V, hV⟩ : ∃ V, ts[j] = V := ⟨_, rfl⟩
          have mV : V ∈ ts := hV ▸ List.getElem_mem _
          have gj : ((ts.map AT.ptr).map Value.pointer)[j]? = some (.pointer V.ptr) := by rw [List.getElem?_map, List.getElem?_map, List.getElem?_eq_getElem hjl, hV]; rfl
          obtain ⟨adt, rfl, -, y0⟩ := (Row.of_own hR) j _ gj
          have hcell : Hid (∀ (W : World) (b : Nat), W.ownsRow b 25 1 (.slice (some adt) KK ct) KK ((ts.map AT.ptr).map Value.pointer) → W.cell? (adt.add j) = some (.pointer V.ptr)) := fun W b h => by
            obtain ⟨ad, e, _, hc⟩ := (Row.of_own h) j _ gj
            cases e
            exact hc
          obtain ⟨⟨z, hz, hzO, hzT⟩, hVT, hVO⟩ := HT.out V mV
          have iV : ∀ x ∈ V.addrs, x ∈ t :: rs := fun x hx => IT.out x (hVT x hx)
          have iS : ∀ x ∈ addrsOf (ts.take j), x ∈ t :: rs := fun x hx => by
            obtain ⟨U, hU, hxU⟩ := List.mem_flatMap.1 hx
            exact IT.out x ((HT.out U (List.mem_of_mem_take hU)).2.1 x hxU)
          have d1 : Hid (∀ W, Stand Nd W T → Stand Nd W O → Calls Try.prog 16 #[.pointer O.ptr, .pointer V.ptr] W fun e w' => e = .returned (.bool true) ∧ Below W.heap.size W w') := fun W h1 h2 => by
            have := hS'.out.isIn W O V h2 (HS.out W h1 V mV) (Nat.le_trans (FT.out _ IO.out) (by decide))
            rw [hz] at this ⊢
            simpa [inB, hzO] using this
          have d2 : Hid (∀ W, Stand Nd W T → Calls Try.prog 16 #[.pointer (some t), .pointer V.ptr] W fun e w' => e = .returned (.bool true) ∧ Below W.heap.size W w') := fun W h1 => by
            have := hS'.out.isIn W T V h1 (HS.out W h1 V mV) (Nat.le_trans (FT.out _ IT.out) (by decide))
            rw [PT.out] at this
            rw [hz] at this ⊢
            simpa [inB, hzT] using this
          have d3 : Hid (∀ W g, Stand Nd W T → Stand Nd W O → LieP W W.heap.size (some ⟨g, 0, none⟩) 1 1 [O.ptr] → Calls Try.prog 9 #[.pointer V.ptr, .slice (some ⟨g, 0, none⟩) 1 1] W fun e w' => e = .returned (.int .i64 0) ∧ Below W.heap.size W w') := fun W g h1 h2 h3 => by
            have := hS'.out.new W V [O] _ 1 1 (HS.out W h1 V mV) (fun U hU => by rw [List.mem_singleton.1 hU]; exact h2) h3 (by decide) (by rw [addrsOf_one]; exact FW.out _ _ IO.out iV)
            rw [addrsOf_one, new_all hVO] at this
            exact this
          obtain ⟨m0, hm0⟩ : ∃ m, card (addrsOf (ts.take j)) = m := ⟨_, rfl⟩
          obtain ⟨m1, hm1⟩ : ∃ m, newC V.addrs (addrsOf (ts.take j)) = m := ⟨_, rfl⟩
          have hm2 : card (addrsOf (ts.take (j + 1))) = m0 + m1 := by
            rw [List.take_add_one, List.getElem?_eq_getElem hjl, hV]
            rw [show addrsOf (ts.take j ++ (some V).toList) = addrsOf (ts.take j) ++ V.addrs by simp [addrsOf], card_append, hm0, hm1]
          have b0 : m0 ≤ 19 := hm0 ▸ FT.out _ iS
          have b1 : m1 ≤ 19 := by have := new_le V.addrs (addrsOf (ts.take j)); have := FT.out _ iV; omega
          have d4' : Hid (∀ W : World, Stand Nd W T → W.ownsRow bs 25 1 (.slice (some adt) KK ct) KK ((ts.map AT.ptr).map Value.pointer) → Calls Try.prog 9 #[.pointer V.ptr, .slice (some adt) j ct] W fun e w' => e = .returned (nI m1) ∧ Below W.heap.size W w') := fun W h1 h2 => by
            obtain ⟨A', c', e', lie⟩ := LieP.of_own h2
            cases e'
            have := hS'.out.new W V (ts.take j) _ j ct (HS.out W h1 V mV) (fun U hU => HS.out W h1 U (List.mem_of_mem_take hU)) (by rw [List.map_take]; exact lie.take j (by omega)) (by omega) (FW.out _ _ iS iV)
            rw [hm1] at this
            exact this
          have cc : KK ≤ ct := by obtain ⟨A', c', e', h1, _, _⟩ := own_slice hR; cases e'; exact h1
          have ctq : ∀ W, (Instr.slice 30 (.slice (some adt) KK ct) none (some (.int .i64 (j : Int))) none).run Try.prog W = .ok (.slice (some adt) j ct) W := cut_to Try.underlying30 size_ptr13 (some adt) KK ct j _ rfl (by omega)
          have w2 := sum13 m0 m1 b0 b1
          have HM2 := Lib.hid hm2
          rw [hm0]
          clear hT hO hR hbw hjl hV mV gj hz hzO hzT hVT hVO iV iS hm0 hm1 hm2 cc
          go_wp2_with fail
          go_wp2_with fail
          refine (d1.out wr T_r.out O_r.out).mono ?_
          rintro e w40 ⟨rfl, hb⟩
          have T_40 := Lib.hid (T_r.out.after hN'.out hb)
          have O_40 := Lib.hid (O_r.out.after hN'.out hb)
          have R_40 := Lib.hid (owned_next R_r.out hb)
          have B_40 := Lib.hid (Below.after B_r.out hb)
          clear T_r O_r R_r B_r
          clear hb
          have y0 : w40.cell? (adt.add j) = some (.pointer V.ptr) := (hcell.out w40 _ R_40.out)
          go_wp2_with fail
          refine (d2.out w40 T_40.out).mono ?_
          rintro e w41 ⟨rfl, hb⟩
          have T_41 := Lib.hid (T_40.out.after hN'.out hb)
          have O_41 := Lib.hid (O_40.out.after hN'.out hb)
          have R_41 := Lib.hid (owned_next R_40.out hb)
          have B_41 := Lib.hid (Below.after B_40.out hb)
          clear T_40 O_40 R_40 B_40
          clear hb
          clear y0
          have y0 : w41.cell? (adt.add j) = some (.pointer V.ptr) := (hcell.out w41 _ R_41.out)
          obtain ⟨g42, hg42⟩ : ∃ g, w41.heap.size = g := ⟨_, rfl⟩
          obtain ⟨u42, hu42⟩ : ∃ u, w41.alloc (.cells #[.pointer O.ptr] 25) = u := ⟨_, rfl⟩
          have l42 : LieP u42 u42.heap.size (some ⟨g42, 0, none⟩) 1 1 [O.ptr] := hg42 ▸ hu42 ▸ LieP.lit [O.ptr] (Has.new w41 25 #[.pointer O.ptr]) (by unfold maxLen; simp)
          have bl : Below w41.heap.size w41 u42 := hu42 ▸ (Below.refl _ _).alloc (Nat.le_refl _) _
          have HU42 := Lib.hid hu42
          have HG42 := Lib.hid hg42
          have L42 := Lib.hid l42
          have T_42 := Lib.hid (T_41.out.after hN'.out bl)
          have O_42 := Lib.hid (O_41.out.after hN'.out bl)
          have R_42 := Lib.hid (owned_next R_41.out bl)
          have B_42 := Lib.hid (Below.after B_41.out bl)
          clear T_41 O_41 R_41 B_41
          clear bl hu42 hg42 l42
          go_wp2_with fail
          rw [HU42.out, HG42.out]
          refine (d3.out u42 g42 T_42.out O_42.out L42.out).mono ?_
          rintro e w43 ⟨rfl, hb⟩
          have T_43 := Lib.hid (T_42.out.after hN'.out hb)
          have O_43 := Lib.hid (O_42.out.after hN'.out hb)
          have R_43 := Lib.hid (owned_next R_42.out hb)
          have B_43 := Lib.hid (Below.after B_42.out hb)
          clear T_42 O_42 R_42 B_42
          clear hb
          clear y0
          have y0 : w43.cell? (adt.add j) = some (.pointer V.ptr) := (hcell.out w43 _ R_43.out)
          go_wp2_with fail
          have d4 : Hid (Calls Try.prog 9 #[.pointer V.ptr, .slice (some adt) j ct] w43.drew fun e w' => e = .returned (nI m1) ∧ Below w43.heap.size w43.drew w') := d4'.out w43.drew (T_43.out.after hN'.out (Below.refl _ _).drew) (owned_next R_43.out (Below.refl _ _).drew)
          refine wp_region_held_drew (S := fun u => u.cell? (adt.add j) = some (.pointer V.ptr)) (by kernel_rfl) y0 (fun hS => ?_)
          refine wpAnyH_take (i := 0) (oi := ?dqr2q0) (v := ?dvr2q0) ?hir2q0 (by kernel_rfl) (by kernel_rfl) (by kernel_rfl) ?hQr2q0 (Or.inl ⟨?hwr2q0, ?hyr2q0⟩) hS ?hrr2q0
          case hir2q0 => simp only [List.getElem?_toArray, List.getElem?_cons_zero]; rfl
          case hQr2q0 => exact fun _ _ _ h => h
          case hwr2q0 => rfl
          case hyr2q0 => (intro w hSw; (try dsimp only at hSw); go_simp; (try with_reducible rfl))
          simp only [Act.put, List.setIfInBounds_toArray, List.set_cons_zero, List.set_cons_succ]
          refine wpAnyH_take (i := 1) (oi := ?dqr2q1) (v := ?dvr2q1) ?hir2q1 (by kernel_rfl) (by kernel_rfl) (by kernel_rfl) ?hQr2q1 (Or.inl ⟨?hwr2q1, ?hyr2q1⟩) hS ?hrr2q1
          case hir2q1 => simp only [List.getElem?_toArray, List.getElem?_cons_succ, List.getElem?_cons_zero]; rfl
          case hQr2q1 => exact fun _ _ _ h => h
          case hwr2q1 => rfl
          case hyr2q1 => (intro w hSw; (try dsimp only at hSw); go_simp; (try with_reducible rfl))
          simp only [Act.put, List.setIfInBounds_toArray, List.set_cons_zero, List.set_cons_succ]
          refine wpAnyH_take (i := 2) (oi := ?dqr2q2) (v := ?dvr2q2) ?hir2q2 (by kernel_rfl) (by kernel_rfl) (by kernel_rfl) ?hQr2q2 (Or.inl ⟨?hwr2q2, ?hyr2q2⟩) hS ?hrr2q2
          case hir2q2 => simp only [List.getElem?_toArray, List.getElem?_cons_succ, List.getElem?_cons_zero]; rfl
          case hQr2q2 => exact fun _ _ _ h => h
          case hwr2q2 => rfl
          case hyr2q2 => (intro w hSw; (try dsimp only at hSw); go_simp; (try with_reducible rfl))
          simp only [Act.put, List.setIfInBounds_toArray, List.set_cons_zero, List.set_cons_succ]
          refine wpAnyH_take (i := 3) (oi := ?dqr2q3) (v := ?dvr2q3) ?hir2q3 (by kernel_rfl) (by kernel_rfl) (by kernel_rfl) ?hQr2q3 (Or.inl ⟨?hwr2q3, ?hyr2q3⟩) hS ?hrr2q3
          case hir2q3 => simp only [List.getElem?_toArray, List.getElem?_cons_succ, List.getElem?_cons_zero]; rfl
          case hQr2q3 => exact fun _ _ _ h => h
          case hwr2q3 => rfl
          case hyr2q3 => (intro w hSw; (try dsimp only at hSw); go_simp; (try with_reducible rfl))
          simp only [Act.put, List.setIfInBounds_toArray, List.set_cons_zero, List.set_cons_succ]
          refine wpAnyH_take (i := 4) (oi := ?dqr2q4) (v := ?dvr2q4) ?hir2q4 (by kernel_rfl) (by kernel_rfl) (by kernel_rfl) ?hQr2q4 (Or.inl ⟨?hwr2q4, ?hyr2q4⟩) hS ?hrr2q4
          case hir2q4 => simp only [List.getElem?_toArray, List.getElem?_cons_succ, List.getElem?_cons_zero]; rfl
          case hQr2q4 => exact fun _ _ _ h => h
          case hwr2q4 => rfl
          case hyr2q4 => (intro w hSw; (try dsimp only at hSw); go_simp; (try with_reducible rfl))
          simp only [Act.put, List.setIfInBounds_toArray, List.set_cons_zero, List.set_cons_succ]
          refine wpAnyH_take (i := 5) (oi := ?dqr2q5) (v := ?dvr2q5) ?hir2q5 (by kernel_rfl) (by kernel_rfl) (by kernel_rfl) ?hQr2q5 (Or.inl ⟨?hwr2q5, ?hyr2q5⟩) hS ?hrr2q5
          case hir2q5 => simp only [List.getElem?_toArray, List.getElem?_cons_succ, List.getElem?_cons_zero]; rfl
          case hQr2q5 => exact fun _ _ _ h => h
          case hwr2q5 => rfl
          case hyr2q5 => (intro w hSw; (try dsimp only at hSw); go_simp; (try with_reducible rfl))
          simp only [Act.put, List.setIfInBounds_toArray, List.set_cons_zero, List.set_cons_succ]
          refine wpAnyH_take (i := 6) (oi := ?dqr2q6) (v := ?dvr2q6) ?hir2q6 (by kernel_rfl) (by kernel_rfl) (by kernel_rfl) ?hQr2q6 (Or.inl ⟨?hwr2q6, ?hyr2q6⟩) hS ?hrr2q6
          case hir2q6 => simp only [List.getElem?_toArray, List.getElem?_cons_succ, List.getElem?_cons_zero]; rfl
          case hQr2q6 => exact fun _ _ _ h => h
          case hwr2q6 => rfl
          case hyr2q6 => (intro w hSw; (try dsimp only at hSw); go_simp; (try with_reducible rfl))
          simp only [Act.put, List.setIfInBounds_toArray, List.set_cons_zero, List.set_cons_succ]
          refine wpAnyH_take (i := 7) (oi := ?dqr2q7) (v := ?dvr2q7) ?hir2q7 (by kernel_rfl) (by kernel_rfl) (by kernel_rfl) ?hQr2q7 (Or.inl ⟨?hwr2q7, ?hyr2q7⟩) hS ?hrr2q7
          case hir2q7 => simp only [List.getElem?_toArray, List.getElem?_cons_succ, List.getElem?_cons_zero]; rfl
          case hQr2q7 => exact fun _ _ _ h => h
          case hwr2q7 => rfl
          case hyr2q7 => (intro w hSw; (try dsimp only at hSw); go_simp; (try with_reducible rfl))
          simp only [Act.put, List.setIfInBounds_toArray, List.set_cons_zero, List.set_cons_succ]
          refine wpAnyH_ready (rs := [8]) (by kernel_rfl) (by simp) ?_
          refine AllReadyH.cons (o := ?dqr2q8) ?hir2q8 (fun K hK => ?_) AllReadyH.nil
          case hir2q8 => simp only [List.getElem?_toArray, List.getElem?_cons_succ, List.getElem?_cons_zero]; rfl
          go_simp
          go_at_call 9
          refine d4.out.mono ?_
          rintro e w9 ⟨rfl, hb⟩
          have B9 := Lib.hid hb
          have hS2 := keep_cell hb hS
          clear hS
          refine hK.out _ _ hS2 (fun hS => ?_)
          clear hS2 hK K
          try simp only [Act.put, List.setIfInBounds_toArray, List.set_cons_zero, List.set_cons_succ]
          refine wpAnyH_take (i := 9) (oi := ?dqr2q9) (v := ?dvr2q9) ?hir2q9 (by kernel_rfl) (by kernel_rfl) (by kernel_rfl) ?hQr2q9 (Or.inl ⟨?hwr2q9, ?hyr2q9⟩) hS ?hrr2q9
          case hir2q9 => simp only [List.getElem?_toArray, List.getElem?_cons_succ, List.getElem?_cons_zero]; rfl
          case hQr2q9 => exact fun _ _ _ h => h
          case hwr2q9 => rfl
          case hyr2q9 => (intro w hSw; (try dsimp only at hSw); go_simp; (try with_reducible rfl))
          simp only [Act.put, List.setIfInBounds_toArray, List.set_cons_zero, List.set_cons_succ]
          refine wpAnyH_take (i := 10) (oi := ?dqr2q10) (v := ?dvr2q10) ?hir2q10 (by kernel_rfl) (by kernel_rfl) (by kernel_rfl) ?hQr2q10 (Or.inl ⟨?hwr2q10, ?hyr2q10⟩) hS ?hrr2q10
          case hir2q10 => simp only [List.getElem?_toArray, List.getElem?_cons_succ, List.getElem?_cons_zero]; rfl
          case hQr2q10 => exact fun _ _ _ h => h
          case hwr2q10 => rfl
          case hyr2q10 => (intro w hSw; (try dsimp only at hSw); go_simp; (try with_reducible rfl))
          simp only [Act.put, List.setIfInBounds_toArray, List.set_cons_zero, List.set_cons_succ]
          refine wpAnyH_done (by kernel_rfl) ?_ _
          have bq : Below w43.heap.size w43 w9 := Below.after (Below.refl w43.heap.size w43).drew B9.out
          have T9 := Lib.hid (T_43.out.after hN'.out bq)
          have O9 := Lib.hid (O_43.out.after hN'.out bq)
          have R9 := Lib.hid (owned_next R_43.out bq)
          have BQ := Lib.hid (Below.after B_43.out bq)
          clear bq hS y0
          go_wp2_with fail
          go_roundw
          case rel => exact ⟨j + 1, hlt, by simp, by rw [HM2.out, show ((m0 : Int) + (m1 : Int)) = ((m0 + m1 : Nat) : Int) by push_cast; rfl], T9.out, O9.out, R9.out, BQ.out⟩
          case measure => simp [intOf]; omega
        · obtain rfl : j = KK := by omega
          have hfull : card (addrsOf (ts.take j)) = SO := by rw [List.take_of_length_le (by rw [HK.out]; exact Nat.le_refl _)]; exact HC.out
          rw [hfull]
          clear hT hO hR hbw hfull
          go_wp2_with fail
          refine (c6.out wr T_r.out O_r.out).mono ?_
          rintro e w8 ⟨rfl, hb⟩
          have B8 := Lib.hid (Below.after B_r.out hb)
          clear hb
          go_wp2_with fail
          refine (c9.out w8).mono ?_
          rintro e w9 ⟨rfl, hb⟩
          have B9 := Lib.hid (Below.after B8.out hb)
          clear hb
          go_wp2_with fail
          go_ret
          exact ⟨rfl, B9.out⟩
end Go.Proofs.Ythhhkcjggfdagaa
