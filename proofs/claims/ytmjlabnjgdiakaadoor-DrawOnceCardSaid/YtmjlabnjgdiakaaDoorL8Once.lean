/- Layer 8: the law DrawOnce, walked. -/
import Derived.Test.YtmjlabnjgdiakaaDoorL8Two
import Derived.Test.YtmjlabnjgdiakaaDoorGHeld
namespace Go.Proofs.YtmjlabnjgdiakaaDoor
open Go.RowKit Go.Proofs.Mixm
set_option maxRecDepth 100000
variable {Dr : DrP}

/-- draws that live behind the base w -/
def One (Dr : DrP) (w : World) (a : Addr) (ld : List (BitVec 64)) (W : World) : Prop := ∃ S, Dr W S a ld ∧ (∀ i, S i → w.heap.size ≤ i) ∧ Below w.heap.size w W
theorem One.bel {w W : World} {a : Addr} {ld : List (BitVec 64)} (h : One Dr w a ld W) : Below w.heap.size w W := by
  obtain ⟨_, _, _, h⟩ := h; exact h
theorem One.next (hD : DrawSays Dr) {w W W' : World} {a : Addr} {ld : List (BitVec 64)} (h : One Dr w a ld W) (hb : Below W.heap.size W W') : One Dr w a ld W' := by
  obtain ⟨S, hd, hS, hB⟩ := h
  exact ⟨S, hD.keep hd (fun i hi => hb.block i (hD.lt hd i hi)), hS, Below.after hB hb⟩
theorem one_d (hD : DrawSays Dr) {w W : World} {a : Addr} {ld : List (BitVec 64)} (k : BitVec 64) (h0 : 0 < w.heap.size) (hs : Steps w) (hl : ld.length ≤ 3000) (h : One Dr w a ld W) :
    Calls Tryd.prog 9 #[.pointer (some a), K k] W fun e w' => e = .returned (V (Drawm.out k ld)) ∧ One Dr w a ld.tail w' := by
  obtain ⟨S, hd, hS, hB⟩ := h
  have hBW := hB.size
  refine (hD.next W S a k ld (Nat.lt_of_lt_of_le h0 hBW) (steps_at h0 hs hB) (fun e => absurd (hS _ e) (by omega)) hl hd).mono ?_
  rintro e w' ⟨S', he, hS', hd', hbut⟩
  exact ⟨he, S', hd', fun i hi => (hS' i hi).elim (hS i) (fun h => Nat.le_trans hBW h), hB.trans (hbut.below hBW hS)⟩
theorem one_left (hD : DrawSays Dr) {w W : World} {a : Addr} {ld : List (BitVec 64)} (hl : ld.length ≤ 3000) (h : One Dr w a ld W) :
    Calls Tryd.prog 11 #[.pointer (some a)] W fun e w' => e = .returned (.int .i64 (ld.length : Int)) ∧ One Dr w a ld w' := by
  have h' := h
  obtain ⟨S, hd, hS, hB⟩ := h
  refine (hD.left W S a ld hl hd).mono ?_
  rintro e w' ⟨he, h2⟩
  exact ⟨he, h'.next hD h2⟩
/-- a row of the call's own, as far as it may be written -/
theorem mine_of {w w1 : World} {n c : Nat} {A : Option Addr} {t : TypeId} {xs : List Value} (h : w1.ownsRow w.heap.size t 1 (.slice A n c) n xs) :
    ∃ g, (n ≠ 0 → A = some ⟨g, 0, none⟩ ∧ w.heap.size ≤ g ∧ g < w1.heap.size ∧ ∃ cur, Has w1 g t cur ∧ n ≤ cur.size) := by
  obtain ⟨h1, h2⟩ := h
  rcases h2 with ⟨_, e⟩ | ⟨g, cap, cur, e, hg, hh, hc, hm, hs, _⟩
  · exact ⟨0, fun k => absurd e k⟩
  · cases e
    exact ⟨g, fun _ => ⟨rfl, hg, lt_of_block hh, cur, hh, by omega⟩⟩
set_option maxHeartbeats 2000000 in
theorem drawOnce_many1 (hD : DrawSays Dr) (A B : Option Addr) (n c m d : Nat) (x : BitVec 64) (hn : 200 < n) (w : World) (h0 : 0 < w.heap.size) (hs : Steps w) :
    Calls Tryd.prog 4 #[.slice A n c, .slice B m d, V x] w fun e w' => e = .returned (.bool true) ∧ Below w.heap.size w w' := by
  have hA := Lib.hid (alive8_any hD w h0 hs)
  have d1 : decide ((200 : Int) < (n : Int)) = true := decide_eq_true (by omega)
  have d2 : (200 : Int) < (n : Int) := by omega
  clear hs hD
  go_enter Tryd.func4, Tryd.ntmps4
  go_wp2_with (go_at_call 5; (with_reducible refine hA.out.mono ?_); rintro e w' ⟨rfl, hb⟩; have b1 := Lib.hid hb; clear hb)
  go_ret
  exact ⟨rfl, b1.out⟩
set_option maxHeartbeats 2000000 in
theorem drawOnce_many2 (hD : DrawSays Dr) (A B : Option Addr) (n c m d : Nat) (x : BitVec 64) (hn : n ≤ 200) (hm : 200 < m) (w : World) (h0 : 0 < w.heap.size) (hs : Steps w) :
    Calls Tryd.prog 4 #[.slice A n c, .slice B m d, V x] w fun e w' => e = .returned (.bool true) ∧ Below w.heap.size w w' := by
  have hA := Lib.hid (alive8_any hD w h0 hs)
  have d1 : decide ((200 : Int) < (n : Int)) = false := decide_eq_false (by omega)
  have d2 : ¬ (200 : Int) < (n : Int) := by omega
  have d3 : decide ((200 : Int) < (m : Int)) = true := decide_eq_true (by omega)
  have d4 : (200 : Int) < (m : Int) := by omega
  clear hs hD
  go_enter Tryd.func4, Tryd.ntmps4
  go_wp2_with (go_at_call 5; (with_reducible refine hA.out.mono ?_); rintro e w' ⟨rfl, hb⟩; have b1 := Lib.hid hb; clear hb)
  go_ret
  exact ⟨rfl, b1.out⟩
set_option maxHeartbeats 2000000 in
theorem drawOnce_many3 (hD : DrawSays Dr) (A B : Option Addr) (n c d : Nat) (x : BitVec 64) (hn : n ≤ 200) (w : World) (h0 : 0 < w.heap.size) (hs : Steps w) :
    Calls Tryd.prog 4 #[.slice A n c, .slice B 0 d, V x] w fun e w' => e = .returned (.bool true) ∧ Below w.heap.size w w' := by
  have hA := Lib.hid (alive8_any hD w h0 hs)
  have d1 : decide ((200 : Int) < (n : Int)) = false := decide_eq_false (by omega)
  have d2 : ¬ (200 : Int) < (n : Int) := by omega
  clear hs hD
  go_enter Tryd.func4, Tryd.ntmps4
  go_wp2_with (go_at_call 5; (with_reducible refine hA.out.mono ?_); rintro e w' ⟨rfl, hb⟩; have b1 := Lib.hid hb; clear hb)
  go_ret
  exact ⟨rfl, b1.out⟩

set_option maxHeartbeats 16000000 in
theorem drawOnce_few (hD : DrawSays Dr) (A B : Option Addr) (n c m d : Nat) (l ks : List (BitVec 64)) (x : BitVec 64) (hn : n ≤ 200) (hm : m ≤ 200) (hm0 : m ≠ 0) (w : World) (h0 : 0 < w.heap.size) (hs : Steps w) (hA : LieU w w.heap.size A n c (l.map V)) (hB : LieU w w.heap.size B m d (ks.map K)) :
    Calls Tryd.prog 4 #[.slice A n c, .slice B m d, V x] w fun e w' => e = .returned (.bool true) ∧ Below w.heap.size w w' := by
  have d1 : decide ((200 : Int) < (n : Int)) = false := decide_eq_false (by omega)
  have d2 : ¬ (200 : Int) < (n : Int) := by omega
  have d3 : decide ((200 : Int) < (m : Int)) = false := decide_eq_false (by omega)
  have d4 : ¬ (200 : Int) < (m : Int) := by omega
  have d5 : ((m : Int) == 0) = false := by simp; omega
  have d6 : ¬ ((m : Int) = 0) := by omega
  have d7 : decide ((m : Int) = 0) = false := decide_eq_false (by omega)
  have hln : Hid (l.length = n) := by have := hA.len; rwa [List.length_map] at this
  have hlm : Hid (ks.length = m) := by have := hB.len; rwa [List.length_map] at this
  have l3 : ∀ k, (l.drop k).length ≤ 3000 := fun k => by have := hln.out; rw [List.length_drop]; omega
  have hD' := Lib.hid hD
  have hs' := Lib.hid hs
  have hA' := Lib.hid hA
  have hB' := Lib.hid hB
  have l3' := Lib.hid l3
  clear hD hs hA hB l3
  go_enter Tryd.func4, Tryd.ntmps4
  go_wp2_with fail
  refine (own8_any A n c _ l w hA'.out).mono ?_
  rintro e w1 ⟨v1, rfl, ho1, hb⟩
  obtain ⟨A1, c1, rfl, _, _, _⟩ := own_slice ho1
  have b1 := Lib.hid hb
  have u1 := Lib.hid (lieu_own hln.out (by omega) ho1)
  obtain ⟨g, hg⟩ := mine_of ho1
  have g1 := Lib.hid hg
  clear ho1 hb hg
  go_wp2_with fail
  refine (hD'.out.new w1 A1 n c1 l u1.out).mono ?_
  rintro e w2 ⟨a, S, rfl, hS, _, hd, hb⟩
  have S2 := Lib.hid hS
  have d2' := Lib.hid hd
  have b2 := Lib.hid (Below.after b1.out hb)
  have m2 : Hid (n ≠ 0 → ∃ cur, Has w2 g 30 cur ∧ n ≤ cur.size) := fun h => by
    obtain ⟨_, _, _, cur, hh, hc⟩ := g1.out h
    exact ⟨cur, hh.next hb, hc⟩
  have z1 : w.heap.size ≤ w1.heap.size := b1.out.size
  clear hS hd hb u1 b1
  go_wp2
  go_loopw [9] (fun i wr => ∃ k : Nat, k ≤ n ∧ i = .int .i64 k ∧ Dr wr S a l ∧ (n ≠ 0 → ∃ cur, Has wr g 30 cur ∧ n ≤ cur.size) ∧ Below w.heap.size w wr) (fun i _ => n - (intOf i).toNat)
  case atStart => exact ⟨0, Nat.zero_le _, rfl, d2'.out, m2.out, b2.out⟩
  case round =>
    obtain ⟨k, hk, rfl, hd, hh, hb⟩ := hrel
    have t0 := Lib.hid hd
    have b0 := Lib.hid hb
    by_cases hlt : k < n
    · obtain ⟨cur, hcur, hcn⟩ := hh (by omega)
      obtain ⟨e1, hgw, hg1, _⟩ := g1.out (by omega)
      have g0 := Lib.hid hcur
      clear hd hb hh hcur m2 d2' b2
      have ck : Hid (k < cur.size) := Nat.lt_of_lt_of_le hlt hcn
      have c0 : wr.cell? ⟨g, k, none⟩ = some (cur[k]'ck.out) := by rw [g0.out.cell k]; exact Array.getElem?_eq_getElem ck.out
      have f0 := g0.out.free k
      have kn : (k : Int) < (n : Int) := by omega
      have hS' : Hid (∀ i, S i → i ≠ g) := fun i hi e => by have := S2.out i hi; omega
      have gN : Hid (∃ cur', Has (wr.setCell ⟨g, k, none⟩ (V x)) g 30 cur' ∧ n ≤ cur'.size) := ⟨_, g0.out.set k (V x), by simpa using hcn⟩
      have tN : Hid (Dr (wr.setCell ⟨g, k, none⟩ (V x)) S a l) := hD'.out.keep t0.out (fun i hi => Below.heap_setCell wr ⟨g, k, none⟩ _ i (hS'.out i hi))
      have bN : Hid (Below w.heap.size w (wr.setCell ⟨g, k, none⟩ (V x))) := b0.out.setCell (p := ⟨g, k, none⟩) hgw (V x)
      clear t0 b0 hcn hgw hg1
      subst e1
      go_wp2
      go_roundw
      case rel => exact ⟨k + 1, by omega, by go_num, tN.out, fun _ => gN.out, bN.out⟩
      case measure => simp [intOf]; omega
    · have t3 : Hid (One Dr w a (l.drop 0) wr) := ⟨S, hd, fun i hi => by have := S2.out i hi; omega, hb⟩
      clear hd hb hh t0 b0 S2 d2' b2 m2 g1
      go_wp2
      go_loopw [10] (fun i wl => ∃ q : Nat, q ≤ n ∧ i = .int .i64 q ∧ One Dr w a (l.drop q) wl) (fun i _ => n - (intOf i).toNat)
      case atStart => exact ⟨0, Nat.zero_le _, rfl, t3.out⟩
      case round =>
        obtain ⟨q, hq, rfl, ht⟩ := hrel
        have t0 := Lib.hid ht
        clear ht t3
        by_cases hlt2 : q < n
        · have hql : q < l.length := by rw [hln.out]; exact hlt2
          obtain ⟨j, hj⟩ : ∃ j, q % m = j := ⟨_, rfl⟩
          have jm : j < m := by rw [← hj]; exact Nat.mod_lt _ (by omega)
          have r2 : (q : Int) % (m : Int) = (j : Int) := by rw [← hj]; simp
          have r1 : (q : Int).tmod (m : Int) = (j : Int) := by rw [Int.tmod_eq_emod_of_nonneg (by omega)]; exact r2
          have hjk : j < ks.length := by rw [hlm.out]; exact jm
          obtain ⟨ad, rfl, had, hcell⟩ := hB'.out.row j (K ks[j]) (by rw [List.getElem?_map, List.getElem?_eq_getElem hjk]; rfl)
          obtain ⟨al, rfl, hal, hcell2⟩ := hA'.out.row q (V l[q]) (by rw [List.getElem?_map, List.getElem?_eq_getElem hql]; rfl)
          obtain ⟨y, hy⟩ : ∃ y, ks[j] = y := ⟨_, rfl⟩
          obtain ⟨z, hz⟩ : ∃ z, l[q] = z := ⟨_, rfl⟩
          have ho : Drawm.out y (l.drop q) = z := by rw [Drawm.out_at _ _ _ hql, hz]
          rw [hy] at hcell
          rw [hz] at hcell2
          have hcK := Lib.hid hcell
          have hcL := Lib.hid hcell2
          obtain ⟨p, hp⟩ : ∃ p, n - q = p := ⟨_, rfl⟩
          have lp : (l.drop q).length = p := by rw [List.length_drop, hln.out, hp]
          have e1 : (n : Int) - (q : Int) = (p : Int) := by omega
          have e2 : IntKind.i64.wrap ((n : Int) - (q : Int)) = (p : Int) := by rw [e1]; exact IntWalk.i64_in _ ⟨by omega, by omega⟩
          have e3 : IntKind.i64.wrap (p : Int) = (p : Int) := IntWalk.i64_in _ ⟨by omega, by omega⟩
          have e4 : IntKind.i64.wrap (j : Int) = (j : Int) := IntWalk.i64_in _ ⟨by omega, by omega⟩
          have cL := Lib.hid (fun W (h : One Dr w a (l.drop q) W) => lp ▸ one_left hD'.out (l3'.out q) h)
          have cD := Lib.hid (fun W (h : One Dr w a (l.drop q) W) => ho ▸ one_d hD'.out y h0 hs'.out (l3'.out q) h)
          have qn : (q : Int) < (n : Int) := by omega
          have jm' : (j : Int) < (m : Int) := by omega
          clear hy hz ho lp hp had hal hcell hcell2 hql hjk hj
          go_wp2_with fail
          have td := Lib.hid (t0.out.next hD'.out (Below.refl wr.heap.size wr).drew)
          refine wp_region_held_drew (S := fun x => x.cell? (ad.add j) = some (K y) ∧ x.cell? (al.add q) = some (V z)) (by kernel_rfl) (And.intro (keep_cell td.out.bel hcK.out) (keep_cell td.out.bel hcL.out)) (fun hS => ?_)
          refine wpAnyH_take (i := 0) (oi := ?dqr1q0) (v := ?dvr1q0) ?hir1q0 (by kernel_rfl) (by kernel_rfl) (by kernel_rfl) ?hQr1q0 (Or.inl ⟨?hwr1q0, ?hyr1q0⟩) hS ?hrr1q0
          case hir1q0 => simp only [List.getElem?_toArray, List.getElem?_cons_zero]; rfl
          case hQr1q0 => exact fun _ _ _ h => h
          case hwr1q0 => rfl
          case hyr1q0 => (intro w hSw; (try dsimp only at hSw); go_simp; (try with_reducible rfl))
          simp only [Act.put, List.setIfInBounds_toArray, List.set_cons_zero, List.set_cons_succ]
          refine wpAnyH_take (i := 2) (oi := ?dqr1q2) (v := ?dvr1q2) ?hir1q2 (by kernel_rfl) (by kernel_rfl) (by kernel_rfl) ?hQr1q2 (Or.inl ⟨?hwr1q2, ?hyr1q2⟩) hS ?hrr1q2
          case hir1q2 => simp only [List.getElem?_toArray, List.getElem?_cons_succ, List.getElem?_cons_zero]; rfl
          case hQr1q2 => exact fun _ _ _ h => h
          case hwr1q2 => rfl
          case hyr1q2 => (intro w hSw; (try dsimp only at hSw); go_simp; (try with_reducible rfl))
          simp only [Act.put, List.setIfInBounds_toArray, List.set_cons_zero, List.set_cons_succ]
          refine wpAnyH_take (i := 3) (oi := ?dqr1q3) (v := ?dvr1q3) ?hir1q3 (by kernel_rfl) (by kernel_rfl) (by kernel_rfl) ?hQr1q3 (Or.inl ⟨?hwr1q3, ?hyr1q3⟩) hS ?hrr1q3
          case hir1q3 => simp only [List.getElem?_toArray, List.getElem?_cons_succ, List.getElem?_cons_zero]; rfl
          case hQr1q3 => exact fun _ _ _ h => h
          case hwr1q3 => rfl
          case hyr1q3 => (intro w hSw; (try dsimp only at hSw); go_simp; (try with_reducible rfl))
          simp only [Act.put, List.setIfInBounds_toArray, List.set_cons_zero, List.set_cons_succ]
          refine wpAnyH_take (i := 4) (oi := ?dqr1q4) (v := ?dvr1q4) ?hir1q4 (by kernel_rfl) (by kernel_rfl) (by kernel_rfl) ?hQr1q4 (Or.inl ⟨?hwr1q4, ?hyr1q4⟩) hS ?hrr1q4
          case hir1q4 => simp only [List.getElem?_toArray, List.getElem?_cons_succ, List.getElem?_cons_zero]; rfl
          case hQr1q4 => exact fun _ _ _ h => h
          case hwr1q4 => rfl
          case hyr1q4 => (intro w hSw; (try dsimp only at hSw); go_simp; (try with_reducible rfl))
          simp only [Act.put, List.setIfInBounds_toArray, List.set_cons_zero, List.set_cons_succ]
          refine wpAnyH_take (i := 5) (oi := ?dqr1q5) (v := ?dvr1q5) ?hir1q5 (by kernel_rfl) (by kernel_rfl) (by kernel_rfl) ?hQr1q5 (Or.inl ⟨?hwr1q5, ?hyr1q5⟩) hS ?hrr1q5
          case hir1q5 => simp only [List.getElem?_toArray, List.getElem?_cons_succ, List.getElem?_cons_zero]; rfl
          case hQr1q5 => exact fun _ _ _ h => h
          case hwr1q5 => rfl
          case hyr1q5 => (intro w hSw; (try dsimp only at hSw); go_simp; (try with_reducible rfl))
          simp only [Act.put, List.setIfInBounds_toArray, List.set_cons_zero, List.set_cons_succ]
          refine wpAnyH_ready (rs := [1]) (by kernel_rfl) (by simp) ?_
          refine AllReadyH.cons (o := ?dqr1q1) ?hir1q1 (fun K hK => ?_) AllReadyH.nil
          case hir1q1 => simp only [List.getElem?_toArray, List.getElem?_cons_succ, List.getElem?_cons_zero]; rfl
          go_simp
          go_at_call 11
          refine (cL.out _ td.out).mono ?_
          rintro e w5 ⟨rfl, ht⟩
          have t5 := Lib.hid ht
          clear ht
          have hS2 := And.intro (keep_cell t5.out.bel hcK.out) (keep_cell t5.out.bel hcL.out)
          clear hS
          refine hK.out _ _ hS2 (fun hS => ?_)
          clear hS2 hK K
          try simp only [Act.put, List.setIfInBounds_toArray, List.set_cons_zero, List.set_cons_succ]
          refine wpAnyH_take (i := 6) (oi := ?dqr1q6) (v := ?dvr1q6) ?hir1q6 (by kernel_rfl) (by kernel_rfl) (by kernel_rfl) ?hQr1q6 (Or.inl ⟨?hwr1q6, ?hyr1q6⟩) hS ?hrr1q6
          case hir1q6 => simp only [List.getElem?_toArray, List.getElem?_cons_succ, List.getElem?_cons_zero]; rfl
          case hQr1q6 => exact fun _ _ _ h => h
          case hwr1q6 => rfl
          case hyr1q6 => (intro w hSw; (try dsimp only at hSw); go_simp; (try with_reducible rfl))
          simp only [Act.put, List.setIfInBounds_toArray, List.set_cons_zero, List.set_cons_succ]
          refine wpAnyH_take (i := 7) (oi := ?dqr1q7) (v := ?dvr1q7) ?hir1q7 (by kernel_rfl) (by kernel_rfl) (by kernel_rfl) ?hQr1q7 (Or.inl ⟨?hwr1q7, ?hyr1q7⟩) hS ?hrr1q7
          case hir1q7 => simp only [List.getElem?_toArray, List.getElem?_cons_succ, List.getElem?_cons_zero]; rfl
          case hQr1q7 => exact fun _ _ _ h => h
          case hwr1q7 => rfl
          case hyr1q7 => (intro w hSw; (try dsimp only at hSw); go_simp; (try with_reducible rfl))
          simp only [Act.put, List.setIfInBounds_toArray, List.set_cons_zero, List.set_cons_succ]
          refine wpAnyH_take (i := 8) (oi := ?dqr1q8) (v := ?dvr1q8) ?hir1q8 (by kernel_rfl) (by kernel_rfl) (by kernel_rfl) ?hQr1q8 (Or.inl ⟨?hwr1q8, ?hyr1q8⟩) hS ?hrr1q8
          case hir1q8 => simp only [List.getElem?_toArray, List.getElem?_cons_succ, List.getElem?_cons_zero]; rfl
          case hQr1q8 => exact fun _ _ _ h => h
          case hwr1q8 => rfl
          case hyr1q8 => (intro w hSw; (try dsimp only at hSw); go_simp; (try with_reducible rfl))
          simp only [Act.put, List.setIfInBounds_toArray, List.set_cons_zero, List.set_cons_succ]
          refine wpAnyH_take (i := 9) (oi := ?dqr1q9) (v := ?dvr1q9) ?hir1q9 (by kernel_rfl) (by kernel_rfl) (by kernel_rfl) ?hQr1q9 (Or.inl ⟨?hwr1q9, ?hyr1q9⟩) hS ?hrr1q9
          case hir1q9 => simp only [List.getElem?_toArray, List.getElem?_cons_succ, List.getElem?_cons_zero]; rfl
          case hQr1q9 => exact fun _ _ _ h => h
          case hwr1q9 => rfl
          case hyr1q9 => (intro w hSw; (try dsimp only at hSw); go_simp; (try with_reducible rfl))
          simp only [Act.put, List.setIfInBounds_toArray, List.set_cons_zero, List.set_cons_succ]
          refine wpAnyH_take (i := 10) (oi := ?dqr1q10) (v := ?dvr1q10) ?hir1q10 (by kernel_rfl) (by kernel_rfl) (by kernel_rfl) ?hQr1q10 (Or.inl ⟨?hwr1q10, ?hyr1q10⟩) hS ?hrr1q10
          case hir1q10 => simp only [List.getElem?_toArray, List.getElem?_cons_succ, List.getElem?_cons_zero]; rfl
          case hQr1q10 => exact fun _ _ _ h => h
          case hwr1q10 => rfl
          case hyr1q10 => (intro w hSw; (try dsimp only at hSw); go_simp; (try with_reducible rfl))
          simp only [Act.put, List.setIfInBounds_toArray, List.set_cons_zero, List.set_cons_succ]
          refine wpAnyH_take (i := 11) (oi := ?dqr1q11) (v := ?dvr1q11) ?hir1q11 (by kernel_rfl) (by kernel_rfl) (by kernel_rfl) ?hQr1q11 (Or.inl ⟨?hwr1q11, ?hyr1q11⟩) hS ?hrr1q11
          case hir1q11 => simp only [List.getElem?_toArray, List.getElem?_cons_succ, List.getElem?_cons_zero]; rfl
          case hQr1q11 => exact fun _ _ _ h => h
          case hwr1q11 => rfl
          case hyr1q11 => (intro w hSw; (try dsimp only at hSw); go_simp; (try with_reducible rfl))
          simp only [Act.put, List.setIfInBounds_toArray, List.set_cons_zero, List.set_cons_succ]
          refine wpAnyH_take (i := 12) (oi := ?dqr1q12) (v := ?dvr1q12) ?hir1q12 (by kernel_rfl) (by kernel_rfl) (by kernel_rfl) ?hQr1q12 (Or.inl ⟨?hwr1q12, ?hyr1q12⟩) hS ?hrr1q12
          case hir1q12 => simp only [List.getElem?_toArray, List.getElem?_cons_succ, List.getElem?_cons_zero]; rfl
          case hQr1q12 => exact fun _ _ _ h => h
          case hwr1q12 => rfl
          case hyr1q12 => (intro w hSw; (try dsimp only at hSw); go_simp; (try with_reducible rfl))
          simp only [Act.put, List.setIfInBounds_toArray, List.set_cons_zero, List.set_cons_succ]
          refine wpAnyH_take (i := 13) (oi := ?dqr1q13) (v := ?dvr1q13) ?hir1q13 (by kernel_rfl) (by kernel_rfl) (by kernel_rfl) ?hQr1q13 (Or.inl ⟨?hwr1q13, ?hyr1q13⟩) hS ?hrr1q13
          case hir1q13 => simp only [List.getElem?_toArray, List.getElem?_cons_succ, List.getElem?_cons_zero]; rfl
          case hQr1q13 => exact fun _ _ _ h => h
          case hwr1q13 => rfl
          case hyr1q13 => (intro w hSw; (try dsimp only at hSw); go_simp; (try with_reducible rfl))
          simp only [Act.put, List.setIfInBounds_toArray, List.set_cons_zero, List.set_cons_succ]
          refine wpAnyH_take (i := 14) (oi := ?dqr1q14) (v := ?dvr1q14) ?hir1q14 (by kernel_rfl) (by kernel_rfl) (by kernel_rfl) ?hQr1q14 (Or.inl ⟨?hwr1q14, ?hyr1q14⟩) hS ?hrr1q14
          case hir1q14 => simp only [List.getElem?_toArray, List.getElem?_cons_succ, List.getElem?_cons_zero]; rfl
          case hQr1q14 => exact fun _ _ _ h => h
          case hwr1q14 => rfl
          case hyr1q14 => (intro w hSw; (try dsimp only at hSw); go_simp; (try with_reducible rfl))
          simp only [Act.put, List.setIfInBounds_toArray, List.set_cons_zero, List.set_cons_succ]
          refine wpAnyH_take (i := 15) (oi := ?dqr1q15) (v := ?dvr1q15) ?hir1q15 (by kernel_rfl) (by kernel_rfl) (by kernel_rfl) ?hQr1q15 (Or.inl ⟨?hwr1q15, ?hyr1q15⟩) hS ?hrr1q15
          case hir1q15 => simp only [List.getElem?_toArray, List.getElem?_cons_succ, List.getElem?_cons_zero]; rfl
          case hQr1q15 => exact fun _ _ _ h => h
          case hwr1q15 => rfl
          case hyr1q15 => (intro w hSw; (try dsimp only at hSw); go_simp; (try with_reducible rfl))
          simp only [Act.put, List.setIfInBounds_toArray, List.set_cons_zero, List.set_cons_succ]
          refine wpAnyH_take (i := 17) (oi := ?dqr1q17) (v := ?dvr1q17) ?hir1q17 (by kernel_rfl) (by kernel_rfl) (by kernel_rfl) ?hQr1q17 (Or.inl ⟨?hwr1q17, ?hyr1q17⟩) hS ?hrr1q17
          case hir1q17 => simp only [List.getElem?_toArray, List.getElem?_cons_succ, List.getElem?_cons_zero]; rfl
          case hQr1q17 => exact fun _ _ _ h => h
          case hwr1q17 => rfl
          case hyr1q17 => (intro w hSw; (try dsimp only at hSw); go_simp; (try with_reducible rfl))
          simp only [Act.put, List.setIfInBounds_toArray, List.set_cons_zero, List.set_cons_succ]
          refine wpAnyH_take (i := 18) (oi := ?dqr1q18) (v := ?dvr1q18) ?hir1q18 (by kernel_rfl) (by kernel_rfl) (by kernel_rfl) ?hQr1q18 (Or.inl ⟨?hwr1q18, ?hyr1q18⟩) hS ?hrr1q18
          case hir1q18 => simp only [List.getElem?_toArray, List.getElem?_cons_succ, List.getElem?_cons_zero]; rfl
          case hQr1q18 => exact fun _ _ _ h => h
          case hwr1q18 => rfl
          case hyr1q18 => (intro w hSw; (try dsimp only at hSw); go_simp; (try with_reducible rfl))
          simp only [Act.put, List.setIfInBounds_toArray, List.set_cons_zero, List.set_cons_succ]
          refine wpAnyH_take (i := 19) (oi := ?dqr1q19) (v := ?dvr1q19) ?hir1q19 (by kernel_rfl) (by kernel_rfl) (by kernel_rfl) ?hQr1q19 (Or.inl ⟨?hwr1q19, ?hyr1q19⟩) hS ?hrr1q19
          case hir1q19 => simp only [List.getElem?_toArray, List.getElem?_cons_succ, List.getElem?_cons_zero]; rfl
          case hQr1q19 => exact fun _ _ _ h => h
          case hwr1q19 => rfl
          case hyr1q19 => (intro w hSw; (try dsimp only at hSw); go_simp; (try with_reducible rfl))
          simp only [Act.put, List.setIfInBounds_toArray, List.set_cons_zero, List.set_cons_succ]
          refine wpAnyH_take (i := 20) (oi := ?dqr1q20) (v := ?dvr1q20) ?hir1q20 (by kernel_rfl) (by kernel_rfl) (by kernel_rfl) ?hQr1q20 (Or.inl ⟨?hwr1q20, ?hyr1q20⟩) hS ?hrr1q20
          case hir1q20 => simp only [List.getElem?_toArray, List.getElem?_cons_succ, List.getElem?_cons_zero]; rfl
          case hQr1q20 => exact fun _ _ _ h => h
          case hwr1q20 => rfl
          case hyr1q20 => (intro w hSw; (try dsimp only at hSw); go_simp; (try with_reducible rfl))
          simp only [Act.put, List.setIfInBounds_toArray, List.set_cons_zero, List.set_cons_succ]
          refine wpAnyH_ready (rs := [16]) (by kernel_rfl) (by simp) ?_
          refine AllReadyH.cons (o := ?dqr1q16) ?hir1q16 (fun K hK => ?_) AllReadyH.nil
          case hir1q16 => simp only [List.getElem?_toArray, List.getElem?_cons_succ, List.getElem?_cons_zero]; rfl
          go_simp
          go_at_call 9
          refine (cD.out _ t5.out).mono ?_
          rintro e w6 ⟨rfl, ht⟩
          have t6 := Lib.hid ht
          clear ht
          have hS2 := And.intro (keep_cell t6.out.bel hcK.out) (keep_cell t6.out.bel hcL.out)
          clear hS
          refine hK.out _ _ hS2 (fun hS => ?_)
          clear hS2 hK K
          try simp only [Act.put, List.setIfInBounds_toArray, List.set_cons_zero, List.set_cons_succ]
          refine wpAnyH_take (i := 21) (oi := ?dqr1q21) (v := ?dvr1q21) ?hir1q21 (by kernel_rfl) (by kernel_rfl) (by kernel_rfl) ?hQr1q21 (Or.inl ⟨?hwr1q21, ?hyr1q21⟩) hS ?hrr1q21
          case hir1q21 => simp only [List.getElem?_toArray, List.getElem?_cons_succ, List.getElem?_cons_zero]; rfl
          case hQr1q21 => exact fun _ _ _ h => h
          case hwr1q21 => rfl
          case hyr1q21 => (intro w hSw; (try dsimp only at hSw); go_simp; (try with_reducible rfl))
          simp only [Act.put, List.setIfInBounds_toArray, List.set_cons_zero, List.set_cons_succ]
          refine wpAnyH_take (i := 22) (oi := ?dqr1q22) (v := ?dvr1q22) ?hir1q22 (by kernel_rfl) (by kernel_rfl) (by kernel_rfl) ?hQr1q22 (Or.inl ⟨?hwr1q22, ?hyr1q22⟩) hS ?hrr1q22
          case hir1q22 => simp only [List.getElem?_toArray, List.getElem?_cons_succ, List.getElem?_cons_zero]; rfl
          case hQr1q22 => exact fun _ _ _ h => h
          case hwr1q22 => rfl
          case hyr1q22 => (intro w hSw; (try dsimp only at hSw); go_simp; (try with_reducible rfl))
          simp only [Act.put, List.setIfInBounds_toArray, List.set_cons_zero, List.set_cons_succ]
          refine wpAnyH_done (by kernel_rfl) ?_ _
          clear hS
          go_wp2
          go_roundw
          case rel => exact ⟨q + 1, by omega, by go_num, by have := t6.out; rwa [Drawm.tail_drop] at this⟩
          case measure => simp [intOf]; omega
        · obtain rfl : q = n := by omega
          have tE : One Dr w a [] wr := by have := t0.out; rwa [List.drop_eq_nil_of_le (by rw [hln.out]; exact Nat.le_refl _)] at this
          obtain ⟨S5, hd5, hS5, hB5⟩ := tE
          have S5' := Lib.hid hS5
          have d5' := Lib.hid hd5
          have b5 := Lib.hid hB5
          clear hd5 hS5 hB5 t0
          go_wp2_with fail
          refine (hD'.out.many wr w.heap.size S5 a B m d ks [] b5.out.size S5'.out h0 (steps_at h0 hs'.out b5.out) (hB'.out.next b5.out) (by simp) d5'.out).mono ?_
          rintro e w6 ⟨S6, v6, rfl, hS6, hd6, ho6, ha6, hbut6⟩
          obtain ⟨A5, c5, rfl, _, _, _⟩ := own_slice ho6
          rw [List.drop_nil] at hd6
          have b6 : Hid (Below w.heap.size w w6) := b5.out.trans (hbut6.below b5.out.size S5'.out)
          have S6' : Hid (∀ i, S6 i → w.heap.size ≤ i) := fun i hi => (hS6 i hi).elim (S5'.out i) (fun h => Nat.le_trans b5.out.size h)
          have d6' := Lib.hid hd6
          have o6 := Lib.hid ho6
          have a6 := Lib.hid ha6
          clear hS6 hd6 ho6 ha6 hbut6 d5' S5' b5
          go_wp2_with fail
          refine (hD'.out.many w6 w.heap.size S6 a B m d ks [] b6.out.size S6'.out h0 (steps_at h0 hs'.out b6.out) (hB'.out.next b6.out) (by simp) d6'.out).mono ?_
          rintro e w7 ⟨S7, v7, rfl, hS7, hd7, ho7, ha7, hbut7⟩
          obtain ⟨A7, c7, rfl, _, _, _⟩ := own_slice ho7
          rw [List.drop_nil] at hd7
          have b7 : Hid (Below w.heap.size w w7) := b6.out.trans (hbut7.below b6.out.size S6'.out)
          have d7' := Lib.hid hd7
          have o6b := Lib.hid (own_block o6.out (fun i _ hlt ho => hbut7.block i hlt (a6.out i ho)))
          obtain ⟨M, hM⟩ : ∃ M, Drawm.many ks [] = M := ⟨_, rfl⟩
          have hso := Lib.hid (Drawm.same_own ks)
          rw [hM] at o6b ho7 hso
          have hlM : Hid (M.length = m) := by show M.length = m; rw [← hM, Drawm.many_len, hlm.out]
          have uA := Lib.hid (lieu_own hlM.out (by omega) o6b.out)
          have uB := Lib.hid (lieu_own hlM.out (by omega) ho7)
          clear hS7 hd7 ho7 ha7 hbut7 d6' S6' b6 o6 o6b a6 hM
          go_wp2_with fail
          refine (same8_yes A5 A7 m c5 c7 M w7 uA.out uB.out).mono ?_
          rintro e w8 ⟨rfl, hb8⟩
          have b8 := Lib.hid hb8
          have d8' := Lib.hid (hD'.out.keep d7'.out (fun i hi => hb8.block i (hD'.out.lt d7'.out i hi)))
          have cl : Calls Tryd.prog 11 #[.pointer (some a)] w8 fun e w' => e = .returned (.int .i64 0) ∧ Below w8.heap.size w8 w' := hD'.out.left w8 S7 a [] (by simp) d8'.out
          have cl' := Lib.hid cl
          clear hb8 cl d7' d8' uB
          go_wp2_with fail
          refine cl'.out.mono ?_
          rintro e w9 ⟨rfl, hb9⟩
          have b9 : Hid (Below w7.heap.size w7 w9) := Below.after b8.out hb9
          have u9 : Hid (LieU w9 w9.heap.size A5 m c5 (M.map V)) := (uA.out.next b9.out).more b9.out.size
          have b79 : Hid (Below w.heap.size w w9) := b7.out.trans (b9.out.mono b7.out.size)
          have k9 : Hid (LieU w9 w9.heap.size B m d (ks.map K)) := (hB'.out.next b79.out).more b79.out.size
          clear hb9 cl' b8 b9 b7 uA
          go_wp2
          go_loopw [13] (fun i wr => ∃ p : Nat, p ≤ m ∧ i = .int .i64 p ∧ Below w9.heap.size w9 wr) (fun i _ => m - (intOf i).toNat)
          case atStart => exact ⟨0, Nat.zero_le _, rfl, Below.refl _ _⟩
          case round =>
            obtain ⟨p, hp, rfl, hb⟩ := hrel
            have bp := Lib.hid hb
            clear hb
            by_cases hpm : p < m
            · have pm : (p : Int) < (m : Int) := by omega
              go_wp2
              go_loopw [14] (fun i wt => ∃ t : Nat, t ≤ p ∧ i = .int .i64 t ∧ Below w9.heap.size w9 wt) (fun i _ => p - (intOf i).toNat)
              case atStart => exact ⟨0, Nat.zero_le _, rfl, bp.out⟩
              case round =>
                obtain ⟨t, ht, rfl, hb⟩ := hrel
                have bt := Lib.hid hb
                clear hb
                by_cases htp : t < p
                · have tm : t < m := by omega
                  have hpM : p < M.length := by rw [hlM.out]; exact hpm
                  have htM : t < M.length := by rw [hlM.out]; exact tm
                  have hpk : p < ks.length := by rw [hlm.out]; exact hpm
                  have htk : t < ks.length := by rw [hlm.out]; exact tm
                  obtain ⟨a5, rfl, _, g1⟩ := num_at (u9.out.next bt.out) p hpM
                  obtain ⟨a5', e5, _, g2⟩ := num_at (u9.out.next bt.out) t htM
                  obtain rfl : a5 = a5' := by injection e5
                  obtain ⟨ad, rfl, _, f1⟩ := (k9.out.next bt.out).row p (K ks[p]) (by rw [List.getElem?_map, List.getElem?_eq_getElem hpk]; rfl)
                  obtain ⟨ad', e6, _, f2⟩ := (k9.out.next bt.out).row t (K ks[t]) (by rw [List.getElem?_map, List.getElem?_eq_getElem htk]; rfl)
                  obtain rfl : ad = ad' := by injection e6
                  have hq := hso.out p t hpM htM hpk htk
                  obtain ⟨x1, hx1⟩ : ∃ x1, M[p] = x1 := ⟨_, rfl⟩
                  obtain ⟨x2, hx2⟩ : ∃ x2, M[t] = x2 := ⟨_, rfl⟩
                  obtain ⟨y1, hy1⟩ : ∃ y1, ks[p] = y1 := ⟨_, rfl⟩
                  obtain ⟨y2, hy2⟩ : ∃ y2, ks[t] = y2 := ⟨_, rfl⟩
                  rw [hx1, hx2, hy1, hy2] at hq
                  rw [hx1] at g1
                  rw [hx2] at g2
                  rw [hy1] at f1
                  rw [hy2] at f2
                  have tpi : (t : Int) < (p : Int) := by omega
                  have tmi : (t : Int) < (m : Int) := by omega
                  clear hx1 hx2 hy1 hy2 hpM htM hpk htk e5 e6
                  by_cases hy : y1 = y2
                  · have hx : x1 = x2 := by simpa [hy] using hq
                    clear hq
                    subst hy hx
                    go_wp2
                    go_quiet (fail)
                    go_wp2
                    go_roundw
                    case rel => exact ⟨t + 1, by omega, by go_num, below_drewN bt.out _⟩
                    case measure => simp [intOf]; omega
                  · have hx : ¬ x1 = x2 := by simpa [hy] using hq
                    have v1 : ¬ (x1.toNat : Int) = (x2.toNat : Int) := fun h => hx (BitVec.eq_of_toNat_eq (by omega))
                    have v2 : ((x1.toNat : Int) == (x2.toNat : Int)) = false := by simpa using v1
                    have v3 : ¬ y1.toInt = y2.toInt := fun h => hy (BitVec.eq_of_toInt_eq h)
                    have v4 : (y1.toInt == y2.toInt) = false := by simpa using v3
                    have v5 : decide ((x1.toNat : Int) = (x2.toNat : Int)) = false := decide_eq_false v1
                    have v6 : decide (y1.toInt = y2.toInt) = false := decide_eq_false v3
                    clear hq
                    go_wp2
                    go_quiet (fail)
                    go_wp2
                    go_roundw
                    case rel => exact ⟨t + 1, by omega, by go_num, below_drewN bt.out _⟩
                    case measure => simp [intOf]; omega
                · obtain rfl : t = p := by omega
                  go_wp2
                  go_roundw
                  case rel => exact ⟨t + 1, by omega, by go_num, bt.out⟩
                  case measure => simp [intOf]; omega
            · obtain rfl : p = m := by omega
              have bA : Hid (Below w.heap.size w _) := b79.out.trans (bp.out.mono b79.out.size)
              have cA := Lib.hid (alive8_any hD'.out _ (Nat.lt_of_lt_of_le h0 bA.out.size) (steps_at h0 hs'.out bA.out))
              go_wp2_with (go_at_call 5; (with_reducible refine cA.out.mono ?_); rintro e w' ⟨rfl, hb⟩; have bE := Lib.hid (Below.after bA.out hb); clear hb)
              go_ret
              exact ⟨rfl, bE.out⟩
end Go.Proofs.YtmjlabnjgdiakaaDoor
