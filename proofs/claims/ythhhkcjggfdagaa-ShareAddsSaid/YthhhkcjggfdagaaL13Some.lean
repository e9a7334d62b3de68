/- Layer 13: the law's own rows of nodes, each made of those ahead of it (pick, few, some). Made by wip/gen/layer13some.py. -/
import Derived.Test.YthhhkcjggfdagaaL13Says
import Derived.Test.YthhhkcjggfdagaaL4Row
import Derived.Test.YthhhkcjggfdagaaGHeld
import Derived.Deep.RegionHeld3
namespace Go.Proofs.Ythhhkcjggfdagaa
open Go.RowKit Go.Proofs.Treem Go.Proofs.Cardm Go.Proofs.Rowm
set_option maxRecDepth 100000
variable {Nd : NdP}

/-- one of a row, by its number; none, if there is none of that number -/
def pickP {α : Type} (z : α) (ps : List α) (i : Int) : α := if i < 0 then z else (ps[i.toNat]?).getD z
theorem pick_map {α β : Type} (f : α → β) (z : α) (l : List α) (i : Int) : pickP (f z) (l.map f) i = f (pickP z l i) := by
  unfold pickP
  split
  · rfl
  · rw [List.getElem?_map]
    cases l[i.toNat]? <;> rfl
theorem pick_mem {α : Type} (z : α) (l : List α) (i : Int) : pickP z l i = z ∨ pickP z l i ∈ l := by
  unfold pickP
  split
  · exact .inl rfl
  · cases h : l[i.toNat]? with
    | none => exact .inl rfl
    | some x => exact .inr (List.mem_of_getElem? h)
set_option maxHeartbeats 1000000 in
theorem pick_any (A : Option Addr) (n c : Nat) (ps : List (Option Addr)) (w : World) (h : LieP w w.heap.size A n c ps) (i : Int) : Calls Try.prog 25 #[.slice A n c, .int .i64 i] w fun e w' => e = .returned (.pointer (pickP none ps i)) ∧ w = w' := by
  by_cases h1 : i < 0
  · have d1 : decide (i < 0) = true := decide_eq_true h1
    have e : pickP none ps i = none := if_pos h1
    rw [e]
    clear h e
    go_enter Try.func25, Try.ntmps25
    go_wp2
    go_ret
    exact ⟨rfl, rfl⟩
  · obtain ⟨k, rfl⟩ : ∃ k : Nat, i = (k : Int) := ⟨i.toNat, by omega⟩
    have e0 : pickP none ps (k : Int) = (ps[k]?).getD none := by unfold pickP; rw [if_neg h1]; rfl
    have d1 : decide ((k : Int) < 0) = false := decide_eq_false h1
    by_cases h2 : n ≤ k
    · have d2 : decide ((n : Int) ≤ (k : Int)) = true := decide_eq_true (by omega)
      have d3 : decide (n ≤ k) = true := decide_eq_true h2
      have e : pickP none ps (k : Int) = none := by rw [e0, List.getElem?_eq_none (by rw [h.len]; omega)]; rfl
      rw [e]
      clear h e e0
      go_enter Try.func25, Try.ntmps25
      go_wp2
      go_ret
      exact ⟨rfl, rfl⟩
    · have d2 : decide ((n : Int) ≤ (k : Int)) = false := decide_eq_false (by omega)
      have d3 : decide (n ≤ k) = false := decide_eq_false h2
      have hk : k < ps.length := by rw [h.len]; omega
      have hkn : k < n := by omega
      obtain ⟨p, hp⟩ : ∃ p, ps[k] = p := ⟨_, rfl⟩
      have e : pickP none ps (k : Int) = p := by rw [e0, List.getElem?_eq_getElem hk, hp]; rfl
      obtain ⟨ad, rfl, -, g0⟩ := h.at_ k p (by rw [List.getElem?_eq_getElem hk, hp])
      rw [e]
      clear h e e0 hp
      go_enter Try.func25, Try.ntmps25
      go_wp2
      go_ret
      exact ⟨rfl, rfl⟩
/-- a Bool is told, nothing is changed -/
def Told13 (w : World) (e : Ending) (w' : World) : Prop := (∃ b, e = .returned (.bool b)) ∧ w = w'
/-- nodes that came in, as pairs of numbers -/
structure LieD (w : World) (B : Nat) (A : Option Addr) (n c : Nat) (l : List Pr) : Prop where
  len : l.length = n
  cap : n ≤ c
  max : c ≤ maxLen
  nil : A = none → c = 0
  row : Row w B A (flat l)
theorem LieD.next {W W' : World} {B : Nat} {A : Option Addr} {n c : Nat} {l : List Pr} (h : LieD W B A n c l) (hb : Below B W W') : LieD W' B A n c l := ⟨h.len, h.cap, h.max, h.nil, h.row.below hb⟩
set_option maxHeartbeats 2000000 in
theorem may13_any (A : Option Addr) (n c B : Nat) (l : List Pr) (hn : n ≤ 18) (w : World) (h : LieD w B A n c l) : Calls Try.prog 24 #[.slice A n c] w (Told13 w) := by
  have h' := Lib.hid h
  clear h
  go_enter Try.func24, Try.ntmps24
  go_wp2_with fail
  go_loop [3] (fun i => ∃ k : Nat, k ≤ n ∧ i = .int .i64 k) (fun i => n - (intOf i).toNat)
  case atStart => exact ⟨0, Nat.zero_le _, rfl⟩
  case round =>
    obtain ⟨k, hk, rfl⟩ := hrel
    by_cases hlt : k < n
    · have hkl : k < l.length := by rw [h'.out.len]; exact hlt
      obtain ⟨ad, rfl, -, g0, g1⟩ := pair_at h'.out.row k hkl
      obtain ⟨x1, hx1⟩ : ∃ x, l[k].1 = x := ⟨_, rfl⟩
      obtain ⟨x2, hx2⟩ : ∃ x, l[k].2 = x := ⟨_, rfl⟩
      rw [hx1] at g0
      rw [hx2] at g1
      obtain ⟨t1, ht1⟩ : ∃ b, decide ((k : Int) ≤ x1.toInt) = b := ⟨_, rfl⟩
      obtain ⟨t2, ht2⟩ : ∃ b, decide ((k : Int) ≤ x2.toInt) = b := ⟨_, rfl⟩
      clear hx1 hx2 hkl
      cases t1 with
      | true =>
        go_wp2_with fail
        go_ret
        exact ⟨⟨_, rfl⟩, rfl⟩
      | false =>
        cases t2 with
        | true =>
          go_wp2_with fail
          go_ret
          exact ⟨⟨_, rfl⟩, rfl⟩
        | false =>
          have ht1' := Lib.hid ht1
          have ht2' := Lib.hid ht2
          go_wp2_with fail
          go_round
          case rel => exact ⟨k + 1, hlt, by simp⟩
          case measure => simp [intOf]; omega
    · obtain rfl : k = n := by omega
      go_wp2_with fail
      go_ret
      exact ⟨⟨_, rfl⟩, rfl⟩
/-- whether there are few -/
def Few13 (n : Nat) (w : World) (e : Ending) (w' : World) : Prop := (∃ b, e = .returned (.bool b) ∧ (b = true → n ≤ 18)) ∧ w = w'
set_option maxHeartbeats 1000000 in
theorem few13_any (A : Option Addr) (n c B : Nat) (l : List Pr) (w : World) (h : LieD w B A n c l) : Calls Try.prog 13 #[.slice A n c] w (Few13 n w) := by
  by_cases hn : n ≤ 18
  · have c1 := Lib.hid (may13_any A n c B l hn w h)
    have d1 : decide ((n : Int) ≤ 18) = true := decide_eq_true (by omega)
    have d2 : decide (n ≤ 18) = true := decide_eq_true hn
    clear h
    go_enter Try.func13, Try.ntmps13
    go_wp2_with fail
    refine c1.out.mono ?_
    rintro e w' ⟨⟨b, rfl⟩, rfl⟩
    go_wp2_with fail
    go_ret
    exact ⟨⟨_, rfl, fun _ => hn⟩, rfl⟩
  · have d1 : decide ((n : Int) ≤ 18) = false := decide_eq_false (by omega)
    have d2 : decide (n ≤ 18) = false := decide_eq_false hn
    clear h
    go_enter Try.func13, Try.ntmps13
    go_wp2_with fail
    go_ret
    exact ⟨⟨_, rfl, fun e => by cases e⟩, rfl⟩
/-- trees, the roots of which are all the nodes that they have -/
structure Fam (Nd : NdP) (W : World) (Fm : List AT) (rs : List Addr) : Prop where
  roots : Fm.map AT.ptr = rs.map some
  all : ∀ T ∈ Fm, Stand Nd W T ∧ ∀ a ∈ T.addrs, a ∈ rs
theorem Fam.after (hN : NodeSays Nd) {W W' : World} {Fm : List AT} {rs : List Addr} (h : Fam Nd W Fm rs) (hb : Below W.heap.size W W') : Fam Nd W' Fm rs := ⟨h.roots, fun T hT => ⟨(h.all T hT).1.after hN hb, (h.all T hT).2⟩⟩
theorem Stand.kept (hN : NodeSays Nd) {W W' : World} {T : AT} {base size n : Nat} {v : Value} {xs : List Value} (h : Stand Nd W T) (hr : W.ownsRow base 25 size v n xs) (hg : W.grownBy W' v.ownBlock) : Stand Nd W' T :=
  ⟨(h.lies.kept hN hg (row_kind hr)).more hN hg.size, (h.tree.kept hN hg (row_kind hr)).more hN hg.size⟩
theorem Fam.kept (hN : NodeSays Nd) {W W' : World} {Fm : List AT} {rs : List Addr} {base size n : Nat} {v : Value} {xs : List Value} (h : Fam Nd W Fm rs) (hr : W.ownsRow base 25 size v n xs) (hg : W.grownBy W' v.ownBlock) : Fam Nd W' Fm rs := ⟨h.roots, fun T hT => ⟨(h.all T hT).1.kept hN hr hg, (h.all T hT).2⟩⟩
/-- one more, made of two of them, or none -/
theorem Fam.add {W : World} {Fm : List AT} {rs : List Addr} {a : Addr} {x : No} {L R : AT} (h : Fam Nd W Fm rs) (hT : Stand Nd W (.n a x L R)) (hl : L = .e ∨ L ∈ Fm) (hr : R = .e ∨ R ∈ Fm) : Fam Nd W (Fm ++ [.n a x L R]) (rs ++ [a]) := by
  have hs : ∀ V : AT, (V = .e ∨ V ∈ Fm) → ∀ b ∈ V.addrs, b ∈ rs := fun V hV b hb => by
    rcases hV with rfl | hV
    · cases hb
    · exact (h.all V hV).2 b hb
  refine ⟨by rw [List.map_append, List.map_append, h.roots]; rfl, fun T hT' => ?_⟩
  rcases List.mem_append.1 hT' with hm | hm
  · exact ⟨(h.all T hm).1, fun b hb => List.mem_append_left _ ((h.all T hm).2 b hb)⟩
  · rw [List.mem_singleton.1 hm]
    refine ⟨hT, fun b hb => ?_⟩
    rcases AT.mem_n.1 hb with rfl | hb | hb
    · exact List.mem_append_right _ (List.mem_singleton.2 rfl)
    · exact List.mem_append_left _ (hs L hl b hb)
    · exact List.mem_append_left _ (hs R hr b hb)
theorem Fam.stand {W : World} {Fm : List AT} {rs : List Addr} (h : Fam Nd W Fm rs) {V : AT} (hV : V = .e ∨ V ∈ Fm) : Stand Nd W V := by
  rcases hV with rfl | hV
  · exact Stand.none_ W
  · exact (h.all V hV).1
theorem info_ptr13 : (Try.prog.info? 25).map (fun i => (i.zero, i.size, i.bytes)) = some (some (.pointer none), 1, 8) := by kernel_rfl
theorem size_node13 (W : World) : (sizeOf 58).run Try.prog W = .ok 2 W := by kernel_rfl
/-- what some makes -/
def Some13 (Nd : NdP) (n : Nat) (w : World) (e : Ending) (w' : World) : Prop := ∃ v Fm rs, e = .returned v ∧ w'.ownsRow w.heap.size 25 1 v n ((Fm.map AT.ptr).map Value.pointer) ∧ Fam Nd w' Fm rs ∧ Fm.length = n ∧ Below w.heap.size w w'
set_option maxHeartbeats 8000000 in
theorem some13_any (hN : NodeSays Nd) (A : Option Addr) (n c B : Nat) (l : List Pr) (hn : n ≤ 18) (w : World) (hB : B ≤ w.heap.size) (h : LieD w B A n c l) : Calls Try.prog 14 #[.slice A n c] w (Some13 Nd n w) := by
  obtain ⟨i0, hin, hz0, hz1, hz2⟩ := info_parts info_ptr13
  have h' := Lib.hid h
  have hN' := Lib.hid hN
  have hB' := Lib.hid hB
  clear h hN hB
  go_enter Try.func14, Try.ntmps14
  go_wp2_with fail
  go_loopw [3, 4] (fun v i wr => ∃ (k : Nat) (Fm : List AT) (rs : List Addr), k ≤ n ∧ i = .int .i64 k ∧ wr.ownsRow w.heap.size 25 1 v k ((Fm.map AT.ptr).map Value.pointer) ∧ Fam Nd wr Fm rs ∧ Fm.length = k ∧ Below w.heap.size w wr) (fun _ i _ => n - (intOf i).toNat)
  case atStart => exact ⟨0, [], [], Nat.zero_le _, rfl, World.ownsRow_nil _ _ _ _, ⟨rfl, fun T hT => by cases hT⟩, rfl, Below.refl _ _⟩
  case round =>
    obtain ⟨k, Fm, rs, hk, rfl, how, hfm, hfl, hbw⟩ := hrel
    obtain ⟨A1, c1, rfl, hkc, hc1, hA1⟩ := own_slice how
    by_cases hlt : k < n
    · have hkl : k < l.length := by rw [h'.out.len]; exact hlt
      obtain ⟨ad, rfl, hadb, g0, g1⟩ := pair_at (h'.out.next (hbw.mono hB'.out)).row k hkl
      obtain ⟨x1, hx1⟩ : ∃ x, l[k].1 = x := ⟨_, rfl⟩
      obtain ⟨x2, hx2⟩ : ∃ x, l[k].2 = x := ⟨_, rfl⟩
      rw [hx1] at g0
      rw [hx2] at g1
      have lie : LieP wr wr.heap.size A1 k c1 (Fm.map AT.ptr) := ⟨by rw [List.length_map]; exact hfl, hkc, hc1, hA1, Row.of_own how⟩
      have bd : Below wr.heap.size wr wr.drew := (Below.refl _ _).drew
      obtain ⟨L, hL⟩ : ∃ T, pickP .e Fm x1.toInt = T := ⟨_, rfl⟩
      obtain ⟨R, hR⟩ : ∃ T, pickP .e Fm x2.toInt = T := ⟨_, rfl⟩
      have ml : L = .e ∨ L ∈ Fm := hL ▸ pick_mem .e Fm x1.toInt
      have mr : R = .e ∨ R ∈ Fm := hR ▸ pick_mem .e Fm x2.toInt
      have cP1 : Hid (Calls Try.prog 25 #[.slice A1 k c1, K x1] wr.drew fun e w' => e = .returned (.pointer L.ptr) ∧ wr.drew = w') := by
        have := pick_any A1 k c1 (Fm.map AT.ptr) wr.drew (lie.after bd) x1.toInt
        rw [show (none : Option Addr) = AT.ptr .e from rfl, pick_map, hL] at this
        exact this
      have cP2 : Hid (Calls Try.prog 25 #[.slice A1 k c1, K x2] wr.drew fun e w' => e = .returned (.pointer R.ptr) ∧ wr.drew = w') := by
        have := pick_any A1 k c1 (Fm.map AT.ptr) wr.drew (lie.after bd) x2.toInt
        rw [show (none : Option Addr) = AT.ptr .e from rfl, pick_map, hR] at this
        exact this
      obtain ⟨kb, hkb⟩ : ∃ b : BitVec 64, BitVec.ofNat 64 (k % 3) = b := ⟨_, rfl⟩
      have hki : kb.toInt = ((k % 3 : Nat) : Int) := by
        rw [← hkb, BitVec.toInt_eq_toNat_of_lt (by rw [BitVec.toNat_ofNat]; omega), BitVec.toNat_ofNat]; omega
      obtain ⟨q, hq⟩ : ∃ q : Int, kb.toInt = q := ⟨_, rfl⟩
      have cN : Hid (Calls Try.prog 15 #[.pointer L.ptr, .int .i64 q, .int .i64 0, .int .u64 0, .pointer R.ptr] wr.drew (Made13 Nd L R kb 0#64 0#64 wr.drew)) := hq ▸ new13 hN'.out wr.drew L R kb 0#64 0#64 ((hfm.stand ml).after hN'.out bd) ((hfm.stand mr).after hN'.out bd)
      have r1 : (k : Int) % 3 = q := by rw [← hq, hki]; omega
      have r2 : (k : Int).tmod 3 = q := by rw [← hq, hki, Int.tmod_eq_emod_of_nonneg (by omega)]; omega
      have r3 : IntKind.i64.wrap q = q := by rw [IntWalk.i64_in q (by rw [← r1]; omega)]
      have y0 : wr.cell? (ad.add (k * 2)) = some (K x1) := g0
      have y1 : wr.cell? ⟨(ad.add (k * 2)).block, (ad.add (k * 2)).off + 1, none⟩ = some (K x2) := g1
      have OW := Lib.hid how
      have FM := Lib.hid hfm
      have BW := Lib.hid hbw
      have ML := Lib.hid ml
      have MR := Lib.hid mr
      have HFL := Lib.hid hfl
      have HQ := Lib.hid hq
      have M1 : Hid (k + 1 ≤ maxLen) := by show k + 1 ≤ maxLen; unfold maxLen; omega
      have M2 : Hid ((k + 1) * 8 ≤ 140737488355328) := by show (k + 1) * 8 ≤ 140737488355328; omega
      have NR : Hid (∀ {W : World} {v : Value} {xs : List Value} {m : Nat}, W.ownsRow w.heap.size 25 1 v m xs → some ad.block ≠ v.ownBlock) := fun h e => by
        have := (h.lt _ e.symm).1
        have := hB'.out
        omega
      clear g0 g1 hx1 hx2 hkl lie hL hR ml mr hkb hki hq how hfm hfl hbw r1 bd
      go_wp2_with fail
      refine wp_region_held_drew (S := fun u => u.cell? (ad.add (k * 2)) = some (.int .i64 x1.toInt) ∧ u.cell? ⟨(ad.add (k * 2)).block, (ad.add (k * 2)).off + 1, none⟩ = some (.int .i64 x2.toInt)) (by kernel_rfl) ⟨y0, y1⟩ (fun hS => ?_)
      refine wpAnyH_take (i := 0) (oi := ?dqr1q0) (v := ?dvr1q0) ?hir1q0 (by kernel_rfl) (by kernel_rfl) (by kernel_rfl) ?hQr1q0 (Or.inl ⟨?hwr1q0, ?hyr1q0⟩) hS ?hrr1q0
      case hir1q0 => simp only [List.getElem?_toArray, List.getElem?_cons_zero]; rfl
      case hQr1q0 => exact fun _ _ _ h => h
      case hwr1q0 => rfl
      case hyr1q0 => (intro w hSw; (try dsimp only at hSw); go_simp; (try with_reducible rfl))
      simp only [Act.put, List.setIfInBounds_toArray, List.set_cons_zero, List.set_cons_succ]
      refine wpAnyH_take (i := 1) (oi := ?dqr1q1) (v := ?dvr1q1) ?hir1q1 (by kernel_rfl) (by kernel_rfl) (by kernel_rfl) ?hQr1q1 (Or.inl ⟨?hwr1q1, ?hyr1q1⟩) hS ?hrr1q1
      case hir1q1 => simp only [List.getElem?_toArray, List.getElem?_cons_succ, List.getElem?_cons_zero]; rfl
      case hQr1q1 => exact fun _ _ _ h => h
      case hwr1q1 => rfl
      case hyr1q1 => (intro w hSw; (try dsimp only at hSw); go_simp; (try with_reducible rfl))
      simp only [Act.put, List.setIfInBounds_toArray, List.set_cons_zero, List.set_cons_succ]
      refine wpAnyH_take (i := 2) (oi := ?dqr1q2) (v := ?dvr1q2) ?hir1q2 (by kernel_rfl) (by kernel_rfl) (by kernel_rfl) ?hQr1q2 (Or.inl ⟨?hwr1q2, ?hyr1q2⟩) hS ?hrr1q2
      case hir1q2 => simp only [List.getElem?_toArray, List.getElem?_cons_succ, List.getElem?_cons_zero]; rfl
      case hQr1q2 => exact fun _ _ _ h => h
      case hwr1q2 => rfl
      case hyr1q2 => (intro w hSw; (try dsimp only at hSw); go_simp; (try with_reducible rfl))
      simp only [Act.put, List.setIfInBounds_toArray, List.set_cons_zero, List.set_cons_succ]
      refine wpAnyH_take (i := 3) (oi := ?dqr1q3) (v := ?dvr1q3) ?hir1q3 (by kernel_rfl) (by kernel_rfl) (by kernel_rfl) ?hQr1q3 (Or.inl ⟨?hwr1q3, ?hyr1q3⟩) hS ?hrr1q3
      case hir1q3 => simp only [List.getElem?_toArray, List.getElem?_cons_succ, List.getElem?_cons_zero]; rfl
      case hQr1q3 => exact fun _ _ _ h => h
      case hwr1q3 => rfl
      case hyr1q3 => (intro w hSw; (try dsimp only at hSw); go_simp; (try with_reducible rfl))
      simp only [Act.put, List.setIfInBounds_toArray, List.set_cons_zero, List.set_cons_succ]
      refine wpAnyH_take (i := 4) (oi := ?dqr1q4) (v := ?dvr1q4) ?hir1q4 (by kernel_rfl) (by kernel_rfl) (by kernel_rfl) ?hQr1q4 (Or.inl ⟨?hwr1q4, ?hyr1q4⟩) hS ?hrr1q4
      case hir1q4 => simp only [List.getElem?_toArray, List.getElem?_cons_succ, List.getElem?_cons_zero]; rfl
      case hQr1q4 => exact fun _ _ _ h => h
      case hwr1q4 => rfl
      case hyr1q4 => (intro w hSw; (try dsimp only at hSw); go_simp; (try with_reducible rfl))
      simp only [Act.put, List.setIfInBounds_toArray, List.set_cons_zero, List.set_cons_succ]
      refine wpAnyH_take (i := 5) (oi := ?dqr1q5) (v := ?dvr1q5) ?hir1q5 (by kernel_rfl) (by kernel_rfl) (by kernel_rfl) ?hQr1q5 (Or.inl ⟨?hwr1q5, ?hyr1q5⟩) hS ?hrr1q5
      case hir1q5 => simp only [List.getElem?_toArray, List.getElem?_cons_succ, List.getElem?_cons_zero]; rfl
      case hQr1q5 => exact fun _ _ _ h => h
      case hwr1q5 => rfl
      case hyr1q5 => (intro w hSw; (try dsimp only at hSw); go_simp; (try with_reducible rfl))
      simp only [Act.put, List.setIfInBounds_toArray, List.set_cons_zero, List.set_cons_succ]
      refine wpAnyH_take (i := 6) (oi := ?dqr1q6) (v := ?dvr1q6) ?hir1q6 (by kernel_rfl) (by kernel_rfl) (by kernel_rfl) ?hQr1q6 (Or.inl ⟨?hwr1q6, ?hyr1q6⟩) hS ?hrr1q6
      case hir1q6 => simp only [List.getElem?_toArray, List.getElem?_cons_succ, List.getElem?_cons_zero]; rfl
      case hQr1q6 => exact fun _ _ _ h => h
      case hwr1q6 => rfl
      case hyr1q6 => (intro w hSw; (try dsimp only at hSw); go_simp; (try with_reducible rfl))
      simp only [Act.put, List.setIfInBounds_toArray, List.set_cons_zero, List.set_cons_succ]
      refine wpAnyH_take (i := 8) (oi := ?dqr1q8) (v := ?dvr1q8) ?hir1q8 (by kernel_rfl) (by kernel_rfl) (by kernel_rfl) ?hQr1q8 (Or.inl ⟨?hwr1q8, ?hyr1q8⟩) hS ?hrr1q8
      case hir1q8 => simp only [List.getElem?_toArray, List.getElem?_cons_succ, List.getElem?_cons_zero]; rfl
      case hQr1q8 => exact fun _ _ _ h => h
      case hwr1q8 => rfl
      case hyr1q8 => (intro w hSw; (try dsimp only at hSw); go_simp; (try with_reducible rfl))
      simp only [Act.put, List.setIfInBounds_toArray, List.set_cons_zero, List.set_cons_succ]
      refine wpAnyH_take (i := 9) (oi := ?dqr1q9) (v := ?dvr1q9) ?hir1q9 (by kernel_rfl) (by kernel_rfl) (by kernel_rfl) ?hQr1q9 (Or.inl ⟨?hwr1q9, ?hyr1q9⟩) hS ?hrr1q9
      case hir1q9 => simp only [List.getElem?_toArray, List.getElem?_cons_succ, List.getElem?_cons_zero]; rfl
      case hQr1q9 => exact fun _ _ _ h => h
      case hwr1q9 => rfl
      case hyr1q9 => (intro w hSw; (try dsimp only at hSw); go_simp; (try with_reducible rfl))
      simp only [Act.put, List.setIfInBounds_toArray, List.set_cons_zero, List.set_cons_succ]
      refine wpAnyH_take (i := 10) (oi := ?dqr1q10) (v := ?dvr1q10) ?hir1q10 (by kernel_rfl) (by kernel_rfl) (by kernel_rfl) ?hQr1q10 (Or.inl ⟨?hwr1q10, ?hyr1q10⟩) hS ?hrr1q10
      case hir1q10 => simp only [List.getElem?_toArray, List.getElem?_cons_succ, List.getElem?_cons_zero]; rfl
      case hQr1q10 => exact fun _ _ _ h => h
      case hwr1q10 => rfl
      case hyr1q10 => (intro w hSw; (try dsimp only at hSw); go_simp; (try with_reducible rfl))
      simp only [Act.put, List.setIfInBounds_toArray, List.set_cons_zero, List.set_cons_succ]
      refine wpAnyH_take (i := 11) (oi := ?dqr1q11) (v := ?dvr1q11) ?hir1q11 (by kernel_rfl) (by kernel_rfl) (by kernel_rfl) ?hQr1q11 (Or.inl ⟨?hwr1q11, ?hyr1q11⟩) hS ?hrr1q11
      case hir1q11 => simp only [List.getElem?_toArray, List.getElem?_cons_succ, List.getElem?_cons_zero]; rfl
      case hQr1q11 => exact fun _ _ _ h => h
      case hwr1q11 => rfl
      case hyr1q11 => (intro w hSw; (try dsimp only at hSw); go_simp; (try with_reducible rfl))
      simp only [Act.put, List.setIfInBounds_toArray, List.set_cons_zero, List.set_cons_succ]
      refine wpAnyH_take (i := 12) (oi := ?dqr1q12) (v := ?dvr1q12) ?hir1q12 (by kernel_rfl) (by kernel_rfl) (by kernel_rfl) ?hQr1q12 (Or.inl ⟨?hwr1q12, ?hyr1q12⟩) hS ?hrr1q12
      case hir1q12 => simp only [List.getElem?_toArray, List.getElem?_cons_succ, List.getElem?_cons_zero]; rfl
      case hQr1q12 => exact fun _ _ _ h => h
      case hwr1q12 => rfl
      case hyr1q12 => (intro w hSw; (try dsimp only at hSw); go_simp; (try with_reducible rfl))
      simp only [Act.put, List.setIfInBounds_toArray, List.set_cons_zero, List.set_cons_succ]
      refine wpAnyH_take (i := 13) (oi := ?dqr1q13) (v := ?dvr1q13) ?hir1q13 (by kernel_rfl) (by kernel_rfl) (by kernel_rfl) ?hQr1q13 (Or.inl ⟨?hwr1q13, ?hyr1q13⟩) hS ?hrr1q13
      case hir1q13 => simp only [List.getElem?_toArray, List.getElem?_cons_succ, List.getElem?_cons_zero]; rfl
      case hQr1q13 => exact fun _ _ _ h => h
      case hwr1q13 => rfl
      case hyr1q13 => (intro w hSw; (try dsimp only at hSw); go_simp; (try with_reducible rfl))
      simp only [Act.put, List.setIfInBounds_toArray, List.set_cons_zero, List.set_cons_succ]
      refine wpAnyH_take (i := 14) (oi := ?dqr1q14) (v := ?dvr1q14) ?hir1q14 (by kernel_rfl) (by kernel_rfl) (by kernel_rfl) ?hQr1q14 (Or.inl ⟨?hwr1q14, ?hyr1q14⟩) hS ?hrr1q14
      case hir1q14 => simp only [List.getElem?_toArray, List.getElem?_cons_succ, List.getElem?_cons_zero]; rfl
      case hQr1q14 => exact fun _ _ _ h => h
      case hwr1q14 => rfl
      case hyr1q14 => (intro w hSw; (try dsimp only at hSw); go_simp; (try with_reducible rfl))
      simp only [Act.put, List.setIfInBounds_toArray, List.set_cons_zero, List.set_cons_succ]
      refine wpAnyH_take (i := 15) (oi := ?dqr1q15) (v := ?dvr1q15) ?hir1q15 (by kernel_rfl) (by kernel_rfl) (by kernel_rfl) ?hQr1q15 (Or.inl ⟨?hwr1q15, ?hyr1q15⟩) hS ?hrr1q15
      case hir1q15 => simp only [List.getElem?_toArray, List.getElem?_cons_succ, List.getElem?_cons_zero]; rfl
      case hQr1q15 => exact fun _ _ _ h => h
      case hwr1q15 => rfl
      case hyr1q15 => (intro w hSw; (try dsimp only at hSw); go_simp; (try with_reducible rfl))
      simp only [Act.put, List.setIfInBounds_toArray, List.set_cons_zero, List.set_cons_succ]
      refine wpAnyH_ready (rs := [7]) (by kernel_rfl) (by simp) ?_
      refine AllReadyH.cons (o := ?dqr1q7) ?hir1q7 (fun K hK => ?_) AllReadyH.nil
      case hir1q7 => simp only [List.getElem?_toArray, List.getElem?_cons_succ, List.getElem?_cons_zero]; rfl
      go_simp
      go_at_call 25
      refine cP1.out.mono ?_
      rintro e w'' ⟨rfl, rfl⟩
      have hS2 := hS
      clear hS
      refine hK.out _ _ hS2 (fun hS => ?_)
      clear hS2 hK K
      try simp only [Act.put, List.setIfInBounds_toArray, List.set_cons_zero, List.set_cons_succ]
      refine wpAnyH_ready (rs := [16]) (by kernel_rfl) (by simp) ?_
      refine AllReadyH.cons (o := ?dqr1q16) ?hir1q16 (fun K hK => ?_) AllReadyH.nil
      case hir1q16 => simp only [List.getElem?_toArray, List.getElem?_cons_succ, List.getElem?_cons_zero]; rfl
      go_simp
      go_at_call 25
      refine cP2.out.mono ?_
      rintro e w'' ⟨rfl, rfl⟩
      have hS2 := hS
      clear hS
      refine hK.out _ _ hS2 (fun hS => ?_)
      clear hS2 hK K
      try simp only [Act.put, List.setIfInBounds_toArray, List.set_cons_zero, List.set_cons_succ]
      refine wpAnyH_ready (rs := [17]) (by kernel_rfl) (by simp) ?_
      refine AllReadyH.cons (o := ?dqr1q17) ?hir1q17 (fun K hK => ?_) AllReadyH.nil
      case hir1q17 => simp only [List.getElem?_toArray, List.getElem?_cons_succ, List.getElem?_cons_zero]; rfl
      go_simp
      go_at_call 15
      refine cN.out.mono ?_
      rintro e w7 ⟨a, x, rfl, -, hT, ha, hb⟩
      have T7 := Lib.hid hT
      have B7 : Hid (Below wr.heap.size wr w7) := Below.after (Below.refl wr.heap.size wr).drew hb
      have A7 : Hid (wr.heap.size ≤ a.block) := ha
      have OW7 := Lib.hid (owned_next OW.out B7.out)
      have F7 := Lib.hid (FM.out.after hN'.out B7.out)
      clear ha hT
      have hS2 := (⟨keep_cell hb hS.1, keep_cell hb hS.2⟩ : w7.cell? (ad.add (k * 2)) = some (.int .i64 x1.toInt) ∧ w7.cell? ⟨(ad.add (k * 2)).block, (ad.add (k * 2)).off + 1, none⟩ = some (.int .i64 x2.toInt))
      clear hS
      refine hK.out _ _ hS2 (fun hS => ?_)
      clear hS2 hK K
      try simp only [Act.put, List.setIfInBounds_toArray, List.set_cons_zero, List.set_cons_succ]
      refine wpAnyH_ready (rs := [18]) (by kernel_rfl) (by simp) ?_
      refine AllReadyH.cons (o := ?dqr1q18) ?hir1q18 (fun K hK => ?_) AllReadyH.nil
      case hir1q18 => simp only [List.getElem?_toArray, List.getElem?_cons_succ, List.getElem?_cons_zero]; rfl
      go_simp
      obtain ⟨g7, hg7⟩ : ∃ g, w7.heap.size = g := ⟨_, rfl⟩
      obtain ⟨u7, hu7⟩ : ∃ u, w7.alloc (.cells #[.pointer (some a)] 25) = u := ⟨_, rfl⟩
      rw [hu7, hg7]
      have bl : Below w7.heap.size w7 u7 := hu7 ▸ (Below.refl _ _).alloc (Nat.le_refl _) _
      have R8 : Hid (Row u7 u7.heap.size (some ⟨g7, 0, none⟩) [.pointer (some a)]) := hg7 ▸ hu7 ▸ (Has.new w7 25 #[.pointer (some a)]).row
      have OW8 := Lib.hid (owned_next OW7.out bl)
      have F8 := Lib.hid (F7.out.after hN'.out bl)
      have T8 := Lib.hid (T7.out.after hN'.out bl)
      have B8 := Lib.hid (Below.after B7.out bl)
      have Z8 : Hid (w.heap.size ≤ u7.heap.size) := Nat.le_trans BW.out.size B8.out.size
      clear hu7 hg7
      have hS2 := (⟨keep_cell bl hS.1, keep_cell bl hS.2⟩ : u7.cell? (ad.add (k * 2)) = some (.int .i64 x1.toInt) ∧ u7.cell? ⟨(ad.add (k * 2)).block, (ad.add (k * 2)).off + 1, none⟩ = some (.int .i64 x2.toInt))
      clear hS
      refine hK.out _ _ hS2 (fun hS => ?_)
      clear hS2 hK K
      try simp only [Act.put, List.setIfInBounds_toArray, List.set_cons_zero, List.set_cons_succ]
      refine wpAnyH_ready (rs := [19]) (by kernel_rfl) (by simp) ?_
      refine AllReadyH.cons (o := ?dqr1q19) ?hir1q19 (fun K hK => ?_) AllReadyH.nil
      case hir1q19 => simp only [List.getElem?_toArray, List.getElem?_cons_succ, List.getElem?_cons_zero]; rfl
      refine step_append_row (by rfl) _ _ 30 (by rfl) w.heap.size 25 i0 (.pointer none) 1 8 Try.underlying30 hin hz0 hz1 hz2 rfl (by decide) (.slice A1 k c1) k ((Fm.map AT.ptr).map Value.pointer) (by rfl) OW8.out (some ⟨g7, 0, none⟩) 1 1 [.pointer (some a)] (by rfl) (by simp) (Nat.le_refl _) rfl _ R8.out (by simp [Value.oneCell']) M1.out M2.out Z8.out ?_
      intro v9 w9 ho9 hg9
      have OW9 := Lib.hid ho9
      have G9 := Lib.hid hg9
      have hS2 := (⟨(World.grownBy.cell hg9 hS.1 (by rw [add_block]; exact NR.out OW8.out)), (World.grownBy.cell hg9 hS.2 (by show some (ad.add (k * 2)).block ≠ _; rw [add_block]; exact NR.out OW8.out))⟩ : w9.cell? (ad.add (k * 2)) = some (.int .i64 x1.toInt) ∧ w9.cell? ⟨(ad.add (k * 2)).block, (ad.add (k * 2)).off + 1, none⟩ = some (.int .i64 x2.toInt))
      clear hS
      refine hK.out _ _ hS2 (fun hS => ?_)
      clear hS2 hK K
      try simp only [Act.put, List.setIfInBounds_toArray, List.set_cons_zero, List.set_cons_succ]
      refine wpAnyH_take (i := 20) (oi := ?dqr1q20) (v := ?dvr1q20) ?hir1q20 (by kernel_rfl) (by kernel_rfl) (by kernel_rfl) ?hQr1q20 (Or.inl ⟨?hwr1q20, ?hyr1q20⟩) hS ?hrr1q20
      case hir1q20 => simp only [List.getElem?_toArray, List.getElem?_cons_succ, List.getElem?_cons_zero]; rfl
      case hQr1q20 => exact fun _ _ _ h => h
      case hwr1q20 => rfl
      case hyr1q20 => (intro w hSw; (try dsimp only at hSw); go_simp; (try with_reducible rfl))
      simp only [Act.put, List.setIfInBounds_toArray, List.set_cons_zero, List.set_cons_succ]
      refine wpAnyH_done (by kernel_rfl) ?_ _
      have hfm9 : Fam Nd w9 (Fm ++ [.n a x L R]) (rs ++ [a]) := (F8.out.kept hN'.out OW8.out G9.out).add (T8.out.kept hN'.out OW8.out G9.out) ML.out MR.out
      have hbw9 : Below w.heap.size w w9 := (Below.after BW.out B8.out).grown G9.out Z8.out (fun r e => (OW8.out.lt r e).1)
      have how9 : w9.ownsRow w.heap.size 25 1 v9 (k + 1) (((Fm ++ [AT.n a x L R]).map AT.ptr).map Value.pointer) := by
        rw [List.map_append, List.map_append]
        exact OW9.out
      have HF9 := Lib.hid hfm9
      have HB9 := Lib.hid hbw9
      have HO9 := Lib.hid how9
      clear hS y0 y1 hfm9 hbw9 how9
      go_wp2_with fail
      go_roundw
      case rel => exact ⟨k + 1, Fm ++ [AT.n a x L R], rs ++ [a], hlt, by simp, HO9.out, HF9.out, by rw [List.length_append, HFL.out]; rfl, HB9.out⟩
      case measure => simp [intOf]; omega
    · obtain rfl : k = n := by omega
      have OW := Lib.hid how
      have FM := Lib.hid hfm
      have BW := Lib.hid hbw
      have HFL := Lib.hid hfl
      clear how hfm hfl hbw
      go_wp2_with fail
      go_ret
      exact ⟨_, Fm, rs, rfl, OW.out, FM.out, HFL.out, BW.out⟩
end Go.Proofs.Ythhhkcjggfdagaa
