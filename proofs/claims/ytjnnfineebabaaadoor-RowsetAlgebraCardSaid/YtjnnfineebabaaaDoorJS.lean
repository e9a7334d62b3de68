/- The contract of squeezed of package rowset, and of Sort. -/
import Derived.Test.YtjnnfineebabaaaDoorL4Row
import Derived.Test.YtjnnfineebabaaaDoorL1Num
import Derived.Test.YtjnnfineebabaaaDoorGSort
import Derived.Test.YtjnnfineebabaaaDoorL4Seek
import Derived.RegionTactic
import Derived.BigRegion
import Derived.Outline
import Derived.Test.YtjnnfineebabaaaDoorL5Ref
/- Pairs with their codes in memory, three cells each: a block of the call's own that holds just them. -/
namespace Go.Proofs.YtjnnfineebabaaaDoor
open Go.RowKit Go.Proofs.Rowm Go.Proofs.Srt

/-- a pair, with its code -/
abbrev Cd := BitVec 64 × Pr
def flat3 (l : List Cd) : List Value := l.flatMap fun t => [V t.1, K t.2.1, K t.2.2]
abbrev cdV (t : Cd) : Value := .agg #[V t.1, K t.2.1, K t.2.2]
/-- the number by which it stands -/
def cnum (t : Cd) : Nat := t.1.toNat
theorem flat3_cons (x : Cd) (l : List Cd) : flat3 (x :: l) = V x.1 :: K x.2.1 :: K x.2.2 :: flat3 l := rfl
theorem flat3_append (a b : List Cd) : flat3 (a ++ b) = flat3 a ++ flat3 b := by simp [flat3]
theorem flat3_length : ∀ l : List Cd, (flat3 l).length = l.length * 3
  | [] => rfl
  | p :: l => by rw [flat3_cons, List.length_cons, List.length_cons, List.length_cons, flat3_length l, List.length_cons]; omega
theorem flat3_at : ∀ (l : List Cd) (k : Nat) (x : Cd), l[k]? = some x → (flat3 l)[k * 3]? = some (V x.1) ∧ (flat3 l)[k * 3 + 1]? = some (K x.2.1) ∧ (flat3 l)[k * 3 + 2]? = some (K x.2.2)
  | [], k, x, h => by simp at h
  | p :: l, 0, x, h => by
    simp at h; subst h; exact ⟨rfl, rfl, rfl⟩
  | p :: l, k + 1, x, h => by
    have h' := flat3_at l k x (by simpa using h)
    rw [flat3_cons, show (k + 1) * 3 = k * 3 + 1 + 1 + 1 by omega]
    exact ⟨h'.1, h'.2.1, h'.2.2⟩
theorem flat3_set : ∀ (l : List Cd) (k : Nat) (y : Cd), flat3 (l.set k y) = (((flat3 l).set (k * 3) (V y.1)).set (k * 3 + 1) (K y.2.1)).set (k * 3 + 2) (K y.2.2)
  | [], k, y => by simp [flat3]
  | p :: l, 0, y => rfl
  | p :: l, k + 1, y => by
    rw [List.set_cons_succ, flat3_cons, flat3_set l k y, flat3_cons, show (k + 1) * 3 = k * 3 + 1 + 1 + 1 by omega]
    rfl
def Mem (w : World) (g : Nat) (D : List Cd) : Prop := Has w g 74 (flat3 D).toArray
section
variable {w w' : World} {g : Nat} {D : List Cd}
theorem Mem.lt (h : Mem w g D) : g < w.heap.size := Has.lt h
theorem Mem.at_ (h : Mem w g D) {k : Nat} {x : Cd} (hx : D[k]? = some x) : w.cell? ⟨g, k * 3, none⟩ = some (V x.1) ∧ w.cell? ⟨g, k * 3 + 1, none⟩ = some (K x.2.1) ∧ w.cell? ⟨g, k * 3 + 2, none⟩ = some (K x.2.2) := by
  obtain ⟨h1, h2, h3⟩ := flat3_at D k x hx
  exact ⟨(Has.cell h _).trans (by simpa using h1), (Has.cell h _).trans (by simpa using h2), (Has.cell h _).trans (by simpa using h3)⟩
theorem Mem.free (h : Mem w g D) (i : Nat) : w.frozen? ⟨g, i, none⟩ = false := Has.free h i
theorem Mem.drewN (h : Mem w g D) (n : Nat) : Mem (w.drewN n) g D := h
theorem Mem.drew (h : Mem w g D) : Mem w.drew g D := h
theorem Mem.next (h : Mem w g D) (hb : Below w.heap.size w w') : Mem w' g D := Has.next h hb
/-- one of them becomes another one -/
def set3 (w : World) (g k : Nat) (y : Cd) : World := ((w.setCell ⟨g, k * 3, none⟩ (V y.1)).setCell ⟨g, k * 3 + 1, none⟩ (K y.2.1)).setCell ⟨g, k * 3 + 2, none⟩ (K y.2.2)
theorem Mem.set (h : Mem w g D) (k : Nat) (y : Cd) : Mem (set3 w g k y) g (D.set k y) := by
  have := ((Has.set h (k * 3) (V y.1)).set (k * 3 + 1) (K y.2.1)).set (k * 3 + 2) (K y.2.2)
  unfold Mem set3
  rw [flat3_set]
  simpa using this
theorem below_set3 {B : Nat} (h : Below B w w') (hg : B ≤ g) (k : Nat) (y : Cd) : Below B w (set3 w' g k y) := ((h.setCell hg _).setCell hg _).setCell hg _
end
/-- two change places -/
theorem swap_list {P Q R : List Cd} {x y : Cd} {i j : Nat} (hi : P.length = i) (hj : P.length + 1 + Q.length = j) : ((P ++ x :: (Q ++ y :: R)).set i y).set j x = P ++ y :: (Q ++ x :: R) := by
  subst hi hj
  rw [List.set_append_right _ _ (Nat.le_refl _), Nat.sub_self, List.set_cons_zero, List.set_append_right _ _ (by omega), show P.length + 1 + Q.length - P.length = Q.length + 1 by omega, List.set_cons_succ, List.set_append_right _ _ (Nat.le_refl _), Nat.sub_self, List.set_cons_zero]
theorem swap_list2 {P Q R : List Cd} {x y : Cd} {i j : Nat} (hi : P.length = i) (hj : P.length + 1 + Q.length = j) : ((P ++ x :: (Q ++ y :: R)).set j x).set i y = P ++ y :: (Q ++ x :: R) := by
  rw [List.set_comm _ _ (by omega), swap_list hi hj]
theorem at_mid {P R : List Cd} {x : Cd} {i : Nat} (hi : P.length = i) : (P ++ x :: R)[i]? = some x := by
  subst hi
  rw [List.getElem?_append_right (Nat.le_refl _), Nat.sub_self]; rfl
theorem at_far {P Q R : List Cd} {x y : Cd} {j : Nat} (hj : P.length + 1 + Q.length = j) : (P ++ x :: (Q ++ y :: R))[j]? = some y := by
  subst hj
  rw [List.getElem?_append_right (by omega), show P.length + 1 + Q.length - P.length = Q.length + 1 by omega, List.getElem?_cons_succ, List.getElem?_append_right (Nat.le_refl _), Nat.sub_self]; rfl
theorem size_coded (W : World) : (sizeOf 74).run Tryd.prog W = .ok 3 W := by kernel_rfl
end Go.Proofs.YtjnnfineebabaaaDoor
/- The library's insertion sort, at pairs with their codes. -/
namespace Go.Proofs.YtjnnfineebabaaaDoor
open Go.RowKit Go.Shelf Go.Proofs.Rowm Go.Proofs.Srt

abbrev cmpV : Value := .func (.func 50) #[] #[]
set_option maxHeartbeats 400000 in
/-- how two stand -/
theorem cmp3_any (x y : Cd) (w : World) : Calls Tryd.prog 50 #[cdV x, cdV y] w fun e w' => e = .returned (.int .i64 (Ordm.cmp x.1 y.1)) ∧ Below w.heap.size w w' := by
  go_enter Tryd.func50, Tryd.ntmps50
  go_wp2_with (go_at_call 51; refine (cmp_any _ _ _).mono ?_; rintro e w' ⟨rfl, rfl⟩)
  go_ret
  exact ⟨rfl, ((Below.refl _ _).alloc (Nat.le_refl _) _).alloc (by simp) _⟩
theorem cmp3_is {x y : Cd} {t : Int} (h : Ordm.cmp x.1 y.1 = t) (w : World) : Calls Tryd.prog 50 #[cdV x, cdV y] w fun e w' => e = .returned (.int .i64 t) ∧ Below w.heap.size w w' := h ▸ cmp3_any x y w
theorem cmp_neg (x y : Cd) : decide (Ordm.cmp x.1 y.1 < 0) = ltF cnum x y := by
  unfold ltF cnum
  rw [decide_eq_decide]
  rcases Ordm.cmp_cases x.1 y.1 with ⟨h, e⟩ | ⟨h, e⟩ | ⟨h, e⟩
  · rw [e]; exact ⟨fun _ => h, fun _ => by omega⟩
  · rw [e]; exact ⟨fun h' => by omega, fun h' => by omega⟩
  · rw [e, h]; exact ⟨fun h' => by omega, fun h' => by omega⟩

theorem two_next {W x y : World} {g i j : Nat} {a b : Cd} (h : x.cell? ⟨g, i * 3, none⟩ = some (V a.1) ∧ x.cell? ⟨g, i * 3 + 1, none⟩ = some (K a.2.1) ∧ x.cell? ⟨g, i * 3 + 2, none⟩ = some (K a.2.2) ∧ x.cell? ⟨g, j * 3, none⟩ = some (V b.1) ∧ x.cell? ⟨g, j * 3 + 1, none⟩ = some (K b.2.1) ∧ x.cell? ⟨g, j * 3 + 2, none⟩ = some (K b.2.2) ∧ Below W.heap.size W x) (hb : Below x.heap.size x y) :
    y.cell? ⟨g, i * 3, none⟩ = some (V a.1) ∧ y.cell? ⟨g, i * 3 + 1, none⟩ = some (K a.2.1) ∧ y.cell? ⟨g, i * 3 + 2, none⟩ = some (K a.2.2) ∧ y.cell? ⟨g, j * 3, none⟩ = some (V b.1) ∧ y.cell? ⟨g, j * 3 + 1, none⟩ = some (K b.2.1) ∧ y.cell? ⟨g, j * 3 + 2, none⟩ = some (K b.2.2) ∧ Below W.heap.size W y := by
  obtain ⟨h1, h2, h3, h4, h5, h6, h7⟩ := h
  exact ⟨keep_cell hb h1, keep_cell hb h2, keep_cell hb h3, keep_cell hb h4, keep_cell hb h5, keep_cell hb h6, Below.after h7 hb⟩

theorem far3 {g i k : Nat} (h : i ≠ k) : (∀ (w : World) u, (w.setCell ⟨g, i * 3, none⟩ u).cell? ⟨g, k * 3, none⟩ = w.cell? ⟨g, k * 3, none⟩) ∧ (∀ (w : World) u, (w.setCell ⟨g, i * 3 + 1, none⟩ u).cell? ⟨g, k * 3 + 1, none⟩ = w.cell? ⟨g, k * 3 + 1, none⟩) ∧ (∀ (w : World) u, (w.setCell ⟨g, i * 3 + 2, none⟩ u).cell? ⟨g, k * 3 + 2, none⟩ = w.cell? ⟨g, k * 3 + 2, none⟩) :=
  ⟨fun w u => World.cell?_setCell_other w _ _ u (fun e => h (by simp at e)), fun w u => World.cell?_setCell_other w _ _ u (fun e => h (by simp at e)), fun w u => World.cell?_setCell_other w _ _ u (fun e => h (by simp at e))⟩

set_option maxRecDepth 100000 in
set_option maxHeartbeats 4000000 in
theorem ins_any (g : Nat) (P L R : List Cd) (a b n : Nat) (ha : P.length = a) (hb : a + L.length = b) (hn : (P ++ (L ++ R)).length = n) (h9 : n ≤ 1000) (w : World) (h : Mem w g (P ++ (L ++ R))) :
    Calls Tryd.prog 83 #[.slice (some ⟨g, 0, none⟩) n n, .int .i64 a, .int .i64 b, cmpV] w fun e w' => e = .returned (.tuple #[]) ∧ Mem w' g (P ++ (isort cnum L ++ R)) ∧ Below g w w' := by
  simp only [List.length_append] at hn
  have h' := Lib.hid h
  have ha' := Lib.hid ha
  have hb' := Lib.hid hb
  have hn' := Lib.hid hn
  have ba : a ≤ 1000 := by omega
  have bb : b ≤ 1000 := by omega
  have bl : L.length ≤ 1000 := by omega
  clear h ha hb hn
  go_enter Tryd.func83, Tryd.ntmps83
  go_wp2
  go_loopw [8] (fun v wr => ∃ i k : Nat, Hid (i = a + k) ∧ 1 ≤ k ∧ k ≤ L.length + 1 ∧ v = .int .i64 (i : Int) ∧ Mem wr g (P ++ (isort cnum (L.take k) ++ (L.drop k ++ R))) ∧ Below g w wr) (fun v _ => b + 1 - (intOf v).toNat)
  case atStart => exact ⟨a + 1, 1, Lib.hid rfl, Nat.le_refl _, by omega, by go_num, by rw [isort_one, ← List.append_assoc (L.take 1), List.take_append_drop]; exact h'.out, Below.refl _ _⟩
  case round =>
    obtain ⟨i, k, hik, hk1, hk, rfl, hm, hbw⟩ := hrel
    have m1 := Lib.hid hm
    have b1 := Lib.hid hbw
    have bi : i ≤ 2001 := by have := hik.out; omega
    clear hm hbw
    obtain ⟨wo, rfl⟩ : ∃ wo : World, wo = wr := ⟨_, rfl⟩
    by_cases hlt : k < L.length
    · have hltz : (i : Int) < (b : Int) := by have := hb'.out; have := hik.out; omega
      obtain ⟨y, hy⟩ : ∃ y, L[k] = y := ⟨_, rfl⟩
      obtain ⟨S, hS⟩ : ∃ S, isort cnum (L.take k) = S := ⟨_, rfl⟩
      obtain ⟨T, hT⟩ : ∃ T, L.drop (k + 1) ++ R = T := ⟨_, rfl⟩
      have hSl : S.length = k := by rw [← hS, (isort_holds cnum _).2.2, List.length_take]; omega
      have hSu : Hid (Up cnum S) := by show Up cnum S; rw [← hS]; exact (isort_holds cnum _).1
      have hdr : L.drop k ++ R = y :: T := by rw [← hT, ← hy, List.drop_eq_getElem_cons hlt]; rfl
      have hend : Hid (∀ S1 S2, S = S1 ++ S2 → (∀ u ∈ S1, ltF cnum y u = false) → (∀ u ∈ S2, ltF cnum y u = true) → P ++ (S1 ++ y :: (S2 ++ T)) = P ++ (isort cnum (L.take (k + 1)) ++ (L.drop (k + 1) ++ R))) := by
        show ∀ S1 S2, _
        intro S1 S2 e e1 e2
        rw [List.take_succ_eq_append_getElem hlt, isort_snoc, hS, hy, e, mrg_last _ _ _ _ e1 e2, hT]; simp
      have hlen : Hid ((P ++ (S ++ y :: ([] ++ T))).length = n) := by
        show _ = _
        have := hn'.out
        have e2 := congrArg List.length hdr
        simp only [List.length_append, List.length_cons, List.length_drop, List.length_nil] at e2 ⊢
        omega
      rw [hS, hdr] at m1
      have hsk := Lib.hid hSl
      clear hy hS hT hdr hSl
      go_wp2
      go_loopw [9] (fun v wr2 => ∃ j S1 S2, Hid (j = a + S1.length) ∧ j ≤ i ∧ Hid (S = S1 ++ S2) ∧ Hid (∀ u ∈ S2, ltF cnum y u = true) ∧ Hid ((P ++ (S1 ++ y :: (S2 ++ T))).length = n) ∧ v = .int .i64 (j : Int) ∧ Mem wr2 g (P ++ (S1 ++ y :: (S2 ++ T))) ∧ Below g w wr2) (fun v _ => (intOf v).toNat)
      case atStart => exact ⟨i, S, [], Lib.hid (by rw [hsk.out]; exact hik.out), Nat.le_refl _, Lib.hid (List.append_nil _).symm, Lib.hid (fun u hu => by simp at hu), hlen, rfl, m1.out, b1.out⟩
      case round =>
        obtain ⟨j, S1, S2, hj, hji, hS12, hS2, hll, rfl, hm, hbw⟩ := hrel
        have m2 := Lib.hid hm
        have b2 := Lib.hid hbw
        clear hm hbw
        rcases List.eq_nil_or_concat S1 with e0 | ⟨S1', x, e0⟩
        · subst e0
          have hja : j = a := hj.out
          subst hja
          have m3 := Lib.hid m2.out
          rw [hend.out [] S2 hS12.out (fun u hu => by simp at hu) hS2.out] at m3
          go_wp2_with fail
          go_quiet (fail)
          go_wp2
          go_roundw
          case rel => exact ⟨i + 1, k + 1, Lib.hid (by rw [hik.out]; omega), by omega, by omega, by go_num, m3.out.drewN _, below_drewN b2.out _⟩
          case measure => simp [intOf]; omega
        · rw [List.concat_eq_append] at e0
          subst e0
          obtain ⟨p, hp⟩ : ∃ p, a + S1'.length = p := ⟨_, rfl⟩
          have hjp : j = p + 1 := by have := hj.out; simp at this; omega
          have hxy : P ++ (S1' ++ [x] ++ y :: (S2 ++ T)) = P ++ S1' ++ x :: ([] ++ y :: (S2 ++ T)) := by simp
          have hll' := hll.out
          have m2' := Lib.hid m2.out
          rw [hxy] at m2' hll'
          obtain ⟨D, hD⟩ : ∃ D, P ++ S1' ++ x :: ([] ++ y :: (S2 ++ T)) = D := ⟨_, rfl⟩
          have hPp : (P ++ S1').length = p := by rw [List.length_append, ha'.out]; exact hp
          have hDx : D[p]? = some x := by rw [← hD]; exact at_mid hPp
          have hDy : D[j]? = some y := by rw [← hD]; exact at_far (by rw [hPp, hjp]; rfl)
          have hsw : Hid ((D.set j x).set p y = P ++ (S1' ++ y :: ((x :: S2) ++ T))) := by
            show _ = _
            rw [← hD, swap_list2 hPp (by rw [hPp, hjp]; rfl)]; simp
          rw [hD] at m2' hll'
          have bjn : j < n := by have := (List.getElem?_eq_some_iff.1 hDy).1; omega
          obtain ⟨c1, c2, c3⟩ := m2'.out.at_ hDy
          obtain ⟨c4, c5, c6⟩ := m2'.out.at_ hDx
          obtain ⟨t, ht⟩ : ∃ t, Ordm.cmp y.1 x.1 = t := ⟨_, rfl⟩
          have hjp' := Lib.hid hjp
          have hp' := Lib.hid hp
          have hja : (a : Int) < (j : Int) := by omega
          have ht' := Lib.hid ht
          have hlD := Lib.hid hll'
          have hDx' := Lib.hid hDx
          have hDy' := Lib.hid hDy
          have e2 : (p : Int) < (n : Int) := by omega
          have e1 : IntKind.i64.wrap ((j : Int) - 1) = (p : Int) := by rw [show (j : Int) - 1 = p by omega]; exact IntWalk.i64_in _ (by omega)
          clear hxy hp hDx hDy ht hD hll' hPp hjp
          by_cases hcm : ltF cnum y x = true
          · have htn : t < 0 := by have := cmp_neg y x; rw [hcm, ht'.out] at this; simpa using this
            have htd : decide (t < 0) = true := by simpa using htn
            clear htn
            go_wp2_with fail
            go_region_held3 (fun w' => w'.cell? ⟨g, j * 3, none⟩ = some (V y.1) ∧ w'.cell? ⟨g, j * 3 + 1, none⟩ = some (K y.2.1) ∧ w'.cell? ⟨g, j * 3 + 2, none⟩ = some (K y.2.2) ∧ w'.cell? ⟨g, p * 3, none⟩ = some (V x.1) ∧ w'.cell? ⟨g, p * 3 + 1, none⟩ = some (K x.2.1) ∧ w'.cell? ⟨g, p * 3 + 2, none⟩ = some (K x.2.2) ∧ Below wr.heap.size wr w') (first | exact ⟨c1, c2, c3, c4, c5, c6, (Below.refl _ _).drew⟩ | assumption)
              ((go_at_call 50; (with_reducible refine (cmp3_is (x := y) (y := x) ht'.out _).mono ?_); rintro e w' ⟨rfl, hb⟩; have hS' := two_next (W := wr) (by assumption) hb; clear hb))
            go_wp2
            clear c1 c2 c3 c4 c5 c6
            have b3 := Lib.hid hS'.2.2.2.2.2.2
            clear hS'
            obtain ⟨W, hW⟩ : ∃ W, w' = W := ⟨_, rfl⟩
            rw [hW] at b3 ⊢
            have m3 := Lib.hid (m2'.out.next b3.out)
            have bg : Hid (Below g w W) := by show Below g w W; exact b2.out.trans (b3.out.mono (Nat.le_of_lt m2'.out.lt))
            obtain ⟨c1, c2, c3⟩ := m3.out.at_ hDy'.out
            obtain ⟨c4, c5, c6⟩ := m3.out.at_ hDx'.out
            have f1 := m3.out.free (j * 3)
            have f2 := m3.out.free (j * 3 + 1)
            have f3 := m3.out.free (j * 3 + 2)
            have f4 := m3.out.free (p * 3)
            have f5 := m3.out.free (p * 3 + 1)
            have f6 := m3.out.free (p * 3 + 2)
            obtain ⟨q1, q2, q3⟩ := far3 (g := g) (i := j) (k := p) (by have := hjp'.out; omega)
            clear hW
            go_region
            clear q1 q2 q3 f1 f2 f3 f4 f5 f6 c1 c2 c3 c4 c5 c6
            have m4 := Lib.hid ((m3.out.set j x).set p y).drew
            rw [hsw.out] at m4
            have b4 := Lib.hid (below_set3 (below_set3 bg.out (Nat.le_refl _) j x) (Nat.le_refl _) p y).drew
            go_wp2
            go_roundw
            have hS2n : Hid (∀ u ∈ x :: S2, ltF cnum y u = true) := by
              show ∀ u ∈ x :: S2, ltF cnum y u = true
              intro u hu
              rcases List.mem_cons.1 hu with hu | hu
              · rw [hu]; exact hcm
              · exact hS2.out u hu
            case rel => exact ⟨p, S1', x :: S2, Lib.hid hp'.out.symm, by have := hjp'.out; omega, Lib.hid (by rw [hS12.out]; simp), hS2n, Lib.hid (by rw [← hsw.out, List.length_set, List.length_set]; exact hlD.out), rfl, m4.out, b4.out⟩
            case measure => have := hjp'.out; simp [intOf]; omega
          · have htn : ¬ t < 0 := fun h => hcm (by have := cmp_neg y x; rw [ht'.out] at this; rw [← this]; simpa using h)
            have htd : decide (t < 0) = false := by simpa using htn
            have m3 := Lib.hid m2.out
            rw [hend.out (S1' ++ [x]) S2 hS12.out (fun u hu => by
              have hup := up_left cnum (hS12.out ▸ hSu.out)
              have hcx : ¬ cnum y < cnum x := fun h => hcm (by unfold ltF; simpa using h)
              rcases List.mem_append.1 hu with hu | hu
              · have := up_cross cnum hup u hu x (by simp)
                unfold ltF; simp; omega
              · simp at hu; subst hu; unfold ltF; simpa using hcx) hS2.out] at m3
            clear htn
            go_wp2_with fail
            go_region_held3 (fun w' => w'.cell? ⟨g, j * 3, none⟩ = some (V y.1) ∧ w'.cell? ⟨g, j * 3 + 1, none⟩ = some (K y.2.1) ∧ w'.cell? ⟨g, j * 3 + 2, none⟩ = some (K y.2.2) ∧ w'.cell? ⟨g, p * 3, none⟩ = some (V x.1) ∧ w'.cell? ⟨g, p * 3 + 1, none⟩ = some (K x.2.1) ∧ w'.cell? ⟨g, p * 3 + 2, none⟩ = some (K x.2.2) ∧ Below wr.heap.size wr w') (first | exact ⟨c1, c2, c3, c4, c5, c6, (Below.refl _ _).drew⟩ | assumption)
              ((go_at_call 50; (with_reducible refine (cmp3_is (x := y) (y := x) ht'.out _).mono ?_); rintro e w' ⟨rfl, hb⟩; have hS' := two_next (W := wr) (by assumption) hb; clear hb))
            go_wp2
            have b3 := Lib.hid hS'.2.2.2.2.2.2
            clear hS'
            go_roundw
            case rel => exact ⟨i + 1, k + 1, Lib.hid (by rw [hik.out]; omega), by omega, by omega, by go_num, m3.out.next b3.out, b2.out.trans (b3.out.mono (Nat.le_of_lt m2.out.lt))⟩
            case measure => simp [intOf]; omega
    · have hge : ¬ (i : Int) < (b : Int) := by have := hb'.out; have := hik.out; omega
      have m3 := Lib.hid m1.out
      rw [List.take_of_length_le (by omega), List.drop_of_length_le (by omega), List.nil_append] at m3
      go_wp2
      go_end0
      exact ⟨rfl, m3.out, b1.out⟩
end Go.Proofs.YtjnnfineebabaaaDoor
/- The library's exchange of two ranges, and its turn of two neighbouring ones, at pairs with their codes. -/
namespace Go.Proofs.YtjnnfineebabaaaDoor
open Go.RowKit Go.Shelf Go.Proofs.Rowm Go.Proofs.Srt

set_option maxRecDepth 100000 in
set_option maxHeartbeats 4000000 in
theorem swr_any (g : Nat) (P A Q B R : List Cd) (a b m n : Nat) (ha : P.length = a) (hA : A.length = m) (hB : B.length = m) (hb : a + m + Q.length = b) (hn : (P ++ (A ++ (Q ++ (B ++ R)))).length = n) (h9 : n ≤ 1000) (w : World) (h : Mem w g (P ++ (A ++ (Q ++ (B ++ R))))) :
    Calls Tryd.prog 100 #[.slice (some ⟨g, 0, none⟩) n n, .int .i64 a, .int .i64 b, .int .i64 m, cmpV] w fun e w' => e = .returned (.tuple #[]) ∧ Mem w' g (P ++ (B ++ (Q ++ (A ++ R)))) ∧ Below g w w' := by
  have hn1 := hn
  simp only [List.length_append] at hn1
  have h' := Lib.hid h
  have ha' := Lib.hid ha
  have hb' := Lib.hid hb
  have hn' := Lib.hid hn
  have hA' := Lib.hid hA
  have hB' := Lib.hid hB
  have ba : a ≤ 1000 := by omega
  have bb : b ≤ 1000 := by omega
  have bm : m ≤ 1000 := by omega
  have bam : a + m ≤ n := by omega
  have bbm : b + m ≤ n := by omega
  clear h ha hb hn hA hB hn1
  go_enter Tryd.func100, Tryd.ntmps100
  go_wp2
  go_loopw [10] (fun v wr => ∃ k A1 A2 B1 B2, A1.length = k ∧ B1.length = k ∧ Hid (A = A1 ++ A2) ∧ Hid (B = B1 ++ B2) ∧ k ≤ m ∧ v = .int .i64 (k : Int) ∧ Mem wr g (P ++ B1 ++ (A2 ++ (Q ++ (A1 ++ (B2 ++ R))))) ∧ Below g w wr) (fun v _ => m - (intOf v).toNat)
  case atStart => exact ⟨0, [], A, [], B, rfl, rfl, Lib.hid rfl, Lib.hid rfl, Nat.zero_le _, rfl, by rw [List.append_nil]; exact h'.out, Below.refl _ _⟩
  case round =>
    obtain ⟨k, A1, A2, B1, B2, hA1, hB1, hAA, hBB, hkm, rfl, hm, hbw⟩ := hrel
    have m1 := Lib.hid hm
    have b1 := Lib.hid hbw
    have k1 := Lib.hid hA1
    have k2 := Lib.hid hB1
    clear hm hbw hA1 hB1
    by_cases hlt : k < m
    · match A2, B2, hAA, hBB, m1 with
      | [], _, hAA, _, _ => exact absurd (congrArg List.length hAA.out) (by have := hA'.out; have := k1.out; simp; omega)
      | _ :: _, [], _, hBB, _ => exact absurd (congrArg List.length hBB.out) (by have := hB'.out; have := k2.out; simp; omega)
      | x :: A2, y :: B2, hAA, hBB, m1 =>
        obtain ⟨i, hi⟩ : ∃ i, a + k = i := ⟨_, rfl⟩
        obtain ⟨j, hj⟩ : ∃ j, b + k = j := ⟨_, rfl⟩
        have hxy : P ++ B1 ++ (x :: A2 ++ (Q ++ (A1 ++ (y :: B2 ++ R)))) = P ++ B1 ++ x :: ((A2 ++ Q ++ A1) ++ y :: (B2 ++ R)) := by simp
        have m2 := m1.out
        rw [hxy] at m2
        obtain ⟨D, hD⟩ : ∃ D, P ++ B1 ++ x :: ((A2 ++ Q ++ A1) ++ y :: (B2 ++ R)) = D := ⟨_, rfl⟩
        have hPp : (P ++ B1).length = i := by rw [List.length_append, ha'.out, k2.out]; exact hi
        have hPq : (P ++ B1).length + 1 + (A2 ++ Q ++ A1).length = j := by
          have e1 := congrArg List.length hAA.out
          have := hb'.out
          have := hA'.out
          have := k1.out
          simp only [List.length_append, List.length_cons] at e1 ⊢
          rw [List.length_append] at hPp
          omega
        have hDx : D[i]? = some x := by rw [← hD]; exact at_mid hPp
        have hDy : D[j]? = some y := by rw [← hD]; exact at_far hPq
        have hsw : Hid ((D.set i y).set j x = P ++ (B1 ++ [y]) ++ (A2 ++ (Q ++ ((A1 ++ [x]) ++ (B2 ++ R))))) := by
          show _ = _
          rw [← hD, swap_list hPp hPq]; simp
        rw [hD] at m2
        have m2' := Lib.hid m2
        have bjn : j < n := by omega
        have bin : i < n := by omega
        have hij : i ≠ j := by have := hb'.out; omega
        obtain ⟨c1, c2, c3⟩ := m2'.out.at_ hDx
        obtain ⟨c4, c5, c6⟩ := m2'.out.at_ hDy
        have f1 := m2'.out.free (i * 3)
        have f2 := m2'.out.free (i * 3 + 1)
        have f3 := m2'.out.free (i * 3 + 2)
        have f4 := m2'.out.free (j * 3)
        have f5 := m2'.out.free (j * 3 + 1)
        have f6 := m2'.out.free (j * 3 + 2)
        obtain ⟨q1, q2, q3⟩ := far3 (g := g) hij
        have u1 : (i : Int) < (n : Int) := by omega
        have u2 : (j : Int) < (n : Int) := by omega
        have e1 : (a : Int) + (k : Int) = (i : Int) := by omega
        have e2 : (b : Int) + (k : Int) = (j : Int) := by omega
        have e3 : IntKind.i64.wrap (i : Int) = (i : Int) := IntWalk.i64_in _ (by omega)
        have e4 : IntKind.i64.wrap (j : Int) = (j : Int) := IntWalk.i64_in _ (by omega)
        clear hxy hi hj hD hPp hPq hDx hDy m2
        go_wp2
        go_region
        clear q1 q2 q3 f1 f2 f3 f4 f5 f6 c1 c2 c3 c4 c5 c6 e1 e2 e3 e4
        have m4 := Lib.hid ((m2'.out.set i y).set j x).drew
        rw [hsw.out] at m4
        have b4 := Lib.hid (below_set3 (below_set3 b1.out (Nat.le_refl _) i y) (Nat.le_refl _) j x).drew
        go_wp2
        go_roundw
        case rel => exact ⟨k + 1, A1 ++ [x], A2, B1 ++ [y], B2, by rw [List.length_append, k1.out]; rfl, by rw [List.length_append, k2.out]; rfl, Lib.hid (by rw [hAA.out]; simp), Lib.hid (by rw [hBB.out]; simp), by omega, by go_num, m4.out, b4.out⟩
        case measure => simp [intOf]; omega
    · have e1 := congrArg List.length hAA.out
      have e2 := congrArg List.length hBB.out
      have e3 := hA'.out
      have e4 := hB'.out
      have e5 := k1.out
      have e6 := k2.out
      rw [List.length_append] at e1 e2
      obtain rfl := List.eq_nil_of_length_eq_zero (l := A2) (by omega)
      obtain rfl := List.eq_nil_of_length_eq_zero (l := B2) (by omega)
      clear e1 e2 e3 e4 e5 e6
      have hgo : Hid (P ++ B1 ++ ([] ++ (Q ++ (A1 ++ ([] ++ R)))) = P ++ (B ++ (Q ++ (A ++ R)))) := by show _ = _; rw [hAA.out, hBB.out]; simp
      have m2 := Lib.hid (hgo.out ▸ m1.out)
      go_wp2
      go_end0
      exact ⟨rfl, m2.out, b1.out⟩
end Go.Proofs.YtjnnfineebabaaaDoor
/- The library's turn of two neighbouring ranges, at pairs with their codes. -/
namespace Go.Proofs.YtjnnfineebabaaaDoor
open Go.RowKit Go.Shelf Go.Proofs.Rowm Go.Proofs.Srt

set_option maxRecDepth 100000 in
set_option maxHeartbeats 4000000 in
theorem rot_any (g : Nat) (P X Y R : List Cd) (a m b n : Nat) (ha : P.length = a) (hX : a + X.length = m) (hY : m + Y.length = b) (x1 : 1 ≤ X.length) (y1 : 1 ≤ Y.length) (hn : (P ++ (X ++ (Y ++ R))).length = n) (h9 : n ≤ 1000) (w : World) (h : Mem w g (P ++ (X ++ (Y ++ R)))) :
    Calls Tryd.prog 93 #[.slice (some ⟨g, 0, none⟩) n n, .int .i64 a, .int .i64 m, .int .i64 b, cmpV] w fun e w' => e = .returned (.tuple #[]) ∧ Mem w' g (P ++ (Y ++ (X ++ R))) ∧ Below g w w' := by
  have hn1 := hn
  simp only [List.length_append] at hn1
  obtain ⟨x0, hx0⟩ : ∃ x0, X.length = x0 := ⟨_, rfl⟩
  obtain ⟨y0, hy0⟩ : ∃ y0, Y.length = y0 := ⟨_, rfl⟩
  rw [hx0] at hX x1 hn1
  rw [hy0] at hY y1 hn1
  have h' := Lib.hid h
  have ha' := Lib.hid ha
  have hn' := Lib.hid hn
  have hx' := Lib.hid hx0
  have hy' := Lib.hid hy0
  have bn : m + y0 ≤ n := by omega
  have d1 : (m : Int) - (a : Int) = (x0 : Int) := by omega
  have d2 : (b : Int) - (m : Int) = (y0 : Int) := by omega
  have bx : x0 ≤ 1000 := by omega
  have bxm : x0 ≤ m := by omega
  have by1 : y0 ≤ 1000 := by omega
  have bm : m ≤ 1000 := by omega
  have bb : b ≤ 1000 := by omega
  have ba : a ≤ 1000 := by omega
  have hXm := Lib.hid hX
  clear h ha hn hX hY hn1 hx0 hy0
  go_enter Tryd.func93, Tryd.ntmps93
  go_wp2
  go_loopw [10, 11] (fun v u wr => ∃ i j P' X' Y' R', X'.length = i ∧ Y'.length = j ∧ 1 ≤ i ∧ 1 ≤ j ∧ P'.length + i = m ∧ i ≤ m ∧ m + j ≤ n ∧ Hid ((P' ++ (X' ++ (Y' ++ R'))).length = n) ∧ Hid (P' ++ (Y' ++ (X' ++ R')) = P ++ (Y ++ (X ++ R))) ∧ v = .int .i64 (i : Int) ∧ u = .int .i64 (j : Int) ∧ Mem wr g (P' ++ (X' ++ (Y' ++ R'))) ∧ Below g w wr) (fun v u _ => (intOf v).toNat + (intOf u).toNat)
  case atStart => exact ⟨x0, y0, P, X, Y, R, hx'.out, hy'.out, x1, y1, by rw [ha'.out]; exact hXm.out, by omega, bn, hn', Lib.hid rfl, rfl, rfl, h'.out, Below.refl _ _⟩
  case round =>
    clear d1 d2
    obtain ⟨i, j, P', X', Y', R', hXi, hYj, i1, j1, hPm, him, hjm, hln, hgo, rfl, rfl, hm, hbw⟩ := hrel
    obtain ⟨p, hp⟩ : ∃ p, P'.length = p := ⟨_, rfl⟩
    rw [hp] at hPm
    have m1 := Lib.hid hm
    have b1 := Lib.hid hbw
    have k1 := Lib.hid hXi
    have k2 := Lib.hid hYj
    have kp := Lib.hid hp
    have e1 : (m : Int) - (i : Int) = (p : Int) := by omega
    clear hm hbw hXi hYj hp
    by_cases hlt : j < i
    · have hne : ((i : Int) != (j : Int)) = true := by simp; omega
      have hgt : decide ((j : Int) < (i : Int)) = true := by simp; omega
      obtain ⟨X1, hX1⟩ : ∃ X1, X'.take j = X1 := ⟨_, rfl⟩
      obtain ⟨X2, hX2⟩ : ∃ X2, X'.drop j = X2 := ⟨_, rfl⟩
      have hXX : X' = X1 ++ X2 := by rw [← hX1, ← hX2, List.take_append_drop]
      have l1 : X1.length = j := by rw [← hX1, List.length_take, k1.out]; omega
      have l2 : X2.length = i - j := by rw [← hX2, List.length_drop, k1.out]
      have m2 := m1.out
      have ln2 := hln.out
      have e5 : P' ++ (X' ++ (Y' ++ R')) = P' ++ (X1 ++ (X2 ++ (Y' ++ R'))) := by rw [hXX]; simp
      rw [e5] at m2 ln2
      have hc := Lib.hid (swr_any g P' X1 X2 Y' R' p m j n kp.out l1 k2.out (by rw [l2]; omega) ln2 h9 _ m2)
      have kX := Lib.hid hXX
      have kl1 := Lib.hid l1
      have kl2 := Lib.hid l2
      obtain ⟨q, hq⟩ : ∃ q, i = j + q := ⟨i - j, by omega⟩
      have e2 : (i : Int) - (j : Int) = (q : Int) := by omega
      have hq' := Lib.hid hq
      clear hq hX1 hX2 hXX l1 l2 m2 ln2 e5
      go_wp2_with fail
      (with_reducible refine hc.out.mono ?_)
      rintro e w2 ⟨rfl, hm2, hb2⟩
      have m3 := Lib.hid hm2
      have b3 := Lib.hid (b1.out.trans hb2)
      clear hm2 hb2 hc
      go_wp2
      go_roundw
      case rel => have := hq'.out; exact ⟨q, j, P' ++ Y', X2, X1, R', by rw [kl2.out]; omega, kl1.out, by omega, j1, by rw [List.length_append, kp.out, k2.out]; omega, by omega, hjm, Lib.hid (by have e6 := hln.out; rw [kX.out] at e6; simp only [List.length_append] at e6 ⊢; omega), Lib.hid (by rw [← hgo.out, kX.out]; simp), rfl, rfl, by simpa using m3.out, b3.out⟩
      case measure => have := hq'.out; simp [intOf]; omega
    · by_cases heq : i = j
      · subst heq
        have hc := Lib.hid (swr_any g P' X' [] Y' R' p m i n kp.out k1.out k2.out (by simpa using hPm) hln.out h9 _ m1.out)
        go_wp2_with fail
        (with_reducible refine hc.out.mono ?_)
        rintro e w2 ⟨rfl, hm2, hb2⟩
        have m3 := Lib.hid hm2
        have b3 := Lib.hid (b1.out.trans hb2)
        clear hm2 hb2 hc
        go_wp2
        go_end0
        exact ⟨rfl, by rw [← hgo.out]; exact m3.out, b3.out⟩
      · have hne : ((i : Int) != (j : Int)) = true := by simp; omega
        have hgt : decide ((j : Int) < (i : Int)) = false := by simp; omega
        obtain ⟨q, hq⟩ : ∃ q, j = i + q := ⟨j - i, by omega⟩
        obtain ⟨Y1, hY1⟩ : ∃ Y1, Y'.take q = Y1 := ⟨_, rfl⟩
        obtain ⟨Y2, hY2⟩ : ∃ Y2, Y'.drop q = Y2 := ⟨_, rfl⟩
        have hYY : Y' = Y1 ++ Y2 := by rw [← hY1, ← hY2, List.take_append_drop]
        have l1 : Y1.length = q := by rw [← hY1, List.length_take, k2.out]; omega
        have l2 : Y2.length = i := by rw [← hY2, List.length_drop, k2.out]; omega
        obtain ⟨z, hz⟩ : ∃ z, m + q = z := ⟨_, rfl⟩
        have m2 := m1.out
        have ln2 := hln.out
        have e5 : P' ++ (X' ++ (Y' ++ R')) = P' ++ (X' ++ (Y1 ++ (Y2 ++ R'))) := by rw [hYY]; simp
        rw [e5] at m2 ln2
        have hc := Lib.hid (swr_any g P' X' Y1 Y2 R' p z i n kp.out k1.out l2 (by rw [l1]; omega) ln2 h9 _ m2)
        have kX := Lib.hid hYY
        have kl1 := Lib.hid l1
        have kl2 := Lib.hid l2
        have e2 : (j : Int) - (i : Int) = (q : Int) := by omega
        have e3 : (m : Int) + (j : Int) - (i : Int) = (z : Int) := by omega
        have u1 : z ≤ 1000 := by omega
        have u2 : m + j ≤ 1000 := by omega
        have hq' := Lib.hid hq
        clear hq hY1 hY2 hYY l1 l2 m2 ln2 e5
        go_wp2_with fail
        (with_reducible refine hc.out.mono ?_)
        rintro e w2 ⟨rfl, hm2, hb2⟩
        have m3 := Lib.hid hm2
        have b3 := Lib.hid (b1.out.trans hb2)
        clear hm2 hb2 hc
        go_wp2
        go_roundw
        case rel => have := hq'.out; exact ⟨i, q, P', Y2, Y1, X' ++ R', kl2.out, kl1.out, i1, by omega, by rw [kp.out]; exact hPm, him, by omega, Lib.hid (by have e6 := hln.out; rw [kX.out] at e6; simp only [List.length_append] at e6 ⊢; omega), Lib.hid (by rw [← hgo.out, kX.out]; simp), rfl, rfl, m3.out, b3.out⟩
        case measure => have := hq'.out; simp [intOf]; omega
end Go.Proofs.YtjnnfineebabaaaDoor
/- The library's merge in place, where the first range, or the second one, has one pair. -/
namespace Go.Proofs.YtjnnfineebabaaaDoor
open Go.RowKit Go.Shelf Go.Proofs.Rowm Go.Proofs.Srt

theorem at_in {P Q S : List Cd} {a r i : Nat} (ha : P.length = a) (hi : a + r = i) (h : r < Q.length) : (P ++ (Q ++ S))[i]? = Q[r]? := by
  subst ha hi
  rw [List.getElem?_append_right (by omega), Nat.add_sub_cancel_left, List.getElem?_append_left h]
theorem all_take {R : List Cd} {p : Nat} {Q : Cd → Prop} (h : ∀ t y, t < p → R[t]? = some y → Q y) : ∀ y ∈ R.take p, Q y := fun y hy => by
  obtain ⟨t, ht, e⟩ := List.getElem_of_mem hy
  rw [List.length_take] at ht
  rw [List.getElem_take] at e
  exact h t y (by omega) (by rw [List.getElem?_eq_getElem (by omega), e])
theorem all_drop {R : List Cd} {p : Nat} {Q : Cd → Prop} (h : ∀ t y, p ≤ t → R[t]? = some y → Q y) : ∀ y ∈ R.drop p, Q y := fun y hy => by
  obtain ⟨t, ht, e⟩ := List.getElem_of_mem hy
  rw [List.length_drop] at ht
  rw [List.getElem_drop] at e
  exact h (p + t) y (by omega) (by rw [List.getElem?_eq_getElem (by omega), e])

set_option maxRecDepth 100000 in
set_option maxHeartbeats 4000000 in
theorem sym_first (g : Nat) (P R S : List Cd) (x : Cd) (a m b n : Nat) (ha : P.length = a) (hm : a + 1 = m) (hb : m + R.length = b) (hR : Up cnum R) (hn : (P ++ ([x] ++ (R ++ S))).length = n) (h9 : n ≤ 1000) (w : World) (h : Mem w g (P ++ ([x] ++ (R ++ S)))) :
    Calls Tryd.prog 84 #[.slice (some ⟨g, 0, none⟩) n n, .int .i64 a, .int .i64 m, .int .i64 b, cmpV] w fun e w' => e = .returned (.tuple #[]) ∧ Mem w' g (P ++ (mrg (ltF cnum) [x] R ++ S)) ∧ Below g w w' := by
  have hn1 := hn
  simp only [List.length_append, List.length_cons, List.length_nil] at hn1
  obtain ⟨z, hz⟩ : ∃ z, R.length = z := ⟨_, rfl⟩
  rw [hz] at hb hn1
  have bb : b ≤ n := by omega
  have bmb : m ≤ b := by omega
  have d1 : (m : Int) - (a : Int) = 1 := by omega
  have ba : a ≤ 1000 := by omega
  have ba2 : a < n := by omega
  have bm : m ≤ 1000 := by omega
  have h' := Lib.hid h
  have ha' := Lib.hid ha
  have hm' := Lib.hid hm
  have hb' := Lib.hid hb
  have hn' := Lib.hid hn
  have hR' := Lib.hid hR
  have hz' := Lib.hid hz
  clear h ha hm hb hn hR hz hn1
  go_enter Tryd.func84, Tryd.ntmps84
  go_wp2
  go_loopw [10, 11] (fun v u wr => ∃ i j p q, Hid (i = m + p) ∧ Hid (j = m + q) ∧ p ≤ q ∧ q ≤ z ∧ i ≤ j ∧ j ≤ b ∧ Hid (∀ t y, t < p → R[t]? = some y → ltF cnum y x = true) ∧ Hid (∀ t y, q ≤ t → R[t]? = some y → ltF cnum y x = false) ∧ v = .int .i64 ((i : Nat) : Int) ∧ u = .int .i64 ((j : Nat) : Int) ∧ Mem wr g (P ++ ([x] ++ (R ++ S))) ∧ Below g w wr) (fun v u _ => (intOf u).toNat - (intOf v).toNat)
  case atStart => exact ⟨m, b, 0, z, Lib.hid rfl, Lib.hid hb'.out.symm, Nat.zero_le _, Nat.le_refl _, by omega, Nat.le_refl _, Lib.hid (fun t y h => by omega), Lib.hid (fun t y h e => by rw [List.getElem?_eq_none (by rw [hz'.out]; exact h)] at e; cases e), rfl, rfl, h'.out, Below.refl _ _⟩
  case round =>
    obtain ⟨i, j, p, q, hi, hj, hpq, hqz, hij, hjb, hlo, hhi, rfl, rfl, hm, hbw⟩ := hrel
    have m1 := Lib.hid hm
    have b1 := Lib.hid hbw
    clear hm hbw
    by_cases hlt : i < j
    · obtain ⟨c, hc⟩ : ∃ c, (i + j) / 2 = c := ⟨_, rfl⟩
      obtain ⟨r, hr⟩ : ∃ r, c = m + r := ⟨c - m, by have := hi.out; omega⟩
      have hrp : p ≤ r := by have := hi.out; have := hj.out; omega
      have hrq : r < q := by have := hi.out; have := hj.out; omega
      obtain ⟨y, hy⟩ : ∃ y, R[r]? = some y := ⟨R[r]'(by rw [hz'.out]; omega), List.getElem?_eq_getElem (by rw [hz'.out]; omega)⟩
      have hci : i ≤ c := by omega
      have hcj : c < j := by omega
      have hr' := Lib.hid hr
      have hy' := Lib.hid hy
      have hc' : ((i : Int) + (j : Int)) / 2 = (c : Int) := by omega
      have hcn : (c : Int) < (n : Int) := by omega
      clear hc hr hy
      obtain ⟨t, ht⟩ : ∃ t, Ordm.cmp y.1 x.1 = t := ⟨_, rfl⟩
      have ht' := Lib.hid ht
      obtain ⟨c1, c2, c3⟩ := m1.out.at_ (k := c) (x := y) (by rw [← hy'.out, show P ++ ([x] ++ (R ++ S)) = (P ++ [x]) ++ (R ++ S) by simp]; exact at_in (a := m) (by rw [List.length_append, ha'.out]; exact hm'.out) hr'.out.symm (by rw [hz'.out]; omega))
      obtain ⟨c4, c5, c6⟩ := m1.out.at_ (k := a) (x := x) (by exact at_mid ha'.out)
      clear ht
      by_cases hcm : ltF cnum y x = true
      · have hlo2 : Hid (∀ t u, t < r + 1 → R[t]? = some u → ltF cnum u x = true) := by
          show ∀ t u, t < r + 1 → R[t]? = some u → ltF cnum u x = true
          intro t u ht hu
          have := up_at cnum hR'.out (show t ≤ r by omega) hu hy'.out
          unfold ltF at hcm ⊢
          simp only [decide_eq_true_eq] at hcm ⊢
          omega
        have htn : t < 0 := by have := cmp_neg y x; rw [hcm, ht'.out] at this; simpa using this
        have htd : decide (t < 0) = true := by simpa using htn
        clear htn
        go_wp2_with fail
        go_region_held3 (fun w' => w'.cell? ⟨g, c * 3, none⟩ = some (V y.1) ∧ w'.cell? ⟨g, c * 3 + 1, none⟩ = some (K y.2.1) ∧ w'.cell? ⟨g, c * 3 + 2, none⟩ = some (K y.2.2) ∧ w'.cell? ⟨g, a * 3, none⟩ = some (V x.1) ∧ w'.cell? ⟨g, a * 3 + 1, none⟩ = some (K x.2.1) ∧ w'.cell? ⟨g, a * 3 + 2, none⟩ = some (K x.2.2) ∧ Below wr.heap.size wr w') (first | exact ⟨c1, c2, c3, c4, c5, c6, (Below.refl _ _).drew⟩ | assumption)
          ((go_at_call 50; (with_reducible refine (cmp3_is (x := y) (y := x) ht'.out _).mono ?_); rintro e w' ⟨rfl, hb⟩; have hS' := two_next (W := wr) (by assumption) hb; clear hb))
        go_wp2
        have b3 := Lib.hid hS'.2.2.2.2.2.2
        have m3 := Lib.hid (m1.out.next b3.out)
        have b4 := Lib.hid (b1.out.trans (b3.out.mono (Nat.le_of_lt m1.out.lt)))
        clear hS'
        go_roundw
        case rel => exact ⟨c + 1, j, r + 1, q, Lib.hid (by have := hr'.out; omega), hj, by omega, hqz, by omega, hjb, hlo2, hhi, by go_num, rfl, m3.out, b4.out⟩
        case measure => simp [intOf]; omega
      · have hhi2 : Hid (∀ t u, r ≤ t → R[t]? = some u → ltF cnum u x = false) := by
          show ∀ t u, r ≤ t → R[t]? = some u → ltF cnum u x = false
          intro t u ht hu
          have := up_at cnum hR'.out ht hy'.out hu
          unfold ltF at hcm ⊢
          simp only [decide_eq_true_eq, decide_eq_false_iff_not] at hcm ⊢
          omega
        have htn : ¬ t < 0 := fun h => hcm (by have := cmp_neg y x; rw [ht'.out] at this; rw [← this]; simpa using h)
        have htd : decide (t < 0) = false := by simpa using htn
        clear htn
        go_wp2_with fail
        go_region_held3 (fun w' => w'.cell? ⟨g, c * 3, none⟩ = some (V y.1) ∧ w'.cell? ⟨g, c * 3 + 1, none⟩ = some (K y.2.1) ∧ w'.cell? ⟨g, c * 3 + 2, none⟩ = some (K y.2.2) ∧ w'.cell? ⟨g, a * 3, none⟩ = some (V x.1) ∧ w'.cell? ⟨g, a * 3 + 1, none⟩ = some (K x.2.1) ∧ w'.cell? ⟨g, a * 3 + 2, none⟩ = some (K x.2.2) ∧ Below wr.heap.size wr w') (first | exact ⟨c1, c2, c3, c4, c5, c6, (Below.refl _ _).drew⟩ | assumption)
          ((go_at_call 50; (with_reducible refine (cmp3_is (x := y) (y := x) ht'.out _).mono ?_); rintro e w' ⟨rfl, hb⟩; have hS' := two_next (W := wr) (by assumption) hb; clear hb))
        go_wp2
        have b3 := Lib.hid hS'.2.2.2.2.2.2
        have m3 := Lib.hid (m1.out.next b3.out)
        have b4 := Lib.hid (b1.out.trans (b3.out.mono (Nat.le_of_lt m1.out.lt)))
        clear hS'
        go_roundw
        case rel => exact ⟨i, c, p, r, hi, hr', hrp, by omega, hci, by omega, hlo, hhi2, rfl, rfl, m3.out, b4.out⟩
        case measure => simp [intOf]; omega
    · have hpe : p = q := by have := hi.out; have := hj.out; omega
      subst hpe
      obtain ⟨wo, rfl⟩ : ∃ wo : World, wo = wr := ⟨_, rfl⟩
      obtain ⟨A, hA⟩ : ∃ A, R.take p = A := ⟨_, rfl⟩
      obtain ⟨B, hB⟩ : ∃ B, R.drop p = B := ⟨_, rfl⟩
      have hAB : R = A ++ B := by rw [← hA, ← hB, List.take_append_drop]
      have hAl : A.length = p := by rw [← hA, List.length_take, hz'.out]; omega
      have hgo : Hid (mrg (ltF cnum) [x] R = A ++ x :: B) := by
        show _ = _
        rw [hAB]
        exact mrg_one _ _ _ _ (hA ▸ all_take hlo.out) (hB ▸ all_drop hhi.out)
      have m2 := m1.out
      rw [hAB] at m2
      have m2' : Hid (Mem wo g (P ++ ([] ++ x :: (A ++ (B ++ S))))) := by show Mem wo g _; simpa using m2
      have hAl' := Lib.hid hAl
      have d2 : (i : Int) - 1 = ((a + p : Nat) : Int) := by have := hi.out; have := hm'.out; omega
      obtain ⟨e, he⟩ : ∃ e, a + p = e := ⟨_, rfl⟩
      have he' := Lib.hid he
      rw [he] at d2
      have hei : e < n := by have := hi.out; have := hm'.out; omega
      clear hA hB hAB m2 hAl he
      go_wp2
      go_loopw [13] (fun v wr => ∃ k U V', Hid (A = U ++ V') ∧ Hid (k = a + U.length) ∧ k ≤ e ∧ v = .int .i64 ((k : Nat) : Int) ∧ Mem wr g (P ++ (U ++ x :: (V' ++ (B ++ S)))) ∧ Below g w wr) (fun v _ => e - (intOf v).toNat)
      case atStart => exact ⟨a, [], A, Lib.hid rfl, Lib.hid rfl, by have := he'.out; omega, rfl, m2'.out, b1.out⟩
      case round =>
        obtain ⟨k, U, V', hUV, hk, hke, rfl, hm, hbw⟩ := hrel
        have m2 := Lib.hid hm
        have b2 := Lib.hid hbw
        clear hm hbw
        have hUVl := congrArg List.length hUV.out
        rw [hAl'.out, List.length_append] at hUVl
        match V', hUV, m2, hUVl with
        | [], hUV, m2, hUVl =>
          have hkk : k = e := by have := hk.out; have := he'.out; simp at hUVl; omega
          subst hkk
          have m3 := Lib.hid m2.out
          have e5 : P ++ (U ++ x :: ([] ++ (B ++ S))) = P ++ (mrg (ltF cnum) [x] R ++ S) := by rw [hgo.out, hUV.out]; simp
          rw [e5] at m3
          clear e5 hUVl
          go_wp2
          refine bodyPost_ret (results_none rfl _ _ _) rfl ?_
          exact ⟨rfl, m3.out, b2.out⟩
        | y :: V', hUV, m2, hUVl =>
          have hkk : (k : Int) < (e : Int) := by have := hk.out; have := he'.out; simp at hUVl; omega
          obtain ⟨l, hl⟩ : ∃ l, k + 1 = l := ⟨_, rfl⟩
          have hPp : (P ++ U).length = k := by rw [List.length_append, ha'.out, hk.out]
          have hxy : P ++ (U ++ x :: (y :: V' ++ (B ++ S))) = P ++ U ++ x :: ([] ++ y :: (V' ++ (B ++ S))) := by simp
          have m3 := m2.out
          rw [hxy] at m3
          obtain ⟨D, hD⟩ : ∃ D, P ++ U ++ x :: ([] ++ y :: (V' ++ (B ++ S))) = D := ⟨_, rfl⟩
          have hDx : D[k]? = some x := by rw [← hD]; exact at_mid hPp
          have hDy : D[l]? = some y := by rw [← hD]; exact at_far (by rw [hPp, ← hl]; rfl)
          have hsw : Hid ((D.set k y).set l x = P ++ ((U ++ [y]) ++ x :: (V' ++ (B ++ S)))) := by
            show _ = _
            rw [← hD, swap_list hPp (by rw [hPp, ← hl]; rfl)]; simp
          rw [hD] at m3
          have m3' := Lib.hid m3
          have hkl : k ≠ l := by omega
          obtain ⟨c1, c2, c3⟩ := m3'.out.at_ hDx
          obtain ⟨c4, c5, c6⟩ := m3'.out.at_ hDy
          have f1 := m3'.out.free (k * 3)
          have f2 := m3'.out.free (k * 3 + 1)
          have f3 := m3'.out.free (k * 3 + 2)
          have f4 := m3'.out.free (l * 3)
          have f5 := m3'.out.free (l * 3 + 1)
          have f6 := m3'.out.free (l * 3 + 2)
          obtain ⟨q1, q2, q3⟩ := far3 (g := g) hkl
          have u1 : (k : Int) < (n : Int) := by omega
          have u2 : (l : Int) < (n : Int) := by omega
          have e1 : (k : Int) + 1 = (l : Int) := by omega
          have e3 : IntKind.i64.wrap (l : Int) = (l : Int) := IntWalk.i64_in _ (by omega)
          have hl' := Lib.hid hl
          clear hxy hD hPp hDx hDy m3 hl hUVl
          go_wp2
          go_region
          clear q1 q2 q3 f1 f2 f3 f4 f5 f6 c1 c2 c3 c4 c5 c6 e3
          have m4 := Lib.hid ((m3'.out.set k y).set l x).drew
          rw [hsw.out] at m4
          have b4 := Lib.hid (below_set3 (below_set3 b2.out (Nat.le_refl _) k y) (Nat.le_refl _) l x).drew
          go_wp2
          go_roundw
          case rel => exact ⟨l, U ++ [y], V', Lib.hid (by rw [hUV.out]; simp), Lib.hid (by rw [List.length_append, ← hl'.out, hk.out]; rfl), by have := hl'.out; omega, by first | rfl | go_num, m4.out, b4.out⟩
          case measure => have := hl'.out; simp [intOf]; omega
end Go.Proofs.YtjnnfineebabaaaDoor
/- The library's merge in place, where the second range has one pair. -/
namespace Go.Proofs.YtjnnfineebabaaaDoor
open Go.RowKit Go.Shelf Go.Proofs.Rowm Go.Proofs.Srt

set_option maxRecDepth 100000 in
set_option maxHeartbeats 4000000 in
theorem sym_last (g : Nat) (P L S : List Cd) (y : Cd) (a m b n : Nat) (ha : P.length = a) (hm : a + L.length = m) (hL2 : 2 ≤ L.length) (hb : m + 1 = b) (hL : Up cnum L) (hn : (P ++ (L ++ ([y] ++ S))).length = n) (h9 : n ≤ 1000) (w : World) (h : Mem w g (P ++ (L ++ ([y] ++ S)))) :
    Calls Tryd.prog 84 #[.slice (some ⟨g, 0, none⟩) n n, .int .i64 a, .int .i64 m, .int .i64 b, cmpV] w fun e w' => e = .returned (.tuple #[]) ∧ Mem w' g (P ++ (mrg (ltF cnum) L [y] ++ S)) ∧ Below g w w' := by
  have hn1 := hn
  simp only [List.length_append, List.length_cons, List.length_nil] at hn1
  obtain ⟨z, hz⟩ : ∃ z, L.length = z := ⟨_, rfl⟩
  rw [hz] at hm hL2 hn1
  have bb : b ≤ n := by omega
  have bmb : m < n := by omega
  have d1 : ((m : Int) - (a : Int) == 1) = false := by simp; omega
  have d2 : (b : Int) - (m : Int) = 1 := by omega
  have ba : a ≤ 1000 := by omega
  have bam : a ≤ m := by omega
  have bm : m ≤ 1000 := by omega
  have h' := Lib.hid h
  have ha' := Lib.hid ha
  have hm' := Lib.hid hm
  have hb' := Lib.hid hb
  have hn' := Lib.hid hn
  have hR' := Lib.hid hL
  have hz' := Lib.hid hz
  clear h ha hm hb hn hL hz hn1
  go_enter Tryd.func84, Tryd.ntmps84
  go_wp2
  go_loopw [14, 15] (fun v u wr => ∃ i j p q, Hid (i = a + p) ∧ Hid (j = a + q) ∧ p ≤ q ∧ q ≤ z ∧ i ≤ j ∧ j ≤ m ∧ Hid (∀ t x, t < p → L[t]? = some x → ltF cnum y x = false) ∧ Hid (∀ t x, q ≤ t → L[t]? = some x → ltF cnum y x = true) ∧ v = .int .i64 ((i : Nat) : Int) ∧ u = .int .i64 ((j : Nat) : Int) ∧ Mem wr g (P ++ (L ++ ([y] ++ S))) ∧ Below g w wr) (fun v u _ => (intOf u).toNat - (intOf v).toNat)
  case atStart => exact ⟨a, m, 0, z, Lib.hid rfl, Lib.hid hm'.out.symm, Nat.zero_le _, Nat.le_refl _, by omega, Nat.le_refl _, Lib.hid (fun t y h => by omega), Lib.hid (fun t y h e => by rw [List.getElem?_eq_none (by rw [hz'.out]; exact h)] at e; cases e), rfl, rfl, h'.out, Below.refl _ _⟩
  case round =>
    clear d1 d2
    obtain ⟨i, j, p, q, hi, hj, hpq, hqz, hij, hjm, hlo, hhi, rfl, rfl, hm, hbw⟩ := hrel
    have m1 := Lib.hid hm
    have b1 := Lib.hid hbw
    clear hm hbw
    by_cases hlt : i < j
    · obtain ⟨c, hc⟩ : ∃ c, (i + j) / 2 = c := ⟨_, rfl⟩
      obtain ⟨r, hr⟩ : ∃ r, c = a + r := ⟨c - a, by have := hi.out; omega⟩
      have hrp : p ≤ r := by have := hi.out; have := hj.out; omega
      have hrq : r < q := by have := hi.out; have := hj.out; omega
      obtain ⟨x, hx⟩ : ∃ x, L[r]? = some x := ⟨L[r]'(by rw [hz'.out]; omega), List.getElem?_eq_getElem (by rw [hz'.out]; omega)⟩
      have hci : i ≤ c := by omega
      have hcj : c < j := by omega
      have hr' := Lib.hid hr
      have hx' := Lib.hid hx
      have hc' : ((i : Int) + (j : Int)) / 2 = (c : Int) := by omega
      have hcn : (c : Int) < (n : Int) := by omega
      clear hc hr hx
      obtain ⟨t, ht⟩ : ∃ t, Ordm.cmp y.1 x.1 = t := ⟨_, rfl⟩
      have ht' := Lib.hid ht
      obtain ⟨c1, c2, c3⟩ := m1.out.at_ (k := m) (x := y) (by rw [show P ++ (L ++ ([y] ++ S)) = (P ++ L) ++ y :: S by simp]; exact at_mid (by rw [List.length_append, ha'.out, hz'.out]; exact hm'.out))
      obtain ⟨c4, c5, c6⟩ := m1.out.at_ (k := c) (x := x) (by rw [← hx'.out]; exact at_in (a := a) ha'.out hr'.out.symm (by rw [hz'.out]; omega))
      clear ht
      by_cases hcm : ltF cnum y x = true
      · have hhi2 : Hid (∀ t u, r ≤ t → L[t]? = some u → ltF cnum y u = true) := by
          show ∀ t u, r ≤ t → L[t]? = some u → ltF cnum y u = true
          intro t u ht hu
          have := up_at cnum hR'.out ht hx'.out hu
          unfold ltF at hcm ⊢
          simp only [decide_eq_true_eq] at hcm ⊢
          omega
        have htn : t < 0 := by have := cmp_neg y x; rw [hcm, ht'.out] at this; simpa using this
        have htd : decide (t < 0) = true := by simpa using htn
        clear htn
        go_wp2_with fail
        go_region_held3 (fun w' => w'.cell? ⟨g, m * 3, none⟩ = some (V y.1) ∧ w'.cell? ⟨g, m * 3 + 1, none⟩ = some (K y.2.1) ∧ w'.cell? ⟨g, m * 3 + 2, none⟩ = some (K y.2.2) ∧ w'.cell? ⟨g, c * 3, none⟩ = some (V x.1) ∧ w'.cell? ⟨g, c * 3 + 1, none⟩ = some (K x.2.1) ∧ w'.cell? ⟨g, c * 3 + 2, none⟩ = some (K x.2.2) ∧ Below wr.heap.size wr w') (first | exact ⟨c1, c2, c3, c4, c5, c6, (Below.refl _ _).drew⟩ | assumption)
          ((go_at_call 50; (with_reducible refine (cmp3_is (x := y) (y := x) ht'.out _).mono ?_); rintro e w' ⟨rfl, hb⟩; have hS' := two_next (W := wr) (by assumption) hb; clear hb))
        go_wp2
        have b3 := Lib.hid hS'.2.2.2.2.2.2
        have m3 := Lib.hid (m1.out.next b3.out)
        have b4 := Lib.hid (b1.out.trans (b3.out.mono (Nat.le_of_lt m1.out.lt)))
        clear hS'
        go_roundw
        case rel => exact ⟨i, c, p, r, hi, hr', hrp, by omega, hci, by omega, hlo, hhi2, rfl, rfl, m3.out, b4.out⟩
        case measure => simp [intOf]; omega
      · have hlo2 : Hid (∀ t u, t < r + 1 → L[t]? = some u → ltF cnum y u = false) := by
          show ∀ t u, t < r + 1 → L[t]? = some u → ltF cnum y u = false
          intro t u ht hu
          have := up_at cnum hR'.out (show t ≤ r by omega) hu hx'.out
          unfold ltF at hcm ⊢
          simp only [decide_eq_true_eq, decide_eq_false_iff_not] at hcm ⊢
          omega
        have htn : ¬ t < 0 := fun h => hcm (by have := cmp_neg y x; rw [ht'.out] at this; rw [← this]; simpa using h)
        have htd : decide (t < 0) = false := by simpa using htn
        clear htn
        go_wp2_with fail
        go_region_held3 (fun w' => w'.cell? ⟨g, m * 3, none⟩ = some (V y.1) ∧ w'.cell? ⟨g, m * 3 + 1, none⟩ = some (K y.2.1) ∧ w'.cell? ⟨g, m * 3 + 2, none⟩ = some (K y.2.2) ∧ w'.cell? ⟨g, c * 3, none⟩ = some (V x.1) ∧ w'.cell? ⟨g, c * 3 + 1, none⟩ = some (K x.2.1) ∧ w'.cell? ⟨g, c * 3 + 2, none⟩ = some (K x.2.2) ∧ Below wr.heap.size wr w') (first | exact ⟨c1, c2, c3, c4, c5, c6, (Below.refl _ _).drew⟩ | assumption)
          ((go_at_call 50; (with_reducible refine (cmp3_is (x := y) (y := x) ht'.out _).mono ?_); rintro e w' ⟨rfl, hb⟩; have hS' := two_next (W := wr) (by assumption) hb; clear hb))
        go_wp2
        have b3 := Lib.hid hS'.2.2.2.2.2.2
        have m3 := Lib.hid (m1.out.next b3.out)
        have b4 := Lib.hid (b1.out.trans (b3.out.mono (Nat.le_of_lt m1.out.lt)))
        clear hS'
        go_roundw
        case rel => exact ⟨c + 1, j, r + 1, q, Lib.hid (by have := hr'.out; omega), hj, by omega, hqz, by omega, hjm, hlo2, hhi, by go_num, rfl, m3.out, b4.out⟩
        case measure => simp [intOf]; omega
    · have hpe : p = q := by have := hi.out; have := hj.out; omega
      subst hpe
      obtain ⟨wo, rfl⟩ : ∃ wo : World, wo = wr := ⟨_, rfl⟩
      obtain ⟨A, hA⟩ : ∃ A, L.take p = A := ⟨_, rfl⟩
      obtain ⟨B, hB⟩ : ∃ B, L.drop p = B := ⟨_, rfl⟩
      have hAB : L = A ++ B := by rw [← hA, ← hB, List.take_append_drop]
      have hAl : A.length = p := by rw [← hA, List.length_take, hz'.out]; omega
      have hBl : Hid (B.length = z - p) := by show _ = _; rw [← hB, List.length_drop, hz'.out]
      have hgo : Hid (mrg (ltF cnum) L [y] = A ++ y :: B) := by
        show _ = _
        rw [hAB]
        exact mrg_last _ _ _ _ (hA ▸ all_take hlo.out) (hB ▸ all_drop hhi.out)
      have m2 := m1.out
      rw [hAB] at m2
      have m2' : Hid (Mem wo g (P ++ (A ++ (B ++ y :: ([] ++ S))))) := by show Mem wo g _; simpa using m2
      have hAl' := Lib.hid hAl
      have him : i ≤ m := by omega
      clear hA hB hAB m2 hAl
      go_wp2
      go_loopw [17] (fun v wr => ∃ k U V', Hid (B = U ++ V') ∧ Hid (k = i + U.length) ∧ k ≤ m ∧ v = .int .i64 ((k : Nat) : Int) ∧ Mem wr g (P ++ (A ++ (U ++ y :: (V' ++ S)))) ∧ Below g w wr) (fun v _ => (intOf v).toNat)
      case atStart => exact ⟨m, B, [], Lib.hid (by simp), Lib.hid (by rw [hBl.out]; have := hi.out; have := hm'.out; omega), Nat.le_refl _, rfl, m2'.out, b1.out⟩
      case round =>
        obtain ⟨k, U, V', hUV, hk, hke, rfl, hm, hbw⟩ := hrel
        have m2 := Lib.hid hm
        have b2 := Lib.hid hbw
        clear hm hbw
        rcases List.eq_nil_or_concat U with e0 | ⟨U', x, e0⟩
        · subst e0
          have hki : k = i := hk.out
          have hkk : decide ((i : Int) < (k : Int)) = false := by simp; omega
          have m3 := Lib.hid m2.out
          have e5 : P ++ (A ++ ([] ++ y :: (V' ++ S))) = P ++ (mrg (ltF cnum) L [y] ++ S) := by rw [hgo.out, hUV.out]; simp
          rw [e5] at m3
          subst hki
          clear e5
          go_wp2
          refine bodyPost_ret (results_none rfl _ _ _) rfl ?_
          exact ⟨rfl, m3.out, b2.out⟩
        · rw [List.concat_eq_append] at e0
          subst e0
          obtain ⟨l, hl⟩ : ∃ l, i + U'.length = l := ⟨_, rfl⟩
          have hlk : l + 1 = k := by have := hk.out; simp at this; omega
          have hkk : (i : Int) < (k : Int) := by omega
          have hPp : (P ++ A ++ U').length = l := by rw [List.length_append, List.length_append, ha'.out, hAl'.out, ← hl, hi.out]
          have hxy : P ++ (A ++ (U' ++ [x] ++ y :: (V' ++ S))) = P ++ A ++ U' ++ x :: ([] ++ y :: (V' ++ S)) := by simp
          have m3 := m2.out
          rw [hxy] at m3
          obtain ⟨D, hD⟩ : ∃ D, P ++ A ++ U' ++ x :: ([] ++ y :: (V' ++ S)) = D := ⟨_, rfl⟩
          have hDx : D[l]? = some x := by rw [← hD]; exact at_mid hPp
          have hDy : D[k]? = some y := by rw [← hD]; exact at_far (by rw [hPp, ← hlk]; rfl)
          have hsw : Hid ((D.set k x).set l y = P ++ (A ++ (U' ++ y :: (x :: V' ++ S)))) := by
            show _ = _
            rw [← hD, swap_list2 hPp (by rw [hPp, ← hlk]; rfl)]; simp
          rw [hD] at m3
          have m3' := Lib.hid m3
          have hkl : k ≠ l := by omega
          obtain ⟨c1, c2, c3⟩ := m3'.out.at_ hDx
          obtain ⟨c4, c5, c6⟩ := m3'.out.at_ hDy
          have f1 := m3'.out.free (k * 3)
          have f2 := m3'.out.free (k * 3 + 1)
          have f3 := m3'.out.free (k * 3 + 2)
          have f4 := m3'.out.free (l * 3)
          have f5 := m3'.out.free (l * 3 + 1)
          have f6 := m3'.out.free (l * 3 + 2)
          obtain ⟨q1, q2, q3⟩ := far3 (g := g) hkl
          have u1 : (k : Int) < (n : Int) := by omega
          have u2 : (l : Int) < (n : Int) := by omega
          have e1 : (k : Int) - 1 = (l : Int) := by omega
          have e3 : IntKind.i64.wrap (l : Int) = (l : Int) := IntWalk.i64_in _ (by omega)
          have hl' := Lib.hid hl
          have hlk' := Lib.hid hlk
          clear hxy hD hPp hDx hDy m3 hl hlk
          go_wp2
          go_region
          clear q1 q2 q3 f1 f2 f3 f4 f5 f6 c1 c2 c3 c4 c5 c6 e3
          have m4 := Lib.hid ((m3'.out.set k x).set l y).drew
          rw [hsw.out] at m4
          have b4 := Lib.hid (below_set3 (below_set3 b2.out (Nat.le_refl _) k x) (Nat.le_refl _) l y).drew
          go_wp2
          go_roundw
          case rel => exact ⟨l, U', x :: V', Lib.hid (by rw [hUV.out]; simp), Lib.hid hl'.out.symm, by have := hlk'.out; omega, by first | rfl | go_num, m4.out, b4.out⟩
          case measure => have := hlk'.out; simp [intOf]; omega
end Go.Proofs.YtjnnfineebabaaaDoor
/- The library's merge in place. -/
namespace Go.Proofs.YtjnnfineebabaaaDoor
open Go.RowKit Go.Shelf Go.Proofs.Rowm Go.Proofs.Srt

def SymAt (N : Nat) : Prop := ∀ (g : Nat) (P L R S : List Cd) (a m b n : Nat), P.length = a → a + L.length = m → m + R.length = b → 1 ≤ L.length → 1 ≤ R.length → L.length + R.length ≤ N → Up cnum L → Up cnum R → (P ++ (L ++ (R ++ S))).length = n → n ≤ 1000 → ∀ w, Mem w g (P ++ (L ++ (R ++ S))) →
    Calls Tryd.prog 84 #[.slice (some ⟨g, 0, none⟩) n n, .int .i64 a, .int .i64 m, .int .i64 b, cmpV] w fun e w' => e = .returned (.tuple #[]) ∧ Mem w' g (P ++ (mrg (ltF cnum) L R ++ S)) ∧ Below g w w'

/-- where both ranges are parted -/
theorem cross {L R : List Cd} (hL : Up cnum L) (hR : Up cnum R) {x0 y0 H lo hi s : Nat} (hx : L.length = x0) (hy : R.length = y0) (hc : (H < x0 ∧ lo + y0 = H ∧ hi = H) ∨ (x0 ≤ H ∧ lo = 0 ∧ hi = x0 ∧ H ≤ y0)) (h1 : lo ≤ s) (h2 : s ≤ hi)
    (hlo : ∀ c x y, lo ≤ c → c < s → L[c]? = some x → R[H - 1 - c]? = some y → ltF cnum y x = false) (hhi : ∀ c x y, s ≤ c → c < hi → L[c]? = some x → R[H - 1 - c]? = some y → ltF cnum y x = true) :
    (∀ x ∈ L.take s, ∀ y ∈ R.drop (H - s), ltF cnum y x = false) ∧ (∀ x ∈ L.drop s, ∀ y ∈ R.take (H - s), ltF cnum y x = true) := by
  refine ⟨fun x hx' y hy' => ?_, fun x hx' y hy' => ?_⟩
  · obtain ⟨t, ht, e⟩ := List.getElem_of_mem hx'
    obtain ⟨u, hu, f⟩ := List.getElem_of_mem hy'
    rw [List.length_take] at ht
    rw [List.getElem_take] at e
    rw [List.length_drop] at hu
    rw [List.getElem_drop] at f
    have a1 : L[t]? = some x := by rw [List.getElem?_eq_getElem (by omega), e]
    have a2 : R[H - s + u]? = some y := by rw [List.getElem?_eq_getElem (by omega), f]
    have b1 : s - 1 < L.length := by omega
    have b2 : H - 1 - (s - 1) < R.length := by omega
    have := hlo (s - 1) _ _ (by omega) (by omega) (List.getElem?_eq_getElem b1) (List.getElem?_eq_getElem b2)
    have c1 := up_at cnum hL (show t ≤ s - 1 by omega) a1 (List.getElem?_eq_getElem b1)
    have c2 := up_at cnum hR (show H - 1 - (s - 1) ≤ H - s + u by omega) (List.getElem?_eq_getElem b2) a2
    unfold ltF at this ⊢
    simp only [decide_eq_false_iff_not] at this ⊢
    omega
  · obtain ⟨t, ht, e⟩ := List.getElem_of_mem hx'
    obtain ⟨u, hu, f⟩ := List.getElem_of_mem hy'
    rw [List.length_drop] at ht
    rw [List.getElem_drop] at e
    rw [List.length_take] at hu
    rw [List.getElem_take] at f
    have a1 : L[s + t]? = some x := by rw [List.getElem?_eq_getElem (by omega), e]
    have a2 : R[u]? = some y := by rw [List.getElem?_eq_getElem (by omega), f]
    have b1 : s < L.length := by omega
    have b2 : H - 1 - s < R.length := by omega
    have := hhi s _ _ (Nat.le_refl _) (by omega) (List.getElem?_eq_getElem b1) (List.getElem?_eq_getElem b2)
    have c1 := up_at cnum hL (show s ≤ s + t by omega) (List.getElem?_eq_getElem b1) a1
    have c2 := up_at cnum hR (show u ≤ H - 1 - s by omega) a2 (List.getElem?_eq_getElem b2)
    unfold ltF at this ⊢
    simp only [decide_eq_true_eq] at this ⊢
    omega
section
variable {P L1 L2 R1 R2 S : List Cd}
theorem skip1 (h : L2 = [] ∨ R1 = []) : P ++ (L1 ++ (L2 ++ (R1 ++ S))) = P ++ (L1 ++ (R1 ++ (L2 ++ S))) := by
  rcases h with h | h <;> subst h <;> rfl
theorem skip2 (h : L1 = [] ∨ R1 = []) : P ++ (L1 ++ (R1 ++ S)) = P ++ (mrg (ltF cnum) L1 R1 ++ S) := by
  rcases h with h | h
  · subst h; rw [nil_mrg]; rfl
  · subst h; rw [mrg_nil]; rfl
theorem skip3 (h : L2 = [] ∨ R2 = []) : P ++ (mrg (ltF cnum) L1 R1 ++ (L2 ++ (R2 ++ S))) = P ++ (mrg (ltF cnum) L1 R1 ++ (mrg (ltF cnum) L2 R2 ++ S)) := by
  rcases h with h | h
  · subst h; rw [nil_mrg]; rfl
  · subst h; rw [mrg_nil]; rfl
end

set_option maxRecDepth 100000 in
set_option maxHeartbeats 8000000 in
theorem sym_both (N : Nat) (ih : Hid (SymAt N)) (g : Nat) (P L R S : List Cd) (a m b n : Nat) (ha : P.length = a) (hm : a + L.length = m) (hb : m + R.length = b) (hL2 : 2 ≤ L.length) (hR2 : 2 ≤ R.length) (hN : L.length + R.length ≤ N + 1) (hL : Up cnum L) (hR : Up cnum R) (hn : (P ++ (L ++ (R ++ S))).length = n) (h9 : n ≤ 1000) (w : World) (h : Mem w g (P ++ (L ++ (R ++ S)))) :
    Calls Tryd.prog 84 #[.slice (some ⟨g, 0, none⟩) n n, .int .i64 a, .int .i64 m, .int .i64 b, cmpV] w fun e w' => e = .returned (.tuple #[]) ∧ Mem w' g (P ++ (mrg (ltF cnum) L R ++ S)) ∧ Below g w w' := by
  have hn1 := hn
  simp only [List.length_append] at hn1
  obtain ⟨x0, hx0⟩ : ∃ x0, L.length = x0 := ⟨_, rfl⟩
  obtain ⟨y0, hy0⟩ : ∃ y0, R.length = y0 := ⟨_, rfl⟩
  rw [hx0] at hm hL2 hn1 hN
  rw [hy0] at hb hR2 hn1 hN
  obtain ⟨H, hH⟩ : ∃ H, (x0 + y0) / 2 = H := ⟨_, rfl⟩
  obtain ⟨mid, hmid⟩ : ∃ mid, a + H = mid := ⟨_, rfl⟩
  obtain ⟨pp, hpp⟩ : ∃ pp, mid + m = pp + 1 := ⟨mid + m - 1, by omega⟩
  have hmd : ((a : Int) + (b : Int)) / 2 = (mid : Int) := by omega
  have bb : b ≤ n := by omega
  have d1 : ((m : Int) - (a : Int) == 1) = false := by simp; omega
  have d2 : ((b : Int) - (m : Int) == 1) = false := by simp; omega
  have ba : a ≤ 1000 := by omega
  have bam : a ≤ m := by omega
  have bm : m ≤ 1000 := by omega
  have bmid : mid ≤ 1000 := by omega
  have hpi : (mid : Int) + (m : Int) - 1 = (pp : Int) := by omega
  obtain ⟨lo, hi, s0, r0, hs0, hr0, hcs⟩ : ∃ lo hi s0 r0, a + lo = s0 ∧ a + hi = r0 ∧ ((H < x0 ∧ lo + y0 = H ∧ hi = H) ∨ (x0 ≤ H ∧ lo = 0 ∧ hi = x0 ∧ H ≤ y0)) := by
    by_cases hc : H < x0
    · exact ⟨H - y0, H, _, _, rfl, rfl, .inl ⟨hc, by omega, rfl⟩⟩
    · exact ⟨0, x0, _, _, rfl, rfl, .inr ⟨by omega, rfl, rfl, by omega⟩⟩
  have hlh : lo ≤ hi := by omega
  have bhx : hi ≤ x0 := by omega
  have bhH : hi ≤ H := by omega
  have blo : H ≤ lo + y0 := by omega
  have h' := Lib.hid h
  have ha' := Lib.hid ha
  have hn' := Lib.hid hn
  have hL' := Lib.hid hL
  have hR' := Lib.hid hR
  have hx' := Lib.hid hx0
  have hy' := Lib.hid hy0
  have hcs' := Lib.hid hcs
  have hs' := Lib.hid hs0
  have hr' := Lib.hid hr0
  have hm' := Lib.hid hm
  have hb' := Lib.hid hb
  have hH' := Lib.hid hH
  have hmid' := Lib.hid hmid
  have hpp' := Lib.hid hpp
  have hN' := Lib.hid hN
  go_enter Tryd.func84, Tryd.ntmps84
  by_cases hmm : mid < m
  · have hgt : decide ((mid : Int) < (m : Int)) = true := by simp; omega
    have e7 : (mid : Int) + (m : Int) - (b : Int) = (s0 : Int) := by omega
    have e8 : mid = r0 := by omega
    subst e8
    clear h ha hm hb hn hL hR hx0 hy0 hn1 hcs hs0 hr0 hH hmid hpp hN
    go_wp2
    go_loopw [20, 21] (fun v u wr => ∃ i j s t, Hid (i = a + s) ∧ Hid (j = a + t) ∧ s ≤ t ∧ lo ≤ s ∧ t ≤ hi ∧ Hid (∀ c x y, lo ≤ c → c < s → L[c]? = some x → R[H - 1 - c]? = some y → ltF cnum y x = false) ∧ Hid (∀ c x y, t ≤ c → c < hi → L[c]? = some x → R[H - 1 - c]? = some y → ltF cnum y x = true) ∧ v = .int .i64 ((i : Nat) : Int) ∧ u = .int .i64 ((j : Nat) : Int) ∧ Mem wr g (P ++ (L ++ (R ++ S))) ∧ Below g w wr) (fun v u _ => (intOf u).toNat - (intOf v).toNat)
    case atStart => exact ⟨_, _, lo, hi, Lib.hid hs'.out.symm, Lib.hid hr'.out.symm, hlh, Nat.le_refl _, Nat.le_refl _, Lib.hid (fun c x y h1 h2 => by omega), Lib.hid (fun c x y h1 h2 => by omega), rfl, rfl, h'.out, Below.refl _ _⟩
    case round =>
      clear d1 d2 hmd
      obtain ⟨i, j, s, t, hi1, hj1, hst, hls, hth, hlo, hhi, rfl, rfl, hm, hbw⟩ := hrel
      have m1 := Lib.hid hm
      have b1 := Lib.hid hbw
      have bi : i ≤ 1000 := by have := hi1.out; have := hm'.out; omega
      have bj : j ≤ 1000 := by have := hj1.out; have := hm'.out; omega
      clear hm hbw
      by_cases hlt : i < j
      · obtain ⟨c, hc⟩ : ∃ c, (i + j) / 2 = c := ⟨_, rfl⟩
        obtain ⟨r, hr⟩ : ∃ r, c = a + r := ⟨c - a, by have := hi1.out; omega⟩
        have hrs : s ≤ r := by have := hi1.out; have := hj1.out; omega
        have hrt : r < t := by have := hi1.out; have := hj1.out; omega
        obtain ⟨k, hk⟩ : ∃ k, m + (H - 1 - r) = k := ⟨_, rfl⟩
        obtain ⟨x, hx⟩ : ∃ x, L[r]? = some x := ⟨L[r]'(by rw [hx'.out]; omega), List.getElem?_eq_getElem (by rw [hx'.out]; omega)⟩
        obtain ⟨y, hy⟩ : ∃ y, R[H - 1 - r]? = some y := ⟨R[H - 1 - r]'(by rw [hy'.out]; omega), List.getElem?_eq_getElem (by rw [hy'.out]; omega)⟩
        have hci : i ≤ c := by omega
        have hcj : c < j := by omega
        have hrr := Lib.hid hr
        have hx2 := Lib.hid hx
        have hy2 := Lib.hid hy
        have hk2 := Lib.hid hk
        have hc' : ((i : Int) + (j : Int)) / 2 = (c : Int) := by omega
        have hcn : (c : Int) < (n : Int) := by have := hm'.out; have := hb'.out; omega
        have hkn : (k : Int) < (n : Int) := by have := hb'.out; omega
        have ekw : IntKind.i64.wrap ((pp : Int) - (c : Int)) = (k : Int) := by
          have : (pp : Int) - (c : Int) = (k : Int) := by have := hpp'.out; have := hmid'.out; omega
          rw [this]; exact IntWalk.i64_in _ (by omega)
        obtain ⟨cc, ht⟩ : ∃ cc, Ordm.cmp y.1 x.1 = cc := ⟨_, rfl⟩
        have ht' := Lib.hid ht
        obtain ⟨c1, c2, c3⟩ := m1.out.at_ (k := k) (x := y) (by rw [← hy2.out, ← List.append_assoc]; exact at_in (a := m) (by rw [List.length_append, ha'.out, hx'.out]; exact hm'.out) hk2.out (by rw [hy'.out]; omega))
        obtain ⟨c4, c5, c6⟩ := m1.out.at_ (k := c) (x := x) (by rw [← hx2.out]; exact at_in (a := a) ha'.out hrr.out.symm (by rw [hx'.out]; omega))
        clear ht hc hr hx hy hk
        by_cases hcm : ltF cnum y x = true
        · have hhi2 : Hid (∀ c x y, r ≤ c → c < hi → L[c]? = some x → R[H - 1 - c]? = some y → ltF cnum y x = true) := by
            show ∀ c x y, _
            intro c' x' y' h1 h2 h3 h4
            have e1 := up_at cnum hL'.out h1 hx2.out h3
            have e2 := up_at cnum hR'.out (show H - 1 - c' ≤ H - 1 - r by omega) h4 hy2.out
            unfold ltF at hcm ⊢
            simp only [decide_eq_true_eq] at hcm ⊢
            omega
          have htn : cc < 0 := by have := cmp_neg y x; rw [hcm, ht'.out] at this; simpa using this
          have htd : decide (cc < 0) = true := by simpa using htn
          clear htn
          go_wp2_with fail
          go_region_held3 (fun w' => w'.cell? ⟨g, k * 3, none⟩ = some (V y.1) ∧ w'.cell? ⟨g, k * 3 + 1, none⟩ = some (K y.2.1) ∧ w'.cell? ⟨g, k * 3 + 2, none⟩ = some (K y.2.2) ∧ w'.cell? ⟨g, c * 3, none⟩ = some (V x.1) ∧ w'.cell? ⟨g, c * 3 + 1, none⟩ = some (K x.2.1) ∧ w'.cell? ⟨g, c * 3 + 2, none⟩ = some (K x.2.2) ∧ Below wr.heap.size wr w') (first | exact ⟨c1, c2, c3, c4, c5, c6, (Below.refl _ _).drew⟩ | assumption)
              ((go_at_call 50; (with_reducible refine (cmp3_is (x := y) (y := x) ht'.out _).mono ?_); rintro e w' ⟨rfl, hb⟩; have hS' := two_next (W := wr) (by assumption) hb; clear hb))
          go_wp2
          have b3 := Lib.hid hS'.2.2.2.2.2.2
          have m3 := Lib.hid (m1.out.next b3.out)
          have b4 := Lib.hid (b1.out.trans (b3.out.mono (Nat.le_of_lt m1.out.lt)))
          clear hS'
          go_roundw
          case rel => exact ⟨i, c, s, r, hi1, hrr, hrs, hls, by omega, hlo, hhi2, rfl, rfl, m3.out, b4.out⟩
          case measure => simp [intOf]; omega
        · have hlo2 : Hid (∀ c x y, lo ≤ c → c < r + 1 → L[c]? = some x → R[H - 1 - c]? = some y → ltF cnum y x = false) := by
            show ∀ c x y, _
            intro c' x' y' h1 h2 h3 h4
            have e1 := up_at cnum hL'.out (show c' ≤ r by omega) h3 hx2.out
            have e2 := up_at cnum hR'.out (show H - 1 - r ≤ H - 1 - c' by omega) hy2.out h4
            unfold ltF at hcm ⊢
            simp only [decide_eq_true_eq, decide_eq_false_iff_not] at hcm ⊢
            omega
          have htn : ¬ cc < 0 := fun h => hcm (by have := cmp_neg y x; rw [ht'.out] at this; rw [← this]; simpa using h)
          have htd : decide (cc < 0) = false := by simpa using htn
          clear htn
          go_wp2_with fail
          go_region_held3 (fun w' => w'.cell? ⟨g, k * 3, none⟩ = some (V y.1) ∧ w'.cell? ⟨g, k * 3 + 1, none⟩ = some (K y.2.1) ∧ w'.cell? ⟨g, k * 3 + 2, none⟩ = some (K y.2.2) ∧ w'.cell? ⟨g, c * 3, none⟩ = some (V x.1) ∧ w'.cell? ⟨g, c * 3 + 1, none⟩ = some (K x.2.1) ∧ w'.cell? ⟨g, c * 3 + 2, none⟩ = some (K x.2.2) ∧ Below wr.heap.size wr w') (first | exact ⟨c1, c2, c3, c4, c5, c6, (Below.refl _ _).drew⟩ | assumption)
              ((go_at_call 50; (with_reducible refine (cmp3_is (x := y) (y := x) ht'.out _).mono ?_); rintro e w' ⟨rfl, hb⟩; have hS' := two_next (W := wr) (by assumption) hb; clear hb))
          go_wp2
          have b3 := Lib.hid hS'.2.2.2.2.2.2
          have m3 := Lib.hid (m1.out.next b3.out)
          have b4 := Lib.hid (b1.out.trans (b3.out.mono (Nat.le_of_lt m1.out.lt)))
          clear hS'
          go_roundw
          case rel => exact ⟨c + 1, j, r + 1, t, Lib.hid (by have := hrr.out; omega), hj1, by omega, by omega, hth, hlo2, hhi, by go_num, rfl, m3.out, b4.out⟩
          case measure => simp [intOf]; omega
      · have hpe : s = t := by have := hi1.out; have := hj1.out; omega
        subst hpe
        obtain ⟨x1, x2⟩ := cross hL'.out hR'.out hx'.out hy'.out hcs'.out hls hth hlo.out hhi.out
        obtain ⟨L1, hL1⟩ : ∃ A, L.take s = A := ⟨_, rfl⟩
        obtain ⟨L2, hL2'⟩ : ∃ A, L.drop s = A := ⟨_, rfl⟩
        obtain ⟨R1, hR1⟩ : ∃ A, R.take (H - s) = A := ⟨_, rfl⟩
        obtain ⟨R2, hR2'⟩ : ∃ A, R.drop (H - s) = A := ⟨_, rfl⟩
        rw [hL1, hR2'] at x1
        rw [hL2', hR1] at x2
        have eL : L = L1 ++ L2 := by rw [← hL1, ← hL2', List.take_append_drop]
        have eR : R = R1 ++ R2 := by rw [← hR1, ← hR2', List.take_append_drop]
        have hnn := hn'.out
        have u0 := hL'.out
        have v0 := hR'.out
        rw [eL, eR] at hnn
        rw [eL] at u0
        rw [eR] at v0
        have l1 : Hid (L1.length = s) := by show _ = _; rw [← hL1, List.length_take, hx'.out]; omega
        have l2 : Hid (L2.length = x0 - s) := by show _ = _; rw [← hL2', List.length_drop, hx'.out]
        have r1 : Hid (R1.length = H - s) := by show _ = _; rw [← hR1, List.length_take, hy'.out]; omega
        have r2 : Hid (R2.length = y0 - (H - s)) := by show _ = _; rw [← hR2', List.length_drop, hy'.out]
        have u1 := Lib.hid (up_left cnum u0)
        have u2 := Lib.hid (up_right cnum u0)
        have v1 := Lib.hid (up_left cnum v0)
        have v2 := Lib.hid (up_right cnum v0)
        have e6 : Hid (P ++ (mrg (ltF cnum) L1 R1 ++ (mrg (ltF cnum) L2 R2 ++ S)) = P ++ (mrg (ltF cnum) L R ++ S)) := by show _ = _; rw [eL, eR, mrg_parts _ _ _ _ _ x1 x2]; simp
        have e3 : Hid (P ++ (L ++ (R ++ S)) = P ++ (L1 ++ (L2 ++ (R1 ++ (R2 ++ S))))) := by show _ = _; rw [eL, eR]; simp
        have e1 : Hid (P ++ (L ++ (R ++ S)) = (P ++ L1) ++ (L2 ++ (R1 ++ (R2 ++ S)))) := by show _ = _; rw [eL, eR]; simp
        have e2 : Hid ((P ++ L1) ++ (R1 ++ (L2 ++ (R2 ++ S))) = P ++ (L1 ++ (R1 ++ (L2 ++ (R2 ++ S))))) := by show _ = _; simp
        have e4 : Hid (P ++ (mrg (ltF cnum) L1 R1 ++ (L2 ++ (R2 ++ S))) = (P ++ mrg (ltF cnum) L1 R1) ++ (L2 ++ (R2 ++ S))) := by show _ = _; simp
        have e5 : Hid ((P ++ mrg (ltF cnum) L1 R1) ++ (mrg (ltF cnum) L2 R2 ++ S) = P ++ (mrg (ltF cnum) L1 R1 ++ (mrg (ltF cnum) L2 R2 ++ S))) := by show _ = _; simp
        have p1 : Hid ((P ++ L1).length = i) := by show _ = _; rw [List.length_append, ha'.out, l1.out]; exact hi1.out.symm
        have p3 : Hid ((P ++ mrg (ltF cnum) L1 R1).length = mid) := by show _ = _; rw [List.length_append, ha'.out, mrg_length, l1.out, r1.out, ← hmid'.out]; omega
        have ln1 : Hid (((P ++ L1) ++ (L2 ++ (R1 ++ (R2 ++ S)))).length = n) := by show _ = _; rw [← hnn]; simp only [List.length_append]; omega
        have ln2 : Hid ((P ++ (L1 ++ (R1 ++ (L2 ++ (R2 ++ S))))).length = n) := by show _ = _; rw [← hnn]; simp only [List.length_append]; omega
        have ln3 : Hid (((P ++ mrg (ltF cnum) L1 R1) ++ (L2 ++ (R2 ++ S))).length = n) := by show _ = _; rw [← hnn]; simp only [List.length_append, mrg_length]; omega
        obtain ⟨en, hen⟩ : ∃ en, m + (H - s) = en := ⟨_, rfl⟩
        have ee : (mid : Int) + (m : Int) - (i : Int) = (en : Int) := by have := hi1.out; have := hmid'.out; omega
        have ben : en ≤ 1000 := by have := hb'.out; omega
        have ee2 : en ≤ b := by have := hb'.out; omega
        have hjj : i = j := by rw [hi1.out, hj1.out]
        subst hjj
        have g1 := hi1.out
        have g2 := hm'.out
        have g3 := hb'.out
        have g4 := hH'.out
        have g5 := hmid'.out
        have g6 := hN'.out
        clear x1 x2 hL1 hL2' hR1 hR2' eL eR hnn u0 v0
        by_cases q0 : s = 0
        · by_cases q1 : s = x0
          · by_cases q2 : s = H
            · by_cases q3 : H = s + y0
              · exfalso
                omega
              · exfalso
                omega
            · by_cases q3 : H = s + y0
              · exfalso
                omega
              · exfalso
                omega
          · by_cases q2 : s = H
            · by_cases q3 : H = s + y0
              · exfalso
                omega
              · exfalso
                omega
            · by_cases q3 : H = s + y0
              · have t1 : decide (i < m) = true := by simp; omega
                have t2 : decide (m < en) = true := by simp; omega
                have t3 : decide (a < i) = false := by simp; omega
                have t4 : decide (i < mid) = true := by simp; omega
                have t5 : decide (mid < en) = true := by simp; omega
                have t6 : decide (en < b) = false := by simp; omega
                have n1 := Lib.hid (List.eq_nil_of_length_eq_zero (l := L1) (by rw [l1.out]; omega))
                have n4 := Lib.hid (List.eq_nil_of_length_eq_zero (l := R2) (by rw [r2.out]; omega))
                have o2 : 1 ≤ L2.length := by rw [l2.out]; omega
                have o3 : 1 ≤ R1.length := by rw [r1.out]; omega
                have C1 := Lib.hid fun w h => rot_any g (P ++ L1) L2 R1 (R2 ++ S) i m en n p1.out (by rw [l2.out]; omega) (by rw [r1.out]; omega) o2 o3 ln1.out h9 w h
                clear o2
                clear o3
                have M1 := Lib.hid (e1.out ▸ m1.out)
                clear g1 g2 g3 g4 g5 g6 hen
                go_wp2_with fail
                (with_reducible refine (C1.out _ M1.out).mono ?_)
                rintro e w5 ⟨rfl, hm5, hb5⟩
                have m5 := Lib.hid hm5
                have b5 := Lib.hid (b1.out.trans hb5)
                clear hm5 hb5
                have N1 := Lib.hid (e2.out ▸ m5.out)
                have N2 := Lib.hid (skip2 (P := P) (S := L2 ++ (R2 ++ S)) (.inl n1.out) ▸ N1.out)
                have N3 := Lib.hid (skip3 (P := P) (L1 := L1) (R1 := R1) (S := S) (.inr n4.out) ▸ N2.out)
                go_wp2
                go_end0
                exact ⟨rfl, e6.out ▸ N3.out, b5.out⟩
              · have t1 : decide (i < m) = true := by simp; omega
                have t2 : decide (m < en) = true := by simp; omega
                have t3 : decide (a < i) = false := by simp; omega
                have t4 : decide (i < mid) = true := by simp; omega
                have t5 : decide (mid < en) = true := by simp; omega
                have t6 : decide (en < b) = true := by simp; omega
                have n1 := Lib.hid (List.eq_nil_of_length_eq_zero (l := L1) (by rw [l1.out]; omega))
                have o2 : 1 ≤ L2.length := by rw [l2.out]; omega
                have o3 : 1 ≤ R1.length := by rw [r1.out]; omega
                have o4 : 1 ≤ R2.length := by rw [r2.out]; omega
                have C1 := Lib.hid fun w h => rot_any g (P ++ L1) L2 R1 (R2 ++ S) i m en n p1.out (by rw [l2.out]; omega) (by rw [r1.out]; omega) o2 o3 ln1.out h9 w h
                have C3 := Lib.hid fun w h => ih.out g (P ++ mrg (ltF cnum) L1 R1) L2 R2 S mid en b n p3.out (by rw [l2.out]; omega) (by rw [r2.out]; omega) o2 o4 (by rw [l2.out, r2.out]; omega) u2.out v2.out ln3.out h9 w h
                clear o2
                clear o3
                clear o4
                have M1 := Lib.hid (e1.out ▸ m1.out)
                clear g1 g2 g3 g4 g5 g6 hen
                go_wp2_with fail
                (with_reducible refine (C1.out _ M1.out).mono ?_)
                rintro e w5 ⟨rfl, hm5, hb5⟩
                have m5 := Lib.hid hm5
                have b5 := Lib.hid (b1.out.trans hb5)
                clear hm5 hb5
                have N1 := Lib.hid (e2.out ▸ m5.out)
                have N2 := Lib.hid (skip2 (P := P) (S := L2 ++ (R2 ++ S)) (.inl n1.out) ▸ N1.out)
                have M3 := Lib.hid (e4.out ▸ N2.out)
                go_wp2_with fail
                (with_reducible refine (C3.out _ M3.out).mono ?_)
                rintro e w7 ⟨rfl, hm7, hb7⟩
                have m7 := Lib.hid hm7
                have b7 := Lib.hid (b5.out.trans hb7)
                clear hm7 hb7
                have N3 := Lib.hid (e5.out ▸ m7.out)
                go_wp2
                go_end0
                exact ⟨rfl, e6.out ▸ N3.out, b7.out⟩
        · by_cases q1 : s = x0
          · by_cases q2 : s = H
            · by_cases q3 : H = s + y0
              · exfalso
                omega
              · have t1 : decide (i < m) = false := by simp; omega
                have t2 : decide (m < en) = false := by simp; omega
                have t3 : decide (a < i) = true := by simp; omega
                have t4 : decide (i < mid) = false := by simp; omega
                have t5 : decide (mid < en) = false := by simp; omega
                have t6 : decide (en < b) = true := by simp; omega
                have n2 := Lib.hid (List.eq_nil_of_length_eq_zero (l := L2) (by rw [l2.out]; omega))
                have n3 := Lib.hid (List.eq_nil_of_length_eq_zero (l := R1) (by rw [r1.out]; omega))
                have o1 : 1 ≤ L1.length := by rw [l1.out]; omega
                have o4 : 1 ≤ R2.length := by rw [r2.out]; omega
                clear o1
                clear o4
                have N1 := Lib.hid (skip1 (P := P) (L1 := L1) (S := R2 ++ S) (.inl n2.out) ▸ e3.out ▸ m1.out)
                have N2 := Lib.hid (skip2 (P := P) (S := L2 ++ (R2 ++ S)) (.inr n3.out) ▸ N1.out)
                have N3 := Lib.hid (skip3 (P := P) (L1 := L1) (R1 := R1) (S := S) (.inl n2.out) ▸ N2.out)
                clear g1 g2 g3 g4 g5 g6 hen
                go_wp2
                go_end0
                exact ⟨rfl, e6.out ▸ N3.out, b1.out⟩
            · by_cases q3 : H = s + y0
              · exfalso
                omega
              · have t1 : decide (i < m) = false := by simp; omega
                have t2 : decide (m < en) = true := by simp; omega
                have t3 : decide (a < i) = true := by simp; omega
                have t4 : decide (i < mid) = true := by simp; omega
                have t5 : decide (mid < en) = false := by simp; omega
                have t6 : decide (en < b) = true := by simp; omega
                have n2 := Lib.hid (List.eq_nil_of_length_eq_zero (l := L2) (by rw [l2.out]; omega))
                have o1 : 1 ≤ L1.length := by rw [l1.out]; omega
                have o3 : 1 ≤ R1.length := by rw [r1.out]; omega
                have o4 : 1 ≤ R2.length := by rw [r2.out]; omega
                have C2 := Lib.hid fun w h => ih.out g P L1 R1 (L2 ++ (R2 ++ S)) a i mid n ha'.out (by rw [l1.out]; omega) (by rw [r1.out]; omega) o1 o3 (by rw [l1.out, r1.out]; omega) u1.out v1.out ln2.out h9 w h
                clear o1
                clear o3
                clear o4
                have N1 := Lib.hid (skip1 (P := P) (L1 := L1) (S := R2 ++ S) (.inl n2.out) ▸ e3.out ▸ m1.out)
                clear g1 g2 g3 g4 g5 g6 hen
                go_wp2_with fail
                (with_reducible refine (C2.out _ N1.out).mono ?_)
                rintro e w6 ⟨rfl, hm6, hb6⟩
                have m6 := Lib.hid hm6
                have b6 := Lib.hid (b1.out.trans hb6)
                clear hm6 hb6
                have N2 := Lib.hid m6.out
                have N3 := Lib.hid (skip3 (P := P) (L1 := L1) (R1 := R1) (S := S) (.inl n2.out) ▸ N2.out)
                go_wp2
                go_end0
                exact ⟨rfl, e6.out ▸ N3.out, b6.out⟩
          · by_cases q2 : s = H
            · by_cases q3 : H = s + y0
              · exfalso
                omega
              · have t1 : decide (i < m) = true := by simp; omega
                have t2 : decide (m < en) = false := by simp; omega
                have t3 : decide (a < i) = true := by simp; omega
                have t4 : decide (i < mid) = false := by simp; omega
                have t5 : decide (mid < en) = true := by simp; omega
                have t6 : decide (en < b) = true := by simp; omega
                have n3 := Lib.hid (List.eq_nil_of_length_eq_zero (l := R1) (by rw [r1.out]; omega))
                have o1 : 1 ≤ L1.length := by rw [l1.out]; omega
                have o2 : 1 ≤ L2.length := by rw [l2.out]; omega
                have o4 : 1 ≤ R2.length := by rw [r2.out]; omega
                have C3 := Lib.hid fun w h => ih.out g (P ++ mrg (ltF cnum) L1 R1) L2 R2 S mid en b n p3.out (by rw [l2.out]; omega) (by rw [r2.out]; omega) o2 o4 (by rw [l2.out, r2.out]; omega) u2.out v2.out ln3.out h9 w h
                clear o1
                clear o2
                clear o4
                have N1 := Lib.hid (skip1 (P := P) (L1 := L1) (S := R2 ++ S) (.inr n3.out) ▸ e3.out ▸ m1.out)
                have N2 := Lib.hid (skip2 (P := P) (S := L2 ++ (R2 ++ S)) (.inr n3.out) ▸ N1.out)
                have M3 := Lib.hid (e4.out ▸ N2.out)
                clear g1 g2 g3 g4 g5 g6 hen
                go_wp2_with fail
                (with_reducible refine (C3.out _ M3.out).mono ?_)
                rintro e w7 ⟨rfl, hm7, hb7⟩
                have m7 := Lib.hid hm7
                have b7 := Lib.hid (b1.out.trans hb7)
                clear hm7 hb7
                have N3 := Lib.hid (e5.out ▸ m7.out)
                go_wp2
                go_end0
                exact ⟨rfl, e6.out ▸ N3.out, b7.out⟩
            · by_cases q3 : H = s + y0
              · have t1 : decide (i < m) = true := by simp; omega
                have t2 : decide (m < en) = true := by simp; omega
                have t3 : decide (a < i) = true := by simp; omega
                have t4 : decide (i < mid) = true := by simp; omega
                have t5 : decide (mid < en) = true := by simp; omega
                have t6 : decide (en < b) = false := by simp; omega
                have n4 := Lib.hid (List.eq_nil_of_length_eq_zero (l := R2) (by rw [r2.out]; omega))
                have o1 : 1 ≤ L1.length := by rw [l1.out]; omega
                have o2 : 1 ≤ L2.length := by rw [l2.out]; omega
                have o3 : 1 ≤ R1.length := by rw [r1.out]; omega
                have C1 := Lib.hid fun w h => rot_any g (P ++ L1) L2 R1 (R2 ++ S) i m en n p1.out (by rw [l2.out]; omega) (by rw [r1.out]; omega) o2 o3 ln1.out h9 w h
                have C2 := Lib.hid fun w h => ih.out g P L1 R1 (L2 ++ (R2 ++ S)) a i mid n ha'.out (by rw [l1.out]; omega) (by rw [r1.out]; omega) o1 o3 (by rw [l1.out, r1.out]; omega) u1.out v1.out ln2.out h9 w h
                clear o1
                clear o2
                clear o3
                have M1 := Lib.hid (e1.out ▸ m1.out)
                clear g1 g2 g3 g4 g5 g6 hen
                go_wp2_with fail
                (with_reducible refine (C1.out _ M1.out).mono ?_)
                rintro e w5 ⟨rfl, hm5, hb5⟩
                have m5 := Lib.hid hm5
                have b5 := Lib.hid (b1.out.trans hb5)
                clear hm5 hb5
                have N1 := Lib.hid (e2.out ▸ m5.out)
                go_wp2_with fail
                (with_reducible refine (C2.out _ N1.out).mono ?_)
                rintro e w6 ⟨rfl, hm6, hb6⟩
                have m6 := Lib.hid hm6
                have b6 := Lib.hid (b5.out.trans hb6)
                clear hm6 hb6
                have N2 := Lib.hid m6.out
                have N3 := Lib.hid (skip3 (P := P) (L1 := L1) (R1 := R1) (S := S) (.inr n4.out) ▸ N2.out)
                go_wp2
                go_end0
                exact ⟨rfl, e6.out ▸ N3.out, b6.out⟩
              · have t1 : decide (i < m) = true := by simp; omega
                have t2 : decide (m < en) = true := by simp; omega
                have t3 : decide (a < i) = true := by simp; omega
                have t4 : decide (i < mid) = true := by simp; omega
                have t5 : decide (mid < en) = true := by simp; omega
                have t6 : decide (en < b) = true := by simp; omega
                have o1 : 1 ≤ L1.length := by rw [l1.out]; omega
                have o2 : 1 ≤ L2.length := by rw [l2.out]; omega
                have o3 : 1 ≤ R1.length := by rw [r1.out]; omega
                have o4 : 1 ≤ R2.length := by rw [r2.out]; omega
                have C1 := Lib.hid fun w h => rot_any g (P ++ L1) L2 R1 (R2 ++ S) i m en n p1.out (by rw [l2.out]; omega) (by rw [r1.out]; omega) o2 o3 ln1.out h9 w h
                have C2 := Lib.hid fun w h => ih.out g P L1 R1 (L2 ++ (R2 ++ S)) a i mid n ha'.out (by rw [l1.out]; omega) (by rw [r1.out]; omega) o1 o3 (by rw [l1.out, r1.out]; omega) u1.out v1.out ln2.out h9 w h
                have C3 := Lib.hid fun w h => ih.out g (P ++ mrg (ltF cnum) L1 R1) L2 R2 S mid en b n p3.out (by rw [l2.out]; omega) (by rw [r2.out]; omega) o2 o4 (by rw [l2.out, r2.out]; omega) u2.out v2.out ln3.out h9 w h
                clear o1
                clear o2
                clear o3
                clear o4
                have M1 := Lib.hid (e1.out ▸ m1.out)
                clear g1 g2 g3 g4 g5 g6 hen
                go_wp2_with fail
                (with_reducible refine (C1.out _ M1.out).mono ?_)
                rintro e w5 ⟨rfl, hm5, hb5⟩
                have m5 := Lib.hid hm5
                have b5 := Lib.hid (b1.out.trans hb5)
                clear hm5 hb5
                have N1 := Lib.hid (e2.out ▸ m5.out)
                go_wp2_with fail
                (with_reducible refine (C2.out _ N1.out).mono ?_)
                rintro e w6 ⟨rfl, hm6, hb6⟩
                have m6 := Lib.hid hm6
                have b6 := Lib.hid (b5.out.trans hb6)
                clear hm6 hb6
                have N2 := Lib.hid m6.out
                have M3 := Lib.hid (e4.out ▸ N2.out)
                go_wp2_with fail
                (with_reducible refine (C3.out _ M3.out).mono ?_)
                rintro e w7 ⟨rfl, hm7, hb7⟩
                have m7 := Lib.hid hm7
                have b7 := Lib.hid (b6.out.trans hb7)
                clear hm7 hb7
                have N3 := Lib.hid (e5.out ▸ m7.out)
                go_wp2
                go_end0
                exact ⟨rfl, e6.out ▸ N3.out, b7.out⟩
  · have hgt : decide ((mid : Int) < (m : Int)) = false := by simp; omega
    have e7 : a = s0 := by omega
    have e8 : m = r0 := by omega
    subst e7 e8
    clear h ha hm hb hn hL hR hx0 hy0 hn1 hcs hs0 hr0 hH hmid hpp hN
    go_wp2
    go_loopw [20, 21] (fun v u wr => ∃ i j s t, Hid (i = a + s) ∧ Hid (j = a + t) ∧ s ≤ t ∧ lo ≤ s ∧ t ≤ hi ∧ Hid (∀ c x y, lo ≤ c → c < s → L[c]? = some x → R[H - 1 - c]? = some y → ltF cnum y x = false) ∧ Hid (∀ c x y, t ≤ c → c < hi → L[c]? = some x → R[H - 1 - c]? = some y → ltF cnum y x = true) ∧ v = .int .i64 ((i : Nat) : Int) ∧ u = .int .i64 ((j : Nat) : Int) ∧ Mem wr g (P ++ (L ++ (R ++ S))) ∧ Below g w wr) (fun v u _ => (intOf u).toNat - (intOf v).toNat)
    case atStart => exact ⟨_, _, lo, hi, Lib.hid hs'.out.symm, Lib.hid hr'.out.symm, hlh, Nat.le_refl _, Nat.le_refl _, Lib.hid (fun c x y h1 h2 => by omega), Lib.hid (fun c x y h1 h2 => by omega), rfl, rfl, h'.out, Below.refl _ _⟩
    case round =>
      clear d1 d2 hmd
      obtain ⟨i, j, s, t, hi1, hj1, hst, hls, hth, hlo, hhi, rfl, rfl, hm, hbw⟩ := hrel
      have m1 := Lib.hid hm
      have b1 := Lib.hid hbw
      have bi : i ≤ 1000 := by have := hi1.out; have := hm'.out; omega
      have bj : j ≤ 1000 := by have := hj1.out; have := hm'.out; omega
      clear hm hbw
      by_cases hlt : i < j
      · obtain ⟨c, hc⟩ : ∃ c, (i + j) / 2 = c := ⟨_, rfl⟩
        obtain ⟨r, hr⟩ : ∃ r, c = a + r := ⟨c - a, by have := hi1.out; omega⟩
        have hrs : s ≤ r := by have := hi1.out; have := hj1.out; omega
        have hrt : r < t := by have := hi1.out; have := hj1.out; omega
        obtain ⟨k, hk⟩ : ∃ k, m + (H - 1 - r) = k := ⟨_, rfl⟩
        obtain ⟨x, hx⟩ : ∃ x, L[r]? = some x := ⟨L[r]'(by rw [hx'.out]; omega), List.getElem?_eq_getElem (by rw [hx'.out]; omega)⟩
        obtain ⟨y, hy⟩ : ∃ y, R[H - 1 - r]? = some y := ⟨R[H - 1 - r]'(by rw [hy'.out]; omega), List.getElem?_eq_getElem (by rw [hy'.out]; omega)⟩
        have hci : i ≤ c := by omega
        have hcj : c < j := by omega
        have hrr := Lib.hid hr
        have hx2 := Lib.hid hx
        have hy2 := Lib.hid hy
        have hk2 := Lib.hid hk
        have hc' : ((i : Int) + (j : Int)) / 2 = (c : Int) := by omega
        have hcn : (c : Int) < (n : Int) := by have := hm'.out; have := hb'.out; omega
        have hkn : (k : Int) < (n : Int) := by have := hb'.out; omega
        have ekw : IntKind.i64.wrap ((pp : Int) - (c : Int)) = (k : Int) := by
          have : (pp : Int) - (c : Int) = (k : Int) := by have := hpp'.out; have := hmid'.out; omega
          rw [this]; exact IntWalk.i64_in _ (by omega)
        obtain ⟨cc, ht⟩ : ∃ cc, Ordm.cmp y.1 x.1 = cc := ⟨_, rfl⟩
        have ht' := Lib.hid ht
        obtain ⟨c1, c2, c3⟩ := m1.out.at_ (k := k) (x := y) (by rw [← hy2.out, ← List.append_assoc]; exact at_in (a := m) (by rw [List.length_append, ha'.out, hx'.out]; exact hm'.out) hk2.out (by rw [hy'.out]; omega))
        obtain ⟨c4, c5, c6⟩ := m1.out.at_ (k := c) (x := x) (by rw [← hx2.out]; exact at_in (a := a) ha'.out hrr.out.symm (by rw [hx'.out]; omega))
        clear ht hc hr hx hy hk
        by_cases hcm : ltF cnum y x = true
        · have hhi2 : Hid (∀ c x y, r ≤ c → c < hi → L[c]? = some x → R[H - 1 - c]? = some y → ltF cnum y x = true) := by
            show ∀ c x y, _
            intro c' x' y' h1 h2 h3 h4
            have e1 := up_at cnum hL'.out h1 hx2.out h3
            have e2 := up_at cnum hR'.out (show H - 1 - c' ≤ H - 1 - r by omega) h4 hy2.out
            unfold ltF at hcm ⊢
            simp only [decide_eq_true_eq] at hcm ⊢
            omega
          have htn : cc < 0 := by have := cmp_neg y x; rw [hcm, ht'.out] at this; simpa using this
          have htd : decide (cc < 0) = true := by simpa using htn
          clear htn
          go_wp2_with fail
          go_region_held3 (fun w' => w'.cell? ⟨g, k * 3, none⟩ = some (V y.1) ∧ w'.cell? ⟨g, k * 3 + 1, none⟩ = some (K y.2.1) ∧ w'.cell? ⟨g, k * 3 + 2, none⟩ = some (K y.2.2) ∧ w'.cell? ⟨g, c * 3, none⟩ = some (V x.1) ∧ w'.cell? ⟨g, c * 3 + 1, none⟩ = some (K x.2.1) ∧ w'.cell? ⟨g, c * 3 + 2, none⟩ = some (K x.2.2) ∧ Below wr.heap.size wr w') (first | exact ⟨c1, c2, c3, c4, c5, c6, (Below.refl _ _).drew⟩ | assumption)
              ((go_at_call 50; (with_reducible refine (cmp3_is (x := y) (y := x) ht'.out _).mono ?_); rintro e w' ⟨rfl, hb⟩; have hS' := two_next (W := wr) (by assumption) hb; clear hb))
          go_wp2
          have b3 := Lib.hid hS'.2.2.2.2.2.2
          have m3 := Lib.hid (m1.out.next b3.out)
          have b4 := Lib.hid (b1.out.trans (b3.out.mono (Nat.le_of_lt m1.out.lt)))
          clear hS'
          go_roundw
          case rel => exact ⟨i, c, s, r, hi1, hrr, hrs, hls, by omega, hlo, hhi2, rfl, rfl, m3.out, b4.out⟩
          case measure => simp [intOf]; omega
        · have hlo2 : Hid (∀ c x y, lo ≤ c → c < r + 1 → L[c]? = some x → R[H - 1 - c]? = some y → ltF cnum y x = false) := by
            show ∀ c x y, _
            intro c' x' y' h1 h2 h3 h4
            have e1 := up_at cnum hL'.out (show c' ≤ r by omega) h3 hx2.out
            have e2 := up_at cnum hR'.out (show H - 1 - r ≤ H - 1 - c' by omega) hy2.out h4
            unfold ltF at hcm ⊢
            simp only [decide_eq_true_eq, decide_eq_false_iff_not] at hcm ⊢
            omega
          have htn : ¬ cc < 0 := fun h => hcm (by have := cmp_neg y x; rw [ht'.out] at this; rw [← this]; simpa using h)
          have htd : decide (cc < 0) = false := by simpa using htn
          clear htn
          go_wp2_with fail
          go_region_held3 (fun w' => w'.cell? ⟨g, k * 3, none⟩ = some (V y.1) ∧ w'.cell? ⟨g, k * 3 + 1, none⟩ = some (K y.2.1) ∧ w'.cell? ⟨g, k * 3 + 2, none⟩ = some (K y.2.2) ∧ w'.cell? ⟨g, c * 3, none⟩ = some (V x.1) ∧ w'.cell? ⟨g, c * 3 + 1, none⟩ = some (K x.2.1) ∧ w'.cell? ⟨g, c * 3 + 2, none⟩ = some (K x.2.2) ∧ Below wr.heap.size wr w') (first | exact ⟨c1, c2, c3, c4, c5, c6, (Below.refl _ _).drew⟩ | assumption)
              ((go_at_call 50; (with_reducible refine (cmp3_is (x := y) (y := x) ht'.out _).mono ?_); rintro e w' ⟨rfl, hb⟩; have hS' := two_next (W := wr) (by assumption) hb; clear hb))
          go_wp2
          have b3 := Lib.hid hS'.2.2.2.2.2.2
          have m3 := Lib.hid (m1.out.next b3.out)
          have b4 := Lib.hid (b1.out.trans (b3.out.mono (Nat.le_of_lt m1.out.lt)))
          clear hS'
          go_roundw
          case rel => exact ⟨c + 1, j, r + 1, t, Lib.hid (by have := hrr.out; omega), hj1, by omega, by omega, hth, hlo2, hhi, by go_num, rfl, m3.out, b4.out⟩
          case measure => simp [intOf]; omega
      · have hpe : s = t := by have := hi1.out; have := hj1.out; omega
        subst hpe
        obtain ⟨x1, x2⟩ := cross hL'.out hR'.out hx'.out hy'.out hcs'.out hls hth hlo.out hhi.out
        obtain ⟨L1, hL1⟩ : ∃ A, L.take s = A := ⟨_, rfl⟩
        obtain ⟨L2, hL2'⟩ : ∃ A, L.drop s = A := ⟨_, rfl⟩
        obtain ⟨R1, hR1⟩ : ∃ A, R.take (H - s) = A := ⟨_, rfl⟩
        obtain ⟨R2, hR2'⟩ : ∃ A, R.drop (H - s) = A := ⟨_, rfl⟩
        rw [hL1, hR2'] at x1
        rw [hL2', hR1] at x2
        have eL : L = L1 ++ L2 := by rw [← hL1, ← hL2', List.take_append_drop]
        have eR : R = R1 ++ R2 := by rw [← hR1, ← hR2', List.take_append_drop]
        have hnn := hn'.out
        have u0 := hL'.out
        have v0 := hR'.out
        rw [eL, eR] at hnn
        rw [eL] at u0
        rw [eR] at v0
        have l1 : Hid (L1.length = s) := by show _ = _; rw [← hL1, List.length_take, hx'.out]; omega
        have l2 : Hid (L2.length = x0 - s) := by show _ = _; rw [← hL2', List.length_drop, hx'.out]
        have r1 : Hid (R1.length = H - s) := by show _ = _; rw [← hR1, List.length_take, hy'.out]; omega
        have r2 : Hid (R2.length = y0 - (H - s)) := by show _ = _; rw [← hR2', List.length_drop, hy'.out]
        have u1 := Lib.hid (up_left cnum u0)
        have u2 := Lib.hid (up_right cnum u0)
        have v1 := Lib.hid (up_left cnum v0)
        have v2 := Lib.hid (up_right cnum v0)
        have e6 : Hid (P ++ (mrg (ltF cnum) L1 R1 ++ (mrg (ltF cnum) L2 R2 ++ S)) = P ++ (mrg (ltF cnum) L R ++ S)) := by show _ = _; rw [eL, eR, mrg_parts _ _ _ _ _ x1 x2]; simp
        have e3 : Hid (P ++ (L ++ (R ++ S)) = P ++ (L1 ++ (L2 ++ (R1 ++ (R2 ++ S))))) := by show _ = _; rw [eL, eR]; simp
        have e1 : Hid (P ++ (L ++ (R ++ S)) = (P ++ L1) ++ (L2 ++ (R1 ++ (R2 ++ S)))) := by show _ = _; rw [eL, eR]; simp
        have e2 : Hid ((P ++ L1) ++ (R1 ++ (L2 ++ (R2 ++ S))) = P ++ (L1 ++ (R1 ++ (L2 ++ (R2 ++ S))))) := by show _ = _; simp
        have e4 : Hid (P ++ (mrg (ltF cnum) L1 R1 ++ (L2 ++ (R2 ++ S))) = (P ++ mrg (ltF cnum) L1 R1) ++ (L2 ++ (R2 ++ S))) := by show _ = _; simp
        have e5 : Hid ((P ++ mrg (ltF cnum) L1 R1) ++ (mrg (ltF cnum) L2 R2 ++ S) = P ++ (mrg (ltF cnum) L1 R1 ++ (mrg (ltF cnum) L2 R2 ++ S))) := by show _ = _; simp
        have p1 : Hid ((P ++ L1).length = i) := by show _ = _; rw [List.length_append, ha'.out, l1.out]; exact hi1.out.symm
        have p3 : Hid ((P ++ mrg (ltF cnum) L1 R1).length = mid) := by show _ = _; rw [List.length_append, ha'.out, mrg_length, l1.out, r1.out, ← hmid'.out]; omega
        have ln1 : Hid (((P ++ L1) ++ (L2 ++ (R1 ++ (R2 ++ S)))).length = n) := by show _ = _; rw [← hnn]; simp only [List.length_append]; omega
        have ln2 : Hid ((P ++ (L1 ++ (R1 ++ (L2 ++ (R2 ++ S))))).length = n) := by show _ = _; rw [← hnn]; simp only [List.length_append]; omega
        have ln3 : Hid (((P ++ mrg (ltF cnum) L1 R1) ++ (L2 ++ (R2 ++ S))).length = n) := by show _ = _; rw [← hnn]; simp only [List.length_append, mrg_length]; omega
        obtain ⟨en, hen⟩ : ∃ en, m + (H - s) = en := ⟨_, rfl⟩
        have ee : (mid : Int) + (m : Int) - (i : Int) = (en : Int) := by have := hi1.out; have := hmid'.out; omega
        have ben : en ≤ 1000 := by have := hb'.out; omega
        have ee2 : en ≤ b := by have := hb'.out; omega
        have hjj : i = j := by rw [hi1.out, hj1.out]
        subst hjj
        have g1 := hi1.out
        have g2 := hm'.out
        have g3 := hb'.out
        have g4 := hH'.out
        have g5 := hmid'.out
        have g6 := hN'.out
        clear x1 x2 hL1 hL2' hR1 hR2' eL eR hnn u0 v0
        by_cases q0 : s = 0
        · by_cases q1 : s = x0
          · by_cases q2 : s = H
            · by_cases q3 : H = s + y0
              · exfalso
                omega
              · exfalso
                omega
            · by_cases q3 : H = s + y0
              · exfalso
                omega
              · exfalso
                omega
          · by_cases q2 : s = H
            · by_cases q3 : H = s + y0
              · exfalso
                omega
              · exfalso
                omega
            · by_cases q3 : H = s + y0
              · have t1 : decide (i < m) = true := by simp; omega
                have t2 : decide (m < en) = true := by simp; omega
                have t3 : decide (a < i) = false := by simp; omega
                have t4 : decide (i < mid) = true := by simp; omega
                have t5 : decide (mid < en) = true := by simp; omega
                have t6 : decide (en < b) = false := by simp; omega
                have n1 := Lib.hid (List.eq_nil_of_length_eq_zero (l := L1) (by rw [l1.out]; omega))
                have n4 := Lib.hid (List.eq_nil_of_length_eq_zero (l := R2) (by rw [r2.out]; omega))
                have o2 : 1 ≤ L2.length := by rw [l2.out]; omega
                have o3 : 1 ≤ R1.length := by rw [r1.out]; omega
                have C1 := Lib.hid fun w h => rot_any g (P ++ L1) L2 R1 (R2 ++ S) i m en n p1.out (by rw [l2.out]; omega) (by rw [r1.out]; omega) o2 o3 ln1.out h9 w h
                clear o2
                clear o3
                have M1 := Lib.hid (e1.out ▸ m1.out)
                clear g1 g2 g3 g4 g5 g6 hen
                go_wp2_with fail
                (with_reducible refine (C1.out _ M1.out).mono ?_)
                rintro e w5 ⟨rfl, hm5, hb5⟩
                have m5 := Lib.hid hm5
                have b5 := Lib.hid (b1.out.trans hb5)
                clear hm5 hb5
                have N1 := Lib.hid (e2.out ▸ m5.out)
                have N2 := Lib.hid (skip2 (P := P) (S := L2 ++ (R2 ++ S)) (.inl n1.out) ▸ N1.out)
                have N3 := Lib.hid (skip3 (P := P) (L1 := L1) (R1 := R1) (S := S) (.inr n4.out) ▸ N2.out)
                go_wp2
                go_end0
                exact ⟨rfl, e6.out ▸ N3.out, b5.out⟩
              · have t1 : decide (i < m) = true := by simp; omega
                have t2 : decide (m < en) = true := by simp; omega
                have t3 : decide (a < i) = false := by simp; omega
                have t4 : decide (i < mid) = true := by simp; omega
                have t5 : decide (mid < en) = true := by simp; omega
                have t6 : decide (en < b) = true := by simp; omega
                have n1 := Lib.hid (List.eq_nil_of_length_eq_zero (l := L1) (by rw [l1.out]; omega))
                have o2 : 1 ≤ L2.length := by rw [l2.out]; omega
                have o3 : 1 ≤ R1.length := by rw [r1.out]; omega
                have o4 : 1 ≤ R2.length := by rw [r2.out]; omega
                have C1 := Lib.hid fun w h => rot_any g (P ++ L1) L2 R1 (R2 ++ S) i m en n p1.out (by rw [l2.out]; omega) (by rw [r1.out]; omega) o2 o3 ln1.out h9 w h
                have C3 := Lib.hid fun w h => ih.out g (P ++ mrg (ltF cnum) L1 R1) L2 R2 S mid en b n p3.out (by rw [l2.out]; omega) (by rw [r2.out]; omega) o2 o4 (by rw [l2.out, r2.out]; omega) u2.out v2.out ln3.out h9 w h
                clear o2
                clear o3
                clear o4
                have M1 := Lib.hid (e1.out ▸ m1.out)
                clear g1 g2 g3 g4 g5 g6 hen
                go_wp2_with fail
                (with_reducible refine (C1.out _ M1.out).mono ?_)
                rintro e w5 ⟨rfl, hm5, hb5⟩
                have m5 := Lib.hid hm5
                have b5 := Lib.hid (b1.out.trans hb5)
                clear hm5 hb5
                have N1 := Lib.hid (e2.out ▸ m5.out)
                have N2 := Lib.hid (skip2 (P := P) (S := L2 ++ (R2 ++ S)) (.inl n1.out) ▸ N1.out)
                have M3 := Lib.hid (e4.out ▸ N2.out)
                go_wp2_with fail
                (with_reducible refine (C3.out _ M3.out).mono ?_)
                rintro e w7 ⟨rfl, hm7, hb7⟩
                have m7 := Lib.hid hm7
                have b7 := Lib.hid (b5.out.trans hb7)
                clear hm7 hb7
                have N3 := Lib.hid (e5.out ▸ m7.out)
                go_wp2
                go_end0
                exact ⟨rfl, e6.out ▸ N3.out, b7.out⟩
        · by_cases q1 : s = x0
          · by_cases q2 : s = H
            · by_cases q3 : H = s + y0
              · exfalso
                omega
              · have t1 : decide (i < m) = false := by simp; omega
                have t2 : decide (m < en) = false := by simp; omega
                have t3 : decide (a < i) = true := by simp; omega
                have t4 : decide (i < mid) = false := by simp; omega
                have t5 : decide (mid < en) = false := by simp; omega
                have t6 : decide (en < b) = true := by simp; omega
                have n2 := Lib.hid (List.eq_nil_of_length_eq_zero (l := L2) (by rw [l2.out]; omega))
                have n3 := Lib.hid (List.eq_nil_of_length_eq_zero (l := R1) (by rw [r1.out]; omega))
                have o1 : 1 ≤ L1.length := by rw [l1.out]; omega
                have o4 : 1 ≤ R2.length := by rw [r2.out]; omega
                clear o1
                clear o4
                have N1 := Lib.hid (skip1 (P := P) (L1 := L1) (S := R2 ++ S) (.inl n2.out) ▸ e3.out ▸ m1.out)
                have N2 := Lib.hid (skip2 (P := P) (S := L2 ++ (R2 ++ S)) (.inr n3.out) ▸ N1.out)
                have N3 := Lib.hid (skip3 (P := P) (L1 := L1) (R1 := R1) (S := S) (.inl n2.out) ▸ N2.out)
                clear g1 g2 g3 g4 g5 g6 hen
                go_wp2
                go_end0
                exact ⟨rfl, e6.out ▸ N3.out, b1.out⟩
            · by_cases q3 : H = s + y0
              · exfalso
                omega
              · have t1 : decide (i < m) = false := by simp; omega
                have t2 : decide (m < en) = true := by simp; omega
                have t3 : decide (a < i) = true := by simp; omega
                have t4 : decide (i < mid) = true := by simp; omega
                have t5 : decide (mid < en) = false := by simp; omega
                have t6 : decide (en < b) = true := by simp; omega
                have n2 := Lib.hid (List.eq_nil_of_length_eq_zero (l := L2) (by rw [l2.out]; omega))
                have o1 : 1 ≤ L1.length := by rw [l1.out]; omega
                have o3 : 1 ≤ R1.length := by rw [r1.out]; omega
                have o4 : 1 ≤ R2.length := by rw [r2.out]; omega
                have C2 := Lib.hid fun w h => ih.out g P L1 R1 (L2 ++ (R2 ++ S)) a i mid n ha'.out (by rw [l1.out]; omega) (by rw [r1.out]; omega) o1 o3 (by rw [l1.out, r1.out]; omega) u1.out v1.out ln2.out h9 w h
                clear o1
                clear o3
                clear o4
                have N1 := Lib.hid (skip1 (P := P) (L1 := L1) (S := R2 ++ S) (.inl n2.out) ▸ e3.out ▸ m1.out)
                clear g1 g2 g3 g4 g5 g6 hen
                go_wp2_with fail
                (with_reducible refine (C2.out _ N1.out).mono ?_)
                rintro e w6 ⟨rfl, hm6, hb6⟩
                have m6 := Lib.hid hm6
                have b6 := Lib.hid (b1.out.trans hb6)
                clear hm6 hb6
                have N2 := Lib.hid m6.out
                have N3 := Lib.hid (skip3 (P := P) (L1 := L1) (R1 := R1) (S := S) (.inl n2.out) ▸ N2.out)
                go_wp2
                go_end0
                exact ⟨rfl, e6.out ▸ N3.out, b6.out⟩
          · by_cases q2 : s = H
            · by_cases q3 : H = s + y0
              · exfalso
                omega
              · have t1 : decide (i < m) = true := by simp; omega
                have t2 : decide (m < en) = false := by simp; omega
                have t3 : decide (a < i) = true := by simp; omega
                have t4 : decide (i < mid) = false := by simp; omega
                have t5 : decide (mid < en) = true := by simp; omega
                have t6 : decide (en < b) = true := by simp; omega
                have n3 := Lib.hid (List.eq_nil_of_length_eq_zero (l := R1) (by rw [r1.out]; omega))
                have o1 : 1 ≤ L1.length := by rw [l1.out]; omega
                have o2 : 1 ≤ L2.length := by rw [l2.out]; omega
                have o4 : 1 ≤ R2.length := by rw [r2.out]; omega
                have C3 := Lib.hid fun w h => ih.out g (P ++ mrg (ltF cnum) L1 R1) L2 R2 S mid en b n p3.out (by rw [l2.out]; omega) (by rw [r2.out]; omega) o2 o4 (by rw [l2.out, r2.out]; omega) u2.out v2.out ln3.out h9 w h
                clear o1
                clear o2
                clear o4
                have N1 := Lib.hid (skip1 (P := P) (L1 := L1) (S := R2 ++ S) (.inr n3.out) ▸ e3.out ▸ m1.out)
                have N2 := Lib.hid (skip2 (P := P) (S := L2 ++ (R2 ++ S)) (.inr n3.out) ▸ N1.out)
                have M3 := Lib.hid (e4.out ▸ N2.out)
                clear g1 g2 g3 g4 g5 g6 hen
                go_wp2_with fail
                (with_reducible refine (C3.out _ M3.out).mono ?_)
                rintro e w7 ⟨rfl, hm7, hb7⟩
                have m7 := Lib.hid hm7
                have b7 := Lib.hid (b1.out.trans hb7)
                clear hm7 hb7
                have N3 := Lib.hid (e5.out ▸ m7.out)
                go_wp2
                go_end0
                exact ⟨rfl, e6.out ▸ N3.out, b7.out⟩
            · by_cases q3 : H = s + y0
              · have t1 : decide (i < m) = true := by simp; omega
                have t2 : decide (m < en) = true := by simp; omega
                have t3 : decide (a < i) = true := by simp; omega
                have t4 : decide (i < mid) = true := by simp; omega
                have t5 : decide (mid < en) = true := by simp; omega
                have t6 : decide (en < b) = false := by simp; omega
                have n4 := Lib.hid (List.eq_nil_of_length_eq_zero (l := R2) (by rw [r2.out]; omega))
                have o1 : 1 ≤ L1.length := by rw [l1.out]; omega
                have o2 : 1 ≤ L2.length := by rw [l2.out]; omega
                have o3 : 1 ≤ R1.length := by rw [r1.out]; omega
                have C1 := Lib.hid fun w h => rot_any g (P ++ L1) L2 R1 (R2 ++ S) i m en n p1.out (by rw [l2.out]; omega) (by rw [r1.out]; omega) o2 o3 ln1.out h9 w h
                have C2 := Lib.hid fun w h => ih.out g P L1 R1 (L2 ++ (R2 ++ S)) a i mid n ha'.out (by rw [l1.out]; omega) (by rw [r1.out]; omega) o1 o3 (by rw [l1.out, r1.out]; omega) u1.out v1.out ln2.out h9 w h
                clear o1
                clear o2
                clear o3
                have M1 := Lib.hid (e1.out ▸ m1.out)
                clear g1 g2 g3 g4 g5 g6 hen
                go_wp2_with fail
                (with_reducible refine (C1.out _ M1.out).mono ?_)
                rintro e w5 ⟨rfl, hm5, hb5⟩
                have m5 := Lib.hid hm5
                have b5 := Lib.hid (b1.out.trans hb5)
                clear hm5 hb5
                have N1 := Lib.hid (e2.out ▸ m5.out)
                go_wp2_with fail
                (with_reducible refine (C2.out _ N1.out).mono ?_)
                rintro e w6 ⟨rfl, hm6, hb6⟩
                have m6 := Lib.hid hm6
                have b6 := Lib.hid (b5.out.trans hb6)
                clear hm6 hb6
                have N2 := Lib.hid m6.out
                have N3 := Lib.hid (skip3 (P := P) (L1 := L1) (R1 := R1) (S := S) (.inr n4.out) ▸ N2.out)
                go_wp2
                go_end0
                exact ⟨rfl, e6.out ▸ N3.out, b6.out⟩
              · have t1 : decide (i < m) = true := by simp; omega
                have t2 : decide (m < en) = true := by simp; omega
                have t3 : decide (a < i) = true := by simp; omega
                have t4 : decide (i < mid) = true := by simp; omega
                have t5 : decide (mid < en) = true := by simp; omega
                have t6 : decide (en < b) = true := by simp; omega
                have o1 : 1 ≤ L1.length := by rw [l1.out]; omega
                have o2 : 1 ≤ L2.length := by rw [l2.out]; omega
                have o3 : 1 ≤ R1.length := by rw [r1.out]; omega
                have o4 : 1 ≤ R2.length := by rw [r2.out]; omega
                have C1 := Lib.hid fun w h => rot_any g (P ++ L1) L2 R1 (R2 ++ S) i m en n p1.out (by rw [l2.out]; omega) (by rw [r1.out]; omega) o2 o3 ln1.out h9 w h
                have C2 := Lib.hid fun w h => ih.out g P L1 R1 (L2 ++ (R2 ++ S)) a i mid n ha'.out (by rw [l1.out]; omega) (by rw [r1.out]; omega) o1 o3 (by rw [l1.out, r1.out]; omega) u1.out v1.out ln2.out h9 w h
                have C3 := Lib.hid fun w h => ih.out g (P ++ mrg (ltF cnum) L1 R1) L2 R2 S mid en b n p3.out (by rw [l2.out]; omega) (by rw [r2.out]; omega) o2 o4 (by rw [l2.out, r2.out]; omega) u2.out v2.out ln3.out h9 w h
                clear o1
                clear o2
                clear o3
                clear o4
                have M1 := Lib.hid (e1.out ▸ m1.out)
                clear g1 g2 g3 g4 g5 g6 hen
                go_wp2_with fail
                (with_reducible refine (C1.out _ M1.out).mono ?_)
                rintro e w5 ⟨rfl, hm5, hb5⟩
                have m5 := Lib.hid hm5
                have b5 := Lib.hid (b1.out.trans hb5)
                clear hm5 hb5
                have N1 := Lib.hid (e2.out ▸ m5.out)
                go_wp2_with fail
                (with_reducible refine (C2.out _ N1.out).mono ?_)
                rintro e w6 ⟨rfl, hm6, hb6⟩
                have m6 := Lib.hid hm6
                have b6 := Lib.hid (b5.out.trans hb6)
                clear hm6 hb6
                have N2 := Lib.hid m6.out
                have M3 := Lib.hid (e4.out ▸ N2.out)
                go_wp2_with fail
                (with_reducible refine (C3.out _ M3.out).mono ?_)
                rintro e w7 ⟨rfl, hm7, hb7⟩
                have m7 := Lib.hid hm7
                have b7 := Lib.hid (b6.out.trans hb7)
                clear hm7 hb7
                have N3 := Lib.hid (e5.out ▸ m7.out)
                go_wp2
                go_end0
                exact ⟨rfl, e6.out ▸ N3.out, b7.out⟩
end Go.Proofs.YtjnnfineebabaaaDoor
/- The library's stable sort, at pairs with their codes: they stand in order, those of one code in the order in which they stood. -/
namespace Go.Proofs.YtjnnfineebabaaaDoor
open Go.RowKit Go.Shelf Go.Proofs.Rowm Go.Proofs.Srt

theorem sym_all : ∀ N, SymAt N
  | 0 => fun g P L R S a m b n _ _ _ hL _ hN => by omega
  | N + 1 => fun g P L R S a m b n ha hm hb hL hR hN hu hv hn h9 w h => by
    match L, R, hL, hR, ha, hm, hb, hN, hu, hv, hn, h with
    | [x], R, _, _, ha, hm, hb, _, _, hv, hn, h => exact sym_first g P R S x a m b n ha hm hb hv hn h9 w h
    | x :: y :: L, [z], _, _, ha, hm, hb, _, hu, _, hn, h => exact sym_last g P (x :: y :: L) S z a m b n ha hm (by simp) hb hu hn h9 w h
    | x :: y :: L, z :: u :: R, _, _, ha, hm, hb, hN, hu, hv, hn, h => exact sym_both N (Lib.hid (sym_all N)) g P (x :: y :: L) (z :: u :: R) S a m b n ha hm hb (by simp) (by simp) hN hu hv hn h9 w h

/-- the same ones, those of one code in one order -/
def Same (D D' : List Cd) : Prop := (∀ c, only cnum c D' = only cnum c D) ∧ D'.length = D.length
/-- what the sort makes of a block -/
def Stably (g : Nat) (D : List Cd) (w : World) (e : Ending) (w' : World) : Prop := ∃ D', e = .returned (.tuple #[]) ∧ Same D D' ∧ Up cnum D' ∧ Mem w' g D' ∧ Below g w w'
theorem Same.put {D D' s : List Cd} {i j : Nat} (h : Same D D') (h1 : i ≤ j) (h2 : j ≤ D'.length) (hs : s.length = j - i) (ho : ∀ c, only cnum c s = only cnum c (seg D' i j)) : Same D (Srt.put D' i j s) :=
  ⟨fun c => (only_put cnum h1 c (ho c)).trans (h.1 c), (put_length h1 h2 hs).trans h.2⟩
theorem up_far {D : List Cd} {i j : Nat} (h : D.length ≤ i) : Up cnum (seg D i j) := by rw [seg_far D i j h]; exact up_nil cnum
/-- one block has been put in order -/
theorem ins_step {D' : List Cd} {t k : Nat} (hu : ∀ r, r < t → Up cnum (seg D' (r * k) ((r + 1) * k))) {b : Nat} (h1 : t * k ≤ b) (h2 : b ≤ D'.length) (h3 : b = (t + 1) * k ∨ b = D'.length ∧ b ≤ (t + 1) * k) :
    ∀ r, r < t + 1 → Up cnum (seg (Srt.put D' (t * k) b (isort cnum (seg D' (t * k) b))) (r * k) ((r + 1) * k)) := fun r hr => by
  have hl : (isort cnum (seg D' (t * k) b)).length = b - t * k := by rw [(isort_holds cnum _).2.2, seg_length _ _ _ h1 h2]
  rcases Nat.lt_or_ge r t with h | h
  · rw [seg_put_ahead h1 h2 (Nat.mul_le_mul_right k h)]
    exact hu r h
  · obtain rfl : r = t := by omega
    rcases h3 with rfl | ⟨e, h3⟩
    · rw [seg_put_same h1 h2 hl]; exact (isort_holds cnum _).1
    · rw [seg_end _ _ _ b (by rw [put_length h1 h2 hl]; omega) (by rw [put_length h1 h2 hl]; omega), seg_put_same h1 h2 hl]; exact (isort_holds cnum _).1
theorem isort_same (s : List Cd) (c : Nat) : only cnum c (isort cnum s) = only cnum c s := (isort_holds cnum s).2.1 c

/-- two blocks have been merged -/
theorem mrg_step {D' : List Cd} {t k a m b e : Nat} (ha : a = t * (2 * k)) (hm : m = a + k) (hb : b = a + 2 * k) (low : ∀ r, r < t → Up cnum (seg D' (r * (2 * k)) ((r + 1) * (2 * k)))) (high : ∀ r, 2 * t ≤ r → Up cnum (seg D' (r * k) ((r + 1) * k)))
    (he : e = b ∨ (e = D'.length ∧ e ≤ b)) (hme : m ≤ e) (hel : e ≤ D'.length) :
    Up cnum (seg D' a m) ∧ Up cnum (seg D' m e) ∧ (mrg (ltF cnum) (seg D' a m) (seg D' m e)).length = e - a ∧ (∀ c, only cnum c (mrg (ltF cnum) (seg D' a m) (seg D' m e)) = only cnum c (seg D' a e)) ∧
      (∀ r, r < t + 1 → Up cnum (seg (Srt.put D' a e (mrg (ltF cnum) (seg D' a m) (seg D' m e))) (r * (2 * k)) ((r + 1) * (2 * k)))) ∧
      (e = b → ∀ r, 2 * (t + 1) ≤ r → Up cnum (seg (Srt.put D' a e (mrg (ltF cnum) (seg D' a m) (seg D' m e))) (r * k) ((r + 1) * k))) := by
  have e1 : (2 * t) * k = a := by rw [ha, Nat.mul_comm 2 t, Nat.mul_assoc]
  have e2 : (2 * t + 1) * k = m := by rw [Nat.succ_mul, e1, hm]
  have e3 : (2 * t + 1 + 1) * k = b := by rw [Nat.succ_mul, e2, hm, hb]; omega
  have e4 : (t + 1) * (2 * k) = b := by rw [Nat.succ_mul, ← ha, hb]
  have ham : a ≤ m := by omega
  have u1 : Up cnum (seg D' a m) := by have := high (2 * t) (Nat.le_refl _); rwa [e1, e2] at this
  have u2 : Up cnum (seg D' m e) := by
    have := high (2 * t + 1) (by omega)
    rw [e2, e3] at this
    rcases he with rfl | ⟨h1, h2⟩
    · exact this
    · rw [seg_end _ _ e b (by omega) (by omega)]; exact this
  have hl : (mrg (ltF cnum) (seg D' a m) (seg D' m e)).length = e - a := by rw [mrg_length, seg_length _ _ _ ham (by omega), seg_length _ _ _ hme hel]; omega
  refine ⟨u1, u2, hl, fun c => ?_, fun r hr => ?_, fun heb r hr => ?_⟩
  · rw [only_mrg cnum c _ _ u1 u2, ← only_append, seg_cut _ _ _ _ ham hme]
  · have hae : a ≤ e := by omega
    rcases Nat.lt_or_ge r t with h | h
    · rw [seg_put_ahead hae hel (by rw [ha]; exact Nat.mul_le_mul_right _ h)]
      exact low r h
    · obtain rfl : r = t := by omega
      rw [e4, ← ha]
      rcases he with rfl | ⟨h1, h2⟩
      · rw [seg_put_same hae hel hl]; exact up_mrg cnum _ _ u1 u2
      · rw [seg_end _ _ b e (by rw [put_length hae hel hl]; omega) (by rw [put_length hae hel hl]; omega), seg_put_same hae hel hl]; exact up_mrg cnum _ _ u1 u2
  · have hae : a ≤ e := by omega
    subst heb
    rw [seg_put_behind hae hel hl (by rw [← e3]; exact Nat.mul_le_mul_right k (by omega))]
    exact high r (by omega)

set_option maxRecDepth 100000 in
set_option maxHeartbeats 4000000 in
theorem stable_any (g : Nat) (D : List Cd) (n : Nat) (hn : D.length = n) (h9 : n ≤ 1000) (w : World) (h : Mem w g D) :
    Calls Tryd.prog 62 #[.slice (some ⟨g, 0, none⟩) n n, .int .i64 n, cmpV] w (Stably g D w) := by
  have h' := Lib.hid h
  have hn' := Lib.hid hn
  clear h hn
  go_enter Tryd.func62, Tryd.ntmps62
  go_wp2
  go_loopw [7, 8] (fun v u wr => ∃ t a b D', Hid (a = t * 20) ∧ b = a + 20 ∧ a ≤ n ∧ Hid (Same D D') ∧ Hid (∀ r, r < t → Up cnum (seg D' (r * 20) ((r + 1) * 20))) ∧ v = .int .i64 ((a : Nat) : Int) ∧ u = .int .i64 ((b : Nat) : Int) ∧ Mem wr g D' ∧ Below g w wr) (fun v _ _ => n + 1 - (intOf v).toNat)
  case atStart => exact ⟨0, 0, 20, D, Lib.hid rfl, rfl, Nat.zero_le _, Lib.hid ⟨fun _ => rfl, rfl⟩, Lib.hid (fun r hr => by omega), rfl, rfl, h'.out, Below.refl _ _⟩
  case round =>
    obtain ⟨t, a, b, D', ha, hba, han, hsm, hup, rfl, rfl, hm, hbw⟩ := hrel
    have hb' := Lib.hid hba
    have bb : b ≤ 1020 := by omega
    have m1 := Lib.hid hm
    have b1 := Lib.hid hbw
    have hl := hsm.out.2
    rw [hn'.out] at hl
    have hl' := Lib.hid hl
    clear hm hbw hba hl
    by_cases hlt : b ≤ n
    · have e1 : D' = D'.take a ++ (seg D' a b ++ D'.drop b) := seg_parts D' a b (by have := hb'.out; omega)
      have hc := Lib.hid (ins_any g (D'.take a) (seg D' a b) (D'.drop b) a b n (by rw [List.length_take, hl'.out]; omega) (by rw [seg_length _ _ _ (by have := hb'.out; omega) (by rw [hl'.out]; exact hlt)]; have := hb'.out; omega) (by rw [← e1]; exact hl'.out) h9 _ (e1 ▸ m1.out))
      have hs2 := Lib.hid (hsm.out.put (i := a) (j := b) (s := isort cnum (seg D' a b)) (by have := hb'.out; omega) (by rw [hl'.out]; exact hlt) (by rw [(isort_holds cnum _).2.2, seg_length _ _ _ (by have := hb'.out; omega) (by rw [hl'.out]; exact hlt)]) (isort_same _))
      have hu2 : Hid (∀ r, r < t + 1 → Up cnum (seg (Srt.put D' a b (isort cnum (seg D' a b))) (r * 20) ((r + 1) * 20))) := by
        have e2 := ha.out
        have e3 := hb'.out
        subst e2
        exact ins_step hup.out (by omega) (by rw [hl'.out]; exact hlt) (.inl (by omega))
      clear e1
      have hlti : (b : Int) ≤ (n : Int) := by omega
      go_wp2_with fail
      (with_reducible refine hc.out.mono ?_)
      rintro e w2 ⟨rfl, hm2, hb2⟩
      have m2 := Lib.hid hm2
      have b2 := Lib.hid (b1.out.trans hb2)
      clear hm2 hb2 hc
      go_wp2
      go_roundw
      case rel => exact ⟨t + 1, b, b + 20, _, Lib.hid (by have := hb'.out; have := ha.out; omega), rfl, hlt, hs2, hu2, rfl, by go_num, m2.out, b2.out⟩
      case measure => have := hb'.out; simp [intOf]; omega
    · have e1 : D' = D'.take a ++ (seg D' a n ++ D'.drop n) := seg_parts D' a n han
      have hc := Lib.hid (ins_any g (D'.take a) (seg D' a n) (D'.drop n) a n n (by rw [List.length_take, hl'.out]; omega) (by rw [seg_length _ _ _ han (by rw [hl'.out]; exact Nat.le_refl _)]; omega) (by rw [← e1]; exact hl'.out) h9 _ (e1 ▸ m1.out))
      have hs2 := Lib.hid (hsm.out.put (i := a) (j := n) (s := isort cnum (seg D' a n)) han (by rw [hl'.out]; exact Nat.le_refl _) (by rw [(isort_holds cnum _).2.2, seg_length _ _ _ han (by rw [hl'.out]; exact Nat.le_refl _)]) (isort_same _))
      have hu2 : Hid (∀ r, Up cnum (seg (Srt.put D' a n (isort cnum (seg D' a n))) (r * 20) ((r + 1) * 20))) := by
        show ∀ r, _
        intro r
        have e2 := ha.out
        have e3 := hb'.out
        have e4 := hs2.out.2
        rw [hn'.out] at e4
        rcases Nat.lt_or_ge r (t + 1) with h | h
        · subst e2
          exact ins_step hup.out han (by rw [hl'.out]; exact Nat.le_refl _) (.inr ⟨hl'.out.symm, by omega⟩) r h
        · exact up_far (by rw [e4]; omega)
      clear e1
      obtain ⟨D2, hD2⟩ : ∃ D2, Srt.put D' a n (isort cnum (seg D' a n)) = D2 := ⟨_, rfl⟩
      rw [hD2] at hs2 hu2
      have hlti : ¬ (b : Int) ≤ (n : Int) := by omega
      go_wp2_with fail
      (with_reducible refine hc.out.mono ?_)
      rintro e w2 ⟨rfl, hm2, hb2⟩
      have m2 : Hid (Mem w2 g D2) := by show Mem w2 g D2; rw [← hD2]; exact hm2
      have b2 := Lib.hid (b1.out.trans hb2)
      clear hm2 hb2 hc hD2 hup hsm m1 b1
      go_wp2
      clear hlti han hl' ha hb' bb hlt
      go_loopw [6] (fun v wr => ∃ k D3, 20 ≤ k ∧ k ≤ 2000 ∧ Hid (Same D D3) ∧ Hid (∀ r, Up cnum (seg D3 (r * k) ((r + 1) * k))) ∧ v = .int .i64 ((k : Nat) : Int) ∧ Mem wr g D3 ∧ Below g w wr) (fun v _ => n - (intOf v).toNat)
      case atStart => exact ⟨20, D2, Nat.le_refl _, by omega, hs2, hu2, rfl, m2.out, b2.out⟩
      case round =>
        obtain ⟨k, D3, hk20, hk2, hs3, hu3, rfl, hm, hbw⟩ := hrel
        have m3 := Lib.hid hm
        have b3 := Lib.hid hbw
        clear hm hbw m2 b2 hs2 hu2
        obtain ⟨w3, rfl⟩ : ∃ w3 : World, w3 = wr := ⟨_, rfl⟩
        by_cases hlt : k < n
        · go_wp2
          go_loopw [7, 8] (fun v u wr => ∃ t a b D4, Hid (a = t * (2 * k)) ∧ b = a + 2 * k ∧ a ≤ n ∧ Hid (Same D D4) ∧ Hid (∀ r, r < t → Up cnum (seg D4 (r * (2 * k)) ((r + 1) * (2 * k)))) ∧ Hid (∀ r, 2 * t ≤ r → Up cnum (seg D4 (r * k) ((r + 1) * k))) ∧ v = .int .i64 ((a : Nat) : Int) ∧ u = .int .i64 ((b : Nat) : Int) ∧ Mem wr g D4 ∧ Below g w wr) (fun v _ _ => n + 1 - (intOf v).toNat)
          case atStart => exact ⟨0, 0, 2 * k, D3, Lib.hid (by rw [Nat.zero_mul]), by omega, Nat.zero_le _, hs3, Lib.hid (fun r hr => by omega), Lib.hid (fun r _ => hu3.out r), rfl, by go_num, m3.out, b3.out⟩
          case round =>
            obtain ⟨t, a, b, D4, ha, hba, han, hs4, hlo, hhi, rfl, rfl, hm, hbw⟩ := hrel
            have m4 := Lib.hid hm
            have b4 := Lib.hid hbw
            have hb' := Lib.hid hba
            have bb : b ≤ 6000 := by omega
            have hl := hs4.out.2
            rw [hn'.out] at hl
            have hl' := Lib.hid hl
            obtain ⟨m, hma⟩ : ∃ m, a + k = m := ⟨_, rfl⟩
            have hm' := Lib.hid hma
            have em : (a : Int) + (k : Int) = (m : Int) := by omega
            have bm : m ≤ 3000 := by omega
            have hmb : m ≤ b := by omega
            have ham : a ≤ m := by omega
            have ham1 : a < m := by omega
            clear hm hbw hba hl hma
            by_cases hbn : b ≤ n
            · obtain ⟨v1, v2, v3, v4, v5, v6⟩ := mrg_step (m := m) (e := b) ha.out hm'.out.symm hb'.out hlo.out hhi.out (.inl rfl) hmb (by rw [hl'.out]; exact hbn)
              have e1 : D4 = D4.take a ++ (seg D4 a m ++ (seg D4 m b ++ D4.drop b)) := by rw [← List.append_assoc (seg D4 a m), seg_cut D4 a m b ham hmb]; exact seg_parts D4 a b (by omega)
              have hc := Lib.hid (sym_all n g (D4.take a) (seg D4 a m) (seg D4 m b) (D4.drop b) a m b n (by rw [List.length_take, hl'.out]; omega) (by rw [seg_length _ _ _ ham (by rw [hl'.out]; omega)]; omega) (by rw [seg_length _ _ _ hmb (by rw [hl'.out]; omega)]; omega)
                (by rw [seg_length _ _ _ ham (by rw [hl'.out]; omega)]; omega) (by rw [seg_length _ _ _ hmb (by rw [hl'.out]; omega)]; have := hb'.out; have := hm'.out; omega) (by rw [seg_length _ _ _ ham (by rw [hl'.out]; omega), seg_length _ _ _ hmb (by rw [hl'.out]; omega)]; omega) v1 v2 (by rw [← e1]; exact hl'.out) h9 _ (e1 ▸ m4.out))
              have hs5 := Lib.hid (hs4.out.put (i := a) (j := b) (by omega) (by rw [hl'.out]; exact hbn) v3 v4)
              have hu5 := Lib.hid v5
              have hu6 := Lib.hid (v6 rfl)
              have hbi : (b : Int) ≤ (n : Int) := by omega
              have hab : Hid (a < b) := by show a < b; omega
              clear e1 v1 v2 v3 v4 v5 v6
              go_wp2_with fail
              (with_reducible refine hc.out.mono ?_)
              rintro e w5 ⟨rfl, hm5, hb5⟩
              have m5 := Lib.hid hm5
              have b5 := Lib.hid (b4.out.trans hb5)
              clear hm5 hb5 hc
              go_wp2
              go_roundw
              case rel => exact ⟨t + 1, b, b + 2 * k, _, Lib.hid (by rw [Nat.succ_mul, ← ha.out]; exact hb'.out), rfl, hbn, hs5, hu5, hu6, rfl, by go_num, m5.out, b5.out⟩
              case measure => have := hab.out; simp [intOf]; omega
            · have hbi : ¬ (b : Int) ≤ (n : Int) := by omega
              by_cases hmn : m < n
              · obtain ⟨v1, v2, v3, v4, v5, v6⟩ := mrg_step (m := m) (e := n) ha.out hm'.out.symm hb'.out hlo.out hhi.out (.inr ⟨hl'.out.symm, by omega⟩) (by omega) (by rw [hl'.out]; exact Nat.le_refl _)
                have e1 : D4 = D4.take a ++ (seg D4 a m ++ (seg D4 m n ++ D4.drop n)) := by rw [← List.append_assoc (seg D4 a m), seg_cut D4 a m n ham (by omega)]; exact seg_parts D4 a n (by omega)
                have hc := Lib.hid (sym_all n g (D4.take a) (seg D4 a m) (seg D4 m n) (D4.drop n) a m n n (by rw [List.length_take, hl'.out]; omega) (by rw [seg_length _ _ _ ham (by rw [hl'.out]; omega)]; omega) (by rw [seg_length _ _ _ (by omega) (by rw [hl'.out]; omega)]; omega)
                  (by rw [seg_length _ _ _ ham (by rw [hl'.out]; omega)]; omega) (by rw [seg_length _ _ _ (by omega) (by rw [hl'.out]; omega)]; omega) (by rw [seg_length _ _ _ ham (by rw [hl'.out]; omega), seg_length _ _ _ (by omega) (by rw [hl'.out]; omega)]; omega) v1 v2 (by rw [← e1]; exact hl'.out) h9 _ (e1 ▸ m4.out))
                have hs5 := Lib.hid (hs4.out.put (i := a) (j := n) (by omega) (by rw [hl'.out]; exact Nat.le_refl _) v3 v4)
                have hu5 : Hid (∀ r, Up cnum (seg (Srt.put D4 a n (mrg (ltF cnum) (seg D4 a m) (seg D4 m n))) (r * (2 * k)) ((r + 1) * (2 * k)))) := by
                  show ∀ r, _
                  intro r
                  rcases Nat.lt_or_ge r (t + 1) with h | h
                  · exact v5 r h
                  · have h1 := Nat.mul_le_mul_right (2 * k) h
                    rw [Nat.succ_mul, ← ha.out, ← hb'.out] at h1
                    exact up_far (by have := hs5.out.2; rw [hn'.out] at this; omega)
                have hmi : (m : Int) < (n : Int) := by omega
                clear e1 v1 v2 v3 v4 v5 v6
                go_wp2_with fail
                (with_reducible refine hc.out.mono ?_)
                rintro e w5 ⟨rfl, hm5, hb5⟩
                have m5 := Lib.hid hm5
                have b5 := Lib.hid (b4.out.trans hb5)
                clear hm5 hb5 hc
                go_wp2
                go_roundw
                case rel => exact ⟨2 * k, _, by omega, by omega, hs5, hu5, by go_num, m5.out, b5.out⟩
                case measure => simp [intOf]; omega
              · have hu5 : Hid (∀ r, Up cnum (seg D4 (r * (2 * k)) ((r + 1) * (2 * k)))) := by
                  show ∀ r, _
                  intro r
                  rcases Nat.lt_or_ge r (t + 1) with h | h
                  · rcases Nat.lt_or_ge r t with h' | h'
                    · exact hlo.out r h'
                    · obtain rfl : r = t := by omega
                      have e0 := hhi.out (2 * r) (Nat.le_refl _)
                      have e1 : (2 * r) * k = a := by rw [ha.out, Nat.mul_comm 2 r, Nat.mul_assoc]
                      rw [Nat.succ_mul (2 * r), e1] at e0
                      rw [Nat.succ_mul r, ← ha.out, seg_end _ _ _ (a + k) (by have := hm'.out; rw [hl'.out]; omega) (by have := hm'.out; rw [hl'.out]; omega)]
                      exact e0
                  · have h1 := Nat.mul_le_mul_right (2 * k) h
                    rw [Nat.succ_mul, ← ha.out, ← hb'.out] at h1
                    exact up_far (by rw [hl'.out]; omega)
                have hmi : decide ((m : Int) < (n : Int)) = false := by simp; omega
                go_wp2
                go_roundw
                case rel => exact ⟨2 * k, D4, by omega, by omega, hs4, hu5, by go_num, m4.out, b4.out⟩
                case measure => simp [intOf]; omega
        · have hu4 := hu3.out 0
          have hl := hs3.out.2
          rw [hn'.out] at hl
          rw [Nat.zero_mul, Nat.zero_add, Nat.one_mul, seg_whole D3 k (by omega)] at hu4
          have hu5 := Lib.hid hu4
          have hge : ¬ (k : Int) < (n : Int) := by omega
          clear hu4 hl
          go_wp2
          go_end0
          exact ⟨D3, rfl, hs3.out, hu5.out, m3.out, b3.out⟩

set_option maxHeartbeats 400000 in
theorem sortStable_any (g : Nat) (D : List Cd) (n : Nat) (hn : D.length = n) (h9 : n ≤ 1000) (w : World) (h : Mem w g D) :
    Calls Tryd.prog 49 #[.slice (some ⟨g, 0, none⟩) n n, cmpV] w (Stably g D w) := by
  have hc := Lib.hid (stable_any g D n hn h9 w h)
  clear hn h
  go_enter Tryd.func49, Tryd.ntmps49
  go_wp2_with fail
  (with_reducible refine hc.out.mono ?_)
  rintro e w1 ⟨D', rfl, h1, h2, h3, h4⟩
  have k1 := Lib.hid h1
  have k2 := Lib.hid h2
  have k3 := Lib.hid h3
  have k4 := Lib.hid h4
  clear h1 h2 h3 h4 hc
  go_wp2
  go_end0
  exact ⟨D', rfl, k1.out, k2.out, k3.out, k4.out⟩
end Go.Proofs.YtjnnfineebabaaaDoor
/- The contract of Sort of package rowset. -/
namespace Go.Proofs.YtjnnfineebabaaaDoor
open Go.RowKit Go.Shelf Go.Proofs.Rowm Go.Proofs.Srt

/-- a pair with its code -/
def cdOf (o : Nat) (x : Pr) : Cd := (Ordm.code o x.1, x)
def zeroCd : Cd := (0#64, 0#64, 0#64)
theorem info_coded : (Tryd.prog.info? 74).map (fun i => (i.zero, i.size, i.bytes)) = some (some (.agg #[.int .u64 0, .int .i64 0, .int .i64 0]), 3, 24) := by kernel_rfl
theorem zero_at : ∀ (n j : Nat), j < n * 3 → (flat3 (List.replicate n zeroCd))[j]? = (#[V 0#64, K 0#64, K 0#64] : Array Value)[j % 3]?
  | 0, j, h => by omega
  | n + 1, j, h => by
    rw [List.replicate_succ, flat3_cons]
    match j with
    | 0 => rfl
    | 1 => rfl
    | 2 => rfl
    | j + 3 =>
      rw [List.getElem?_cons_succ, List.getElem?_cons_succ, List.getElem?_cons_succ, zero_at n j (by omega), Nat.add_mod_right]
theorem made_zero (n : Nat) : madeCells #[V 0#64, K 0#64, K 0#64] (n * 3) = (flat3 (List.replicate n zeroCd)).toArray := by
  apply Array.ext'
  apply List.ext_getElem?
  intro j
  by_cases hj : j < n * 3
  · rw [List.toList_toArray, zero_at n j hj]
    have : j % 3 = 0 ∨ j % 3 = 1 ∨ j % 3 = 2 := by omega
    rcases this with h | h | h <;> simp [madeCells, hj, h]
  · rw [List.toList_toArray, List.getElem?_eq_none (by rw [Array.length_toList, size_madeCells]; omega), List.getElem?_eq_none (by rw [flat3_length, List.length_replicate]; omega)]

theorem set_same {α : Type} {l : List α} {i : Nat} {x : α} (h : l[i]? = some x) : l.set i x = l := by
  obtain ⟨hi, rfl⟩ := List.getElem?_eq_some_iff.1 h
  exact List.set_getElem_self hi
section
variable {w : World} {g k : Nat} {D : List Cd} {z : Cd}
theorem Mem.set2 (h : Mem w g D) (hz : D[k]? = some z) (y : Pr) : Mem ((w.setCell ⟨g, k * 3 + 1, none⟩ (K y.1)).setCell ⟨g, k * 3 + 1 + 1, none⟩ (K y.2)) g (D.set k (z.1, y)) := by
  have := (Has.set h (k * 3 + 1) (K y.1)).set (k * 3 + 1 + 1) (K y.2)
  unfold Mem
  rw [flat3_set, set_same (flat3_at D k z hz).1]
  simpa using this
theorem Mem.set1 (h : Mem w g D) (hz : D[k]? = some z) (c : BitVec 64) : Mem (w.setCell ⟨g, k * 3, none⟩ (V c)) g (D.set k (c, z.2)) := by
  have := Has.set h (k * 3) (V c)
  obtain ⟨_, h2, h3⟩ := flat3_at D k z hz
  unfold Mem
  rw [flat3_set, set_same (i := k * 3 + 1) (by rw [List.getElem?_set_ne (by omega)]; exact h2), set_same (i := k * 3 + 2) (by rw [List.getElem?_set_ne (by omega)]; exact h3)]
  simpa using this
theorem Mem.alloc (h : Mem w g D) (o : Obj) : Mem (w.alloc o) g D := Has.alloc h o
end
theorem cd_next (o : Nat) {l : List Pr} {n k : Nat} (hl : l.length = n) (h : k < l.length) {u : Cd} (hu : u = cdOf o l[k]) : ((l.take k).map (cdOf o) ++ List.replicate (n - k) zeroCd).set k u = (l.take (k + 1)).map (cdOf o) ++ List.replicate (n - (k + 1)) zeroCd := by
  subst hu
  have e : ((l.take k).map (cdOf o)).length = k := by rw [List.length_map, List.length_take]; omega
  rw [List.set_append_right _ _ (by omega), e, Nat.sub_self, show n - k = n - (k + 1) + 1 by omega, List.replicate_succ, List.set_cons_zero, List.take_succ_eq_append_getElem h, List.map_append]
  simp
/-- what byCode makes -/
def Coded (o n : Nat) (l : List Pr) (w : World) (e : Ending) (w' : World) : Prop :=
  ∃ g D, e = .returned (.slice (some ⟨g, 0, none⟩) n n) ∧ Same (l.map (cdOf o)) D ∧ Up cnum D ∧ Mem w' g D ∧ Below w.heap.size w w'

set_option maxRecDepth 100000 in
set_option maxHeartbeats 2000000 in
theorem byCode_any (o : Nat) (h1 : 1 ≤ o) (h7 : o ≤ 7) (A : Option Addr) (n c : Nat) (l : List Pr) (w : World) (h : Here w A n c l) :
    Calls Tryd.prog 28 #[.int .u8 o, .slice A n c] w (Coded o n l w) := by
  have hn9 := h.few
  have hl := h.len
  have h' := Lib.hid h
  have hl' := Lib.hid hl
  obtain ⟨i0, hi, hz0, hz1, hz2⟩ := info_parts info_coded
  obtain ⟨Z, hZ⟩ : ∃ Z, (flat3 (List.replicate n zeroCd)).toArray = Z := ⟨_, rfl⟩
  have hmk : ∀ W, (Instr.makeSlice 46 (.int .i64 (n : Int)) (.int .i64 (n : Int))).run Tryd.prog W = .ok (.slice (some ⟨W.heap.size, 0, none⟩) n n) (W.alloc (.cells Z 74)) := fun W => by
    rw [run_make W _ _ i0 _ Tryd.underlying46 hi hz0 .i64 .i64 n n (by omega) (Int.le_refl _) (by rw [hz2]; omega) (by omega), Int.toNat_natCast, hz1, ← hZ]
    exact congrArg (fun z => Result.ok _ (W.alloc (.cells z _))) (made_zero n)
  clear h hl hi hz0 hz1 hz2
  have m0 : Hid (Mem (w.alloc (.cells Z 74)) w.heap.size (List.replicate n zeroCd)) := by show Has _ _ _ _; rw [hZ]; exact Has.new _ _ _
  have b0 := Lib.hid ((Below.refl w.heap.size w).alloc (Nat.le_refl _) (.cells Z 74))
  clear hZ
  go_enter Tryd.func28, Tryd.ntmps28
  go_wp2
  clear hmk
  generalize w.alloc (.cells Z 74) = W0 at m0 b0 ⊢
  go_loopw [13] (fun v wr => ∃ k, k ≤ n ∧ v = .int .i64 ((k : Nat) : Int) ∧ Mem wr w.heap.size ((l.take k).map (cdOf o) ++ List.replicate (n - k) zeroCd) ∧ Below w.heap.size w wr) (fun v _ => n - (intOf v).toNat)
  case atStart => exact ⟨0, Nat.zero_le _, rfl, m0.out, b0.out⟩
  case round =>
    obtain ⟨k, hk, rfl, hm, hbw⟩ := hrel
    have m1 := Lib.hid hm
    have b1 := Lib.hid hbw
    clear hm hbw m0 b0
    by_cases hlt : k < n
    · have hkl : k < l.length := by rw [hl'.out]; exact hlt
      obtain ⟨ad, rfl, _, g1, g2⟩ := pair_at (h'.out.row.below b1.out) k hkl
      obtain ⟨y, hy⟩ : ∃ y, l[k] = y := ⟨_, rfl⟩
      simp only [hy] at g1 g2
      have hy' := Lib.hid hy
      clear hy
      obtain ⟨z, hz⟩ : ∃ z, ((l.take k).map (cdOf o) ++ List.replicate (n - k) zeroCd)[k]? = some z := ⟨_, List.getElem?_eq_getElem (by simp; omega)⟩
      obtain ⟨_, c2, c3⟩ := m1.out.at_ hz
      have f2 := m1.out.free (k * 3 + 1)
      have f3 := m1.out.free (k * 3 + 1 + 1)
      have c3' : wr.cell? ⟨w.heap.size, k * 3 + 1 + 1, none⟩ = some (K z.2.2) := c3
      have hg := m1.out.lt
      have hz' := Lib.hid hz
      clear hz c3
      go_wp2_with fail
      obtain ⟨W1, hW1⟩ : ∃ W1, (((wr.setCell ⟨w.heap.size, k * 3 + 1, none⟩ (K y.1)).setCell ⟨w.heap.size, k * 3 + 1 + 1, none⟩ (K y.2)).alloc (.cells #[K y.1, K y.2] 42)) = W1 := ⟨_, rfl⟩
      have m2 : Hid (Mem W1 w.heap.size (((l.take k).map (cdOf o) ++ List.replicate (n - k) zeroCd).set k (z.1, y))) := by show Mem W1 _ _; rw [← hW1]; exact (m1.out.set2 hz'.out y).alloc _
      have b2 : Hid (Below w.heap.size w W1) := by show Below _ _ _; rw [← hW1]; exact ((b1.out.setCell (Nat.le_refl _) _).setCell (Nat.le_refl _) _).alloc (by simp; omega) _
      rw [show ((wr.setCell ⟨w.heap.size, k * 3 + 1, none⟩ (Value.int IntKind.i64 y.1.toInt)).setCell ⟨w.heap.size, k * 3 + 1 + 1, none⟩ (Value.int IntKind.i64 y.2.toInt)).alloc (.cells #[Value.int IntKind.i64 y.1.toInt, Value.int IntKind.i64 y.2.toInt] 42) = W1 from hW1]
      clear hW1 c2 c3' f2 f3 hg g1 g2
      (with_reducible refine (code_at o h1 h7 y.1 W1 (Nat.lt_of_lt_of_le h'.out.pos b2.out.size) (h'.out.steps.below h'.out.pos b2.out)).mono ?_)
      rintro e w3 ⟨rfl, hb⟩
      have m3 := Lib.hid (m2.out.next hb)
      have b3 := Lib.hid (b2.out.trans (hb.mono b2.out.size))
      clear hb
      have hz2 : (((l.take k).map (cdOf o) ++ List.replicate (n - k) zeroCd).set k (z.1, y))[k]? = some (z.1, y) := by rw [List.getElem?_set_self]; exact (List.getElem?_eq_some_iff.1 hz'.out).1
      obtain ⟨c1, _, _⟩ := m3.out.at_ hz2
      have f1 := m3.out.free (k * 3)
      have m4 : Hid (Mem (w3.setCell ⟨w.heap.size, k * 3, none⟩ (V (Ordm.code o y.1))) w.heap.size ((l.take (k + 1)).map (cdOf o) ++ List.replicate (n - (k + 1)) zeroCd)) := by
        show Mem _ _ _
        have := m3.out.set1 hz2 (Ordm.code o y.1)
        rw [List.set_set, cd_next o hl'.out hkl (by rw [hy'.out]; rfl)] at this
        exact this
      clear hz2
      go_wp2
      go_roundw
      case rel => exact ⟨k + 1, by omega, by go_num, m4.out, b3.out.setCell (Nat.le_refl _) _⟩
      case measure => simp [intOf]; omega
    · have e1 : (l.take k).map (cdOf o) ++ List.replicate (n - k) zeroCd = l.map (cdOf o) := by rw [List.take_of_length_le (by rw [hl'.out]; omega), show n - k = 0 by omega]; simp
      rw [e1] at m1
      have hc := Lib.hid (sortStable_any w.heap.size (l.map (cdOf o)) n (by rw [List.length_map]; exact hl'.out) (by omega) _ m1.out)
      clear e1
      go_wp2_with fail
      (with_reducible refine hc.out.mono ?_)
      rintro e w2 ⟨D, rfl, k1, k2, k3, k4⟩
      have q1 := Lib.hid k1
      have q2 := Lib.hid k2
      have q3 := Lib.hid k3
      have q4 := Lib.hid (b1.out.trans k4)
      clear k1 k2 k3 k4 hc
      go_wp2
      go_ret
      exact ⟨_, D, rfl, q1.out, q2.out, q3.out, q4.out⟩
end Go.Proofs.YtjnnfineebabaaaDoor
namespace Go.Proofs.YtjnnfineebabaaaDoor
open Go.RowKit Go.Shelf Go.Proofs.Rowm Go.Proofs.Srt

/-! ### what is put behind all others -/
theorem pos_all {o : Nat} {k : BitVec 64} : ∀ {l : List Pr}, (∀ p ∈ l, num o p.1 < num o k) → pos o k l = l.length
  | [], _ => rfl
  | p :: l, h => by rw [pos, if_pos (h p List.mem_cons_self), pos_all fun q hq => h q (List.mem_cons_of_mem _ hq)]; rfl
theorem upto_all {o : Nat} {k : BitVec 64} : ∀ {l : List Pr}, (∀ p ∈ l, num o p.1 ≤ num o k) → upto o k l = l.length
  | [], _ => rfl
  | p :: l, h => by rw [upto, if_pos (h p List.mem_cons_self), upto_all fun q hq => h q (List.mem_cons_of_mem _ hq)]; rfl
theorem pos_last {o : Nat} {q : Pr} : ∀ {l : List Pr}, (∀ p ∈ l, num o p.1 < num o q.1) → pos o q.1 (l ++ [q]) = l.length
  | [], _ => by simp [pos]
  | p :: l, h => by rw [List.cons_append, pos, if_pos (h p List.mem_cons_self), pos_last fun q hq => h q (List.mem_cons_of_mem _ hq)]; rfl
theorem putL_new {o p : Nat} {l : List Pr} {x : Pr} (h : ∀ q ∈ l, num o q.1 < num o x.1) : putL o p l x = l ++ [x] := by
  unfold putL putAt
  rw [pos_all h, upto_all fun q hq => Nat.le_of_lt (h q hq), if_neg (Nat.lt_irrefl _), List.take_length, List.drop_length]
theorem putL_old {o p : Nat} {l : List Pr} {q x : Pr} (h : ∀ r ∈ l, num o r.1 < num o q.1) (e : q.1 = x.1) : putL o p (l ++ [q]) x = l ++ [(q.1, Foldm.cmb p q.2 x.2)] := by
  unfold putL putAt
  have h2 : upto o q.1 (l ++ [q]) = (l ++ [q]).length := upto_all fun r hr => by
    rcases List.mem_append.1 hr with hr | hr
    · exact Nat.le_of_lt (h r hr)
    · simp at hr; subst hr; exact Nat.le_refl _
  rw [← e, pos_last h, h2, if_pos (by simp), List.take_append_of_le_length (Nat.le_refl _), List.take_length, List.drop_length]
  simp
theorem sortL_like {o p : Nat} {l l' : List Pr} (h : ∀ k, valsOf l k = valsOf l' k) : sortL o p l = sortL o p l' :=
  row_ext (sortL_incr o p _) (sortL_incr o p _) fun k => by rw [sortL, sortL, got_fold k _ _ List.Pairwise.nil, got_fold k _ _ List.Pairwise.nil, h k]
theorem mem_same {o : Nat} {l : List Pr} {D : List Cd} (h : Same (l.map (cdOf o)) D) {x : Cd} (hx : x ∈ D) : x.1 = Ordm.code o x.2.1 := by
  have h1 : x ∈ only cnum (cnum x) D := List.mem_filter.2 ⟨hx, by simp⟩
  rw [h.1] at h1
  obtain ⟨y, _, rfl⟩ := List.mem_map.1 (List.mem_filter.1 h1).1
  rfl
theorem vals_cd {o : Nat} (k : BitVec 64) : ∀ (D : List Cd), (∀ x ∈ D, x.1 = Ordm.code o x.2.1) → valsOf (D.map (·.2)) k = (only cnum (num o k) D).map (·.2.2)
  | [], _ => rfl
  | x :: D, h => by
    have ih := vals_cd k D fun y hy => h y (List.mem_cons_of_mem _ hy)
    have hx := h x List.mem_cons_self
    have e : cnum x = num o x.2.1 := by unfold cnum num; rw [hx]
    unfold valsOf at ih ⊢
    rw [only_cons, e]
    by_cases hk : x.2.1 = k
    · rw [List.map_cons, List.filter_cons_of_pos (by simpa using hk), if_pos (by rw [hk]), List.map_cons, List.map_cons, ih]
    · rw [List.map_cons, List.filter_cons_of_neg (by simpa using hk), if_neg (fun h' => hk (num_inj h')), ih]
theorem sort_same {o p : Nat} {l : List Pr} {D : List Cd} (h : Same (l.map (cdOf o)) D) : sortL o p (D.map (·.2)) = sortL o p l := by
  refine sortL_like fun k => ?_
  rw [vals_cd (o := o) k D fun x hx => mem_same h hx, h.1, ← vals_cd (o := o) k (l.map (cdOf o)) fun x hx => by obtain ⟨y, _, rfl⟩ := List.mem_map.1 hx; rfl]
  congr 1
  rw [List.map_map]; exact (List.map_id _)
/-- all that was put in is not behind what comes next -/
theorem fold_low {o p : Nat} {k : BitVec 64} : ∀ (l acc : List Pr), incr o acc → (∀ q ∈ acc, num o q.1 ≤ num o k) → (∀ q ∈ l, num o q.1 ≤ num o k) → ∀ q ∈ l.foldl (putL o p) acc, num o q.1 ≤ num o k
  | [], _, _, h, _ => h
  | x :: l, acc, hi, h, hl => by
    rw [List.foldl_cons]
    refine fold_low l _ (putL_incr hi x) (fun q hq => ?_) fun q hq => hl q (List.mem_cons_of_mem _ hq)
    unfold putL putAt at hq
    rcases List.mem_append.1 hq with hq | hq
    · exact h q (List.mem_of_mem_take hq)
    · rcases List.mem_cons.1 hq with rfl | hq
      · exact hl x List.mem_cons_self
      · exact h q (List.mem_of_mem_drop hq)

/-- the last pair of a row of the call's own -/
theorem own_last {w : World} {B i : Nat} {v : Value} {r : List Pr} {q : Pr} (ho : w.ownsRow B 42 2 v (i + 1) (flat (r ++ [q]))) (hr : r.length = i) :
    ∃ g cap, v = .slice (some ⟨g, 0, none⟩) (i + 1) cap ∧ B ≤ g ∧ g < w.heap.size ∧ w.cell? ⟨g, i * 2, none⟩ = some (K q.1) ∧ w.cell? ⟨g, i * 2 + 1, none⟩ = some (K q.2) ∧ w.frozen? ⟨g, i * 2 + 1, none⟩ = false ∧
      ∀ z, (w.setCell ⟨g, i * 2 + 1, none⟩ (K z)).ownsRow B 42 2 v (i + 1) (flat (r ++ [(q.1, z)])) := by
  have ho' := ho
  rcases ho.2 with ⟨_, h⟩ | ⟨g, cap, cur, rfl, hg, hh, hnc, hm, hs, ht⟩
  · omega
  · have hx : Has w g 42 cur := hh
    have e1 : (flat (r ++ [q]))[i * 2]? = some (K q.1) := by
      have := flat_key (r ++ [q]) i (by simp; omega)
      rw [this]; subst hr; simp
    have e2 : (flat (r ++ [q]))[i * 2 + 1]? = some (K q.2) := by
      have := flat_val (r ++ [q]) i (by simp; omega)
      rw [this]; subst hr; simp
    have c1 := ho'.cells (g := g) rfl _ _ e1
    have c2 := ho'.cells (g := g) rfl _ _ e2
    rw [add_none, Nat.zero_add] at c1 c2
    refine ⟨g, cap, rfl, hg, hx.lt, c1, c2, hx.free _, fun z => ?_⟩
    have := (ho'.stored (i * 2 + 1) (K z)).1
    rw [flat_append] at this ⊢
    rw [List.set_append_right _ _ (by rw [flat_length]; omega), flat_length, show i * 2 + 1 - r.length * 2 = 1 by omega] at this
    exact this
theorem own_set {w : World} {B i g cap : Nat} {r : List Pr} {q : Pr} (ho : w.ownsRow B 42 2 (.slice (some ⟨g, 0, none⟩) (i + 1) cap) (i + 1) (flat (r ++ [q]))) (hr : r.length = i) (z : BitVec 64) :
    (w.setCell ⟨g, i * 2 + 1, none⟩ (K z)).ownsRow B 42 2 (.slice (some ⟨g, 0, none⟩) (i + 1) cap) (i + 1) (flat (r ++ [(q.1, z)])) := by
  have := (ho.stored (i * 2 + 1) (K z)).1
  rw [flat_append] at this ⊢
  rw [List.set_append_right _ _ (by rw [flat_length]; omega), flat_length, show i * 2 + 1 - r.length * 2 = 1 by omega] at this
  exact this
theorem combine_named {p : Nat} (p1 : 1 ≤ p) (p3 : p ≤ 3) {a b z : BitVec 64} (h : Foldm.cmb p a b = z) (w : World) : Calls Tryd.prog 48 #[.int .u8 p, K a, K b] w fun e w' => e = .returned (.tuple #[K z, .int .i64 0]) ∧ Below w.heap.size w w' := h ▸ combine_at p p1 p3 a b w
/-- what has come of the first k -/
def upTo (o p : Nat) (D : List Cd) (k : Nat) : List Pr := ((D.take k).map (·.2)).foldl (putL o p) []
theorem upTo_next {o p : Nat} {D : List Cd} {k : Nat} {x : Cd} (h : D[k]? = some x) : upTo o p D (k + 1) = putL o p (upTo o p D k) x.2 := by
  obtain ⟨hk, rfl⟩ := List.getElem?_eq_some_iff.1 h
  unfold upTo
  rw [List.take_succ_eq_append_getElem hk, List.map_append, List.foldl_append]; rfl
theorem upTo_low {o p : Nat} {D : List Cd} (hu : Up cnum D) (hc : ∀ x ∈ D, x.1 = Ordm.code o x.2.1) {k : Nat} {x : Cd} (h : D[k]? = some x) : ∀ q ∈ upTo o p D k, num o q.1 ≤ num o x.2.1 := by
  refine fold_low _ _ List.Pairwise.nil (fun q hq => by simp at hq) fun q hq => ?_
  obtain ⟨y, hy, rfl⟩ := List.mem_map.1 hq
  obtain ⟨t, ht, e⟩ := List.getElem_of_mem hy
  rw [List.length_take] at ht
  rw [List.getElem_take] at e
  have hx : x ∈ D := by obtain ⟨hk, rfl⟩ := List.getElem?_eq_some_iff.1 h; exact List.getElem_mem _
  have h1 := up_at cnum hu (show t ≤ k by omega) (by rw [List.getElem?_eq_getElem (by omega), e]) h
  unfold cnum at h1
  rw [hc x hx, hc y (List.mem_of_mem_take hy)] at h1
  exact h1
theorem upTo_le {o p : Nat} {D : List Cd} {k : Nat} : (upTo o p D k).length ≤ k := by
  have := len_fold (o := o) (p := p) ((D.take k).map (·.2)) [] List.Pairwise.nil
  rw [List.length_map, List.length_take, List.length_nil] at this
  unfold upTo; omega

theorem Mem.below {w w' : World} {g B : Nat} {D : List Cd} (h : Mem w g D) (hb : Below B w w') (hg : g < B) : Mem w' g D := Has.below h hb hg
/-- a row of the call's own, made -/
def Owned (w : World) (l : List Pr) (e : Ending) (w' : World) : Prop := ∃ v, e = .returned v ∧ w'.ownsRow w.heap.size 42 2 v l.length (flat l) ∧ Below w.heap.size w w'

set_option maxRecDepth 100000 in
set_option maxHeartbeats 4000000 in
theorem squeezed_any (o p : Nat) (p1 : 1 ≤ p) (p3 : p ≤ 3) (g : Nat) (D : List Cd) (n : Nat) (hn : D.length = n) (h9 : n ≤ 900) (hu : Up cnum D) (hc : ∀ x ∈ D, x.1 = Ordm.code o x.2.1) (w : World) (h : Mem w g D) :
    Calls Tryd.prog 27 #[.int .u8 p, .slice (some ⟨g, 0, none⟩) n n] w (Owned w (upTo o p D n)) := by
  obtain ⟨i0, hi, hz0, hz1, hz2⟩ := info_parts info_pair
  have h' := Lib.hid h
  have hn' := Lib.hid hn
  have hu' := Lib.hid hu
  have hc' := Lib.hid hc
  clear h hn hu hc
  go_enter Tryd.func27, Tryd.ntmps27
  go_wp2
  go_loopw [5, 11] (fun v u wr => ∃ k, k ≤ n ∧ u = .int .i64 ((k : Nat) : Int) ∧ wr.ownsRow w.heap.size 42 2 v (upTo o p D k).length (flat (upTo o p D k)) ∧ Below w.heap.size w wr) (fun _ u _ => n - (intOf u).toNat)
  case atStart => exact ⟨0, Nat.zero_le _, rfl, World.ownsRow_nil _ _ _ _, Below.refl _ _⟩
  case round =>
    obtain ⟨k, hk, rfl, hown, hb⟩ := hrel
    have o1 := Lib.hid hown
    have b1 := Lib.hid hb
    clear hown hb
    by_cases hlt : k < n
    · obtain ⟨x, hx⟩ : ∃ x, D[k]? = some x := ⟨_, List.getElem?_eq_getElem (by rw [hn'.out]; exact hlt)⟩
      have hlow := upTo_low (o := o) (p := p) hu'.out hc'.out hx
      have hnx := upTo_next (o := o) (p := p) hx
      have hin : incr o (upTo o p D k) := fold_incr _ _ List.Pairwise.nil
      have hle := upTo_le (o := o) (p := p) (D := D) (k := k)
      obtain ⟨r, hr⟩ : ∃ r, upTo o p D k = r := ⟨_, rfl⟩
      obtain ⟨r2, hr2⟩ : ∃ r2, upTo o p D (k + 1) = r2 := ⟨_, rfl⟩
      rw [hr] at o1 hlow hnx hin hle
      rw [hr2] at hnx
      have hr2' := Lib.hid hr2
      obtain ⟨c1, c2, c3⟩ := (h'.out.below b1.out h'.out.lt).at_ hx
      clear hx hr hr2
      rcases List.eq_nil_or_concat r with e0 | ⟨r', q, e0⟩
      · subst e0
        obtain ⟨A, c, hv, _, _, _⟩ := own_slice o1.out
        subst hv
        have e2 : r2 = [x.2] := by rw [hnx]; exact putL_new (l := []) (fun q hq => by simp at hq)
        have e2' := Lib.hid e2
        clear hnx e2 hlow hin hle
        go_wp2_with fail
        obtain ⟨W, hW⟩ : ∃ W, wr.alloc (.cells #[V x.1, K x.2.1, K x.2.2] 74) = W := ⟨_, rfl⟩
        have o2 : Hid (W.ownsRow w.heap.size 42 2 (.slice A 0 c) 0 []) := by show W.ownsRow _ _ _ _ _ _; rw [← hW]; exact o1.out.alloc _
        have b2 : Hid (Below w.heap.size w W) := by show Below _ _ _; rw [← hW]; exact b1.out.alloc b1.out.size _
        have d1 : W.cell? ⟨wr.heap.size, 1, none⟩ = some (K x.2.1) := by rw [← hW]; simp
        have d2 : W.cell? ⟨wr.heap.size, 2, none⟩ = some (K x.2.2) := by rw [← hW]; simp
        rw [show wr.alloc (.cells #[Value.int IntKind.u64 x.1.toNat, Value.int IntKind.i64 x.2.1.toInt, Value.int IntKind.i64 x.2.2.toInt] 74) = W from hW]
        go_quiet (fail)
        obtain ⟨W2, hW2⟩ : ∃ W2, W.drewN nq = W2 := ⟨_, rfl⟩
        have o3 : Hid (W2.ownsRow w.heap.size 42 2 (.slice A 0 c) 0 []) := by show W2.ownsRow _ _ _ _ _ _; rw [← hW2]; exact o2.out
        have b3 : Hid (Below w.heap.size w W2) := by show Below _ _ _; rw [← hW2]; exact below_drewN b2.out _
        have d3 : W2.cell? ⟨wr.heap.size, 1, none⟩ = some (K x.2.1) := by rw [← hW2]; exact d1
        have d4 : W2.cell? ⟨wr.heap.size, 2, none⟩ = some (K x.2.2) := by rw [← hW2]; exact d2
        rw [hW2]
        clear hW hW2 d1 d2 c1 c2 c3
        go_wp2_with (at_builtin; refine wpList_append_row rfl _ _ 22 rfl w.heap.size 42 i0 (.agg #[.int .i64 0, .int .i64 0]) 2 16 Tryd.underlying22 hi hz0 hz1 hz2 rfl (by decide) _ 0 _ rfl (o3.out.alloc _) (some ⟨W2.heap.size, 0, none⟩) 1 1 (flat [x.2]) rfl (by simp) (Nat.le_refl _) rfl _ (Has.new W2 42 #[K x.2.1, K x.2.2]).row (flat_one [x.2]) (by unfold maxLen; omega) (by omega) (by have := b3.out.size; simp; omega) ?_)
        intro v' w4 hown hgrow
        have b4 := Lib.hid ((b3.out.alloc b3.out.size (.cells #[K x.2.1, K x.2.2] 42)).grown hgrow (by have := b3.out.size; simp; omega) (fun r e => (o3.out.lt r e).1))
        have o4 := Lib.hid hown
        clear hown hgrow
        go_wp2
        go_roundw
        case rel => exact ⟨k + 1, by omega, by go_num, by rw [hr2'.out, e2'.out]; exact o4.out, b4.out⟩
        case measure => simp [intOf]; omega
      · rw [List.concat_eq_append] at e0
        subst e0
        obtain ⟨i, hri⟩ : ∃ i, r'.length = i := ⟨_, rfl⟩
        have el : (r' ++ [q]).length = i + 1 := by rw [List.length_append, hri]; rfl
        rw [el] at o1 hle
        have hlast : ∀ u ∈ r', num o u.1 < num o q.1 := fun u hu => by
          unfold incr at hin
          exact (List.pairwise_append.1 hin).2.2 u hu q (by simp)
        obtain ⟨g2, cap, rfl, hg2, hg3, c4, c5, f5, hset⟩ := own_last o1.out hri
        have hset' := Lib.hid hset
        have hql := hlow q (by simp)
        have hi1 : (i : Int) + 1 - 1 = (i : Int) := by omega
        have hi2 : (i : Int) < (i : Int) + 1 := by omega
        have hi3 : decide ((0 : Int) ≤ (i : Int)) = true := by simp
        have hri' := Lib.hid hri
        by_cases hk1 : q.1 = x.2.1
        · have e2 : r2 = r' ++ [(q.1, Foldm.cmb p q.2 x.2.2)] := by rw [hnx]; exact putL_old hlast hk1
          obtain ⟨z, hz⟩ : ∃ z, Foldm.cmb p q.2 x.2.2 = z := ⟨_, rfl⟩
          rw [hz] at e2
          have e2' := Lib.hid e2
          have hz' := Lib.hid hz
          have hkb : (q.1.toInt == x.2.1.toInt) = true := by rw [hk1]; simp
          have hg2' := Lib.hid hg2
          clear hnx e2 hlow hin hlast hql hset hri el hz hk1 hg2
          go_wp2_with fail
          obtain ⟨W, hW⟩ : ∃ W, wr.alloc (.cells #[V x.1, K x.2.1, K x.2.2] 74) = W := ⟨_, rfl⟩
          have b2 : Hid (Below w.heap.size w W) := by show Below _ _ _; rw [← hW]; exact b1.out.alloc b1.out.size _
          have bb : Hid (Below wr.heap.size wr W) := by show Below _ _ _; rw [← hW]; exact (Below.refl _ _).alloc (Nat.le_refl _) _
          have d1 : W.cell? ⟨wr.heap.size, 1, none⟩ = some (K x.2.1) := by rw [← hW]; simp
          have d2 : W.cell? ⟨wr.heap.size, 2, none⟩ = some (K x.2.2) := by rw [← hW]; simp
          have d3 : W.cell? ⟨g2, i * 2, none⟩ = some (K q.1) := keep_cell bb.out c4
          have d4 : W.cell? ⟨g2, i * 2 + 1, none⟩ = some (K q.2) := keep_cell bb.out c5
          rw [show wr.alloc (.cells #[Value.int IntKind.u64 x.1.toNat, Value.int IntKind.i64 x.2.1.toInt, Value.int IntKind.i64 x.2.2.toInt] 74) = W from hW]
          go_quiet (fail)
          obtain ⟨W2, hW2⟩ : ∃ W2, W.drewN nq = W2 := ⟨_, rfl⟩
          have b3 : Hid (Below w.heap.size w W2) := by show Below _ _ _; rw [← hW2]; exact below_drewN b2.out _
          have bc : Hid (Below wr.heap.size wr W2) := by show Below _ _ _; rw [← hW2]; exact below_drewN bb.out _
          have a2 : W2.cell? ⟨wr.heap.size, 2, none⟩ = some (K x.2.2) := by rw [← hW2]; exact d2
          have a4 : W2.cell? ⟨g2, i * 2 + 1, none⟩ = some (K q.2) := by rw [← hW2]; exact d4
          have f6 : Hid (W2.frozen? ⟨g2, i * 2 + 1, none⟩ = false) := by show W2.frozen? _ = false; exact (bc.out.frozen (p := ⟨g2, i * 2 + 1, none⟩) (World.block_lt_of_cell? wr _ c5)).trans f5
          rw [hW2]
          clear hW hW2 d1 d2 d3 d4 c1 c2 c3 c4 c5 f5
          have f7 : W2.frozen? ⟨g2, i * 2 + 1, none⟩ = false := f6.out
          have o3 : Hid (W2.ownsRow w.heap.size 42 2 (.slice (some ⟨g2, 0, none⟩) (i + 1) cap) (i + 1) (flat (r' ++ [q]))) := own_next o1.out bc.out
          go_wp2
          go_region_law (first
            | (go_simp; go_at_call 48; (with_reducible refine (combine_named p1 p3 hz'.out _).mono ?_); rintro e w3 ⟨rfl, hb3⟩; have a6 := keep_cell (x := W2.drew) hb3 a4; have f8 := (hb3.frozen (p := ⟨g2, i * 2 + 1, none⟩) (World.block_lt_of_cell? W2.drew _ a4)).trans f7; have h3 := Lib.hid hb3; clear hb3))
          all_goals
            have o4 := Lib.hid (own_set (own_next (w := W2.drew) o3.out.drew h3.out) hri'.out z)
            have b4 := Lib.hid ((b3.out.drew.trans (h3.out.mono (show w.heap.size ≤ W2.drew.heap.size from b3.out.size))).setCell (p := ⟨g2, i * 2 + 1, none⟩) hg2'.out (K z))
            clear a2 a4 a6 f7 f8
            go_wp2
            exact ⟨⟨k + 1, by omega, by go_num, by rw [hr2'.out, e2'.out, List.length_append, hri'.out]; exact o4.out, b4.out⟩, by simp [intOf]; omega⟩
        · have e2 : r2 = r' ++ [q] ++ [x.2] := by
            rw [hnx]
            refine putL_new fun u hu => ?_
            have hne : num o q.1 ≠ num o x.2.1 := fun h => hk1 (num_inj h)
            rcases List.mem_append.1 hu with hu | hu
            · have := hlast u hu; omega
            · simp at hu; subst hu; omega
          have e2' := Lib.hid e2
          have hkb : (q.1.toInt == x.2.1.toInt) = false := by rw [i_beq]; simpa using hk1
          clear hnx e2 hlow hin hlast hql hset hri el hk1
          go_wp2_with fail
          obtain ⟨W, hW⟩ : ∃ W, wr.alloc (.cells #[V x.1, K x.2.1, K x.2.2] 74) = W := ⟨_, rfl⟩
          have o2 : Hid (W.ownsRow w.heap.size 42 2 (.slice (some ⟨g2, 0, none⟩) (i + 1) cap) (i + 1) (flat (r' ++ [q]))) := by show W.ownsRow _ _ _ _ _ _; rw [← hW]; exact o1.out.alloc _
          have b2 : Hid (Below w.heap.size w W) := by show Below _ _ _; rw [← hW]; exact b1.out.alloc b1.out.size _
          have bb : Hid (Below wr.heap.size wr W) := by show Below _ _ _; rw [← hW]; exact (Below.refl _ _).alloc (Nat.le_refl _) _
          have d1 : W.cell? ⟨wr.heap.size, 1, none⟩ = some (K x.2.1) := by rw [← hW]; simp
          have d2 : W.cell? ⟨wr.heap.size, 2, none⟩ = some (K x.2.2) := by rw [← hW]; simp
          have d3' : W.cell? ⟨g2, i * 2, none⟩ = some (K q.1) := keep_cell bb.out c4
          rw [show wr.alloc (.cells #[Value.int IntKind.u64 x.1.toNat, Value.int IntKind.i64 x.2.1.toInt, Value.int IntKind.i64 x.2.2.toInt] 74) = W from hW]
          go_quiet (fail)
          obtain ⟨W2, hW2⟩ : ∃ W2, W.drewN nq = W2 := ⟨_, rfl⟩
          have o3 : Hid (W2.ownsRow w.heap.size 42 2 (.slice (some ⟨g2, 0, none⟩) (i + 1) cap) (i + 1) (flat (r' ++ [q]))) := by show W2.ownsRow _ _ _ _ _ _; rw [← hW2]; exact o2.out
          have b3 : Hid (Below w.heap.size w W2) := by show Below _ _ _; rw [← hW2]; exact below_drewN b2.out _
          have d3 : W2.cell? ⟨wr.heap.size, 1, none⟩ = some (K x.2.1) := by rw [← hW2]; exact d1
          have d4 : W2.cell? ⟨wr.heap.size, 2, none⟩ = some (K x.2.2) := by rw [← hW2]; exact d2
          rw [hW2]
          clear hW hW2 d1 d2 d3' c1 c2 c3 c4 c5 f5
          go_wp2_with (at_builtin; refine wpList_append_row rfl _ _ 22 rfl w.heap.size 42 i0 (.agg #[.int .i64 0, .int .i64 0]) 2 16 Tryd.underlying22 hi hz0 hz1 hz2 rfl (by decide) _ (i + 1) _ rfl (o3.out.alloc _) (some ⟨W2.heap.size, 0, none⟩) 1 1 (flat [x.2]) rfl (by simp) (Nat.le_refl _) rfl _ (Has.new W2 42 #[K x.2.1, K x.2.2]).row (flat_one [x.2]) (by unfold maxLen; omega) (by omega) (by have := b3.out.size; simp; omega) ?_)
          intro v' w4 hown hgrow
          have b4 := Lib.hid ((b3.out.alloc b3.out.size (.cells #[K x.2.1, K x.2.2] 42)).grown hgrow (by have := b3.out.size; simp; omega) (fun r e => (o3.out.lt r e).1))
          have o4 := Lib.hid hown
          clear hown hgrow
          go_wp2
          go_roundw
          case rel => exact ⟨k + 1, by omega, by go_num, by rw [hr2'.out, e2'.out, List.length_append, List.length_append, hri'.out, flat_append]; exact o4.out, b4.out⟩
          case measure => simp [intOf]; omega
    · have : k = n := by omega
      subst this
      go_wp2
      go_ret
      exact ⟨_, rfl, o1.out, b1.out⟩

set_option maxHeartbeats 2000000 in
theorem sort_none (o p : Nat) (h : ¬ ((1 ≤ o ∧ o ≤ 7) ∧ 1 ≤ p ∧ p ≤ 3)) (x : Value) (w : World) (hp : 0 < w.heap.size) (hs : Steps w) :
    Calls Tryd.prog 9 #[.int .u8 o, .int .u8 p, x] w (MadeH w 0 [] (.int .i64 2)) := by
  have hc := Lib.hid (here_nil hp hs)
  clear hs
  by_cases ho : 1 ≤ o ∧ o ≤ 7
  · have hq : ¬ (1 ≤ (p : Int) ∧ (p : Int) ≤ 3) := fun ⟨a, b⟩ => h ⟨ho, by omega, by omega⟩
    have hq' := Lib.hid hq
    have hm := Lib.hid (rowMay_is (o := o) (c := 0) (mayB_mk ho.1 ho.2 rfl) hc.out.len hc.out.k hc.out.pos hc.out.steps hc.out.row)
    clear h hq
    go_enter Tryd.func9, Tryd.ntmps9
    go_wp2_with fail
    (with_reducible refine hm.out.mono ?_)
    rintro e w1 ⟨rfl, hb⟩
    have b1 := Lib.hid hb
    clear hb hm
    go_wp2_with fail
    (with_reducible refine (may_none _ hq'.out _).mono ?_)
    rintro e w2 ⟨rfl, hb⟩
    have b2 := Lib.hid (Below.after b1.out hb)
    clear hb
    go_wp2
    go_ret2
    exact ⟨none, 0, rfl, hc.out.next b2.out, b2.out⟩
  · have hm := Lib.hid (rowMay_is (o := o) (c := 0) (may_none_of ho []) hc.out.len hc.out.k hc.out.pos hc.out.steps hc.out.row)
    clear h ho
    go_enter Tryd.func9, Tryd.ntmps9
    go_wp2_with fail
    (with_reducible refine hm.out.mono ?_)
    rintro e w1 ⟨rfl, hb⟩
    have b1 := Lib.hid hb
    clear hb hm
    go_wp2
    go_ret2
    exact ⟨none, 0, rfl, hc.out.next b1.out, b1.out⟩

set_option maxHeartbeats 2000000 in
theorem sort_yes (o p : Nat) (h1 : 1 ≤ o) (h7 : o ≤ 7) (p1 : 1 ≤ p) (p3 : p ≤ 3) (A : Option Addr) (n c : Nat) (l s : List Pr) (m : Nat) (hs : sortL o p l = s) (hm : s.length = m) (w : World) (h : Here w A n c l) :
    Calls Tryd.prog 9 #[.int .u8 o, .int .u8 p, .slice A n c] w (MadeH w m s (.int .i64 0)) := by
  have hc := Lib.hid (here_nil h.pos h.steps)
  have h' := Lib.hid h
  have hs' := Lib.hid hs
  have hm' := Lib.hid hm
  have hy := Lib.hid (rowMay_is (o := o) (c := 0) (mayB_mk h1 h7 rfl) hc.out.len hc.out.k hc.out.pos hc.out.steps hc.out.row)
  have h9 := h.few
  have m9 : m ≤ 900 := by have := len_sortL o p l; rw [hs, hm, h.len] at this; omega
  clear h hs hm
  go_enter Tryd.func9, Tryd.ntmps9
  go_wp2_with fail
  (with_reducible refine hy.out.mono ?_)
  rintro e w1 ⟨rfl, hb⟩
  have b1 := Lib.hid hb
  clear hb hy
  go_wp2_with fail
  (with_reducible refine (may_at _ p1 p3 _).mono ?_)
  rintro e w2 ⟨rfl, hb⟩
  have b2 := Lib.hid (Below.after b1.out hb)
  have h2 := Lib.hid (h'.out.next b2.out)
  clear hb
  go_wp2_with fail
  (with_reducible refine (byCode_any o h1 h7 A n c l _ h2.out).mono ?_)
  rintro e w3 ⟨g, D, rfl, k1, k2, k3, hb⟩
  have q1 := Lib.hid k1
  have q3 := Lib.hid k3
  have b3 := Lib.hid (Below.after b2.out hb)
  have hc3 := Lib.hid (squeezed_any o p p1 p3 g D n (by rw [k1.2, List.length_map]; exact h2.out.len) h9 k2 (fun x hx => mem_same k1 hx) w3 k3)
  clear k1 k2 k3 hb
  go_wp2_with fail
  (with_reducible refine hc3.out.mono ?_)
  rintro e w4 ⟨v, rfl, ho, hb⟩
  have e1 : upTo o p D n = s := by
    have : n = D.length := by rw [q1.out.2, List.length_map]; exact h2.out.len.symm
    unfold upTo
    rw [this, List.take_length, ← hs'.out]
    exact sort_same q1.out
  rw [e1, hm'.out] at ho
  have hmade := Lib.hid (made_own (w := w) (x := .int .i64 0) h'.out.pos h'.out.steps hm'.out m9 ho (Below.after b3.out hb))
  clear ho hb e1 hc3
  go_wp2
  go_ret2
  exact hmade.out
end Go.Proofs.YtjnnfineebabaaaDoor
