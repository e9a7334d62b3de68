/- The statement RowEnds of layer 4, walked. -/
import Derived.Test.YtekggefokoaidaaDoorL4Ans
import Derived.Test.YtekggefokoaidaaDoorL4Alive
namespace Go.Proofs.YtekggefokoaidaaDoor
open Go.RowKit Go.Shelf Go.Proofs.Rowm

/-- how two keys stand, under a name -/
theorem refCmp_is {o : Nat} (h1 : 1 ≤ o) (h7 : o ≤ 7) {a b : BitVec 64} {s : Int} (h : Ordm.stand o a b = s) (w : World) : Calls Tryd.prog 25 #[.int .u8 o, K a, K b] w fun e w' => e = .returned (.int .i64 s) ∧ w = w' := h ▸ refCompare_at o h1 h7 a b w
/-- a pair of a row that rises stands where it is -/
theorem at_self {o : Nat} {l : List Pr} (hr : rises o l = true) (k : Nat) (hk : k < l.length) : At o l l[k].1 k (k + 1) := by
  have ha := at_of hr l[k].1
  have h1 := (ha.key_iff k hk).1 rfl
  have h2 := ha.one
  have e1 : pos o l[k].1 l = k := by omega
  have e2 : upto o l[k].1 l = k + 1 := by omega
  rw [e1, e2] at ha
  exact ha

set_option maxRecDepth 100000 in
set_option maxHeartbeats 2000000 in
theorem rowEnds_many (o : Nat) (A : Option Addr) (n c : Nat) (key : BitVec 64) (hn : 200 < n) (hc : n ≤ maxLen) (w : World) (h0 : 0 < w.heap.size) (hs : Steps w) :
    Calls Tryd.prog 5 #[.int .u8 o, .slice A n c, K key] w fun e w' => e = .returned (.bool true) ∧ Below w.heap.size w w' := by
  unfold maxLen at hc
  have hs' := Lib.hid hs
  clear hs
  have hd : (200 : Int) < (n : Int) := by omega
  go_enter Tryd.func5, Tryd.ntmps5
  go_wp2_with fail
  refine (alive4_any _ h0 hs'.out).mono ?_
  rintro e w1 ⟨rfl, hb⟩
  have b1 := Lib.hid hb
  clear hb
  go_wp2
  go_ret
  exact ⟨rfl, b1.out⟩
set_option maxRecDepth 100000 in
set_option maxHeartbeats 2000000 in
theorem rowEnds_no (o : Nat) (A : Option Addr) (n c : Nat) (l : List Pr) (key : BitVec 64) (hn : n ≤ 200) (hm : mayB o l = false) (w : World) (h : Here w A n c l) :
    Calls Tryd.prog 5 #[.int .u8 o, .slice A n c, K key] w fun e w' => e = .returned (.bool true) ∧ Below w.heap.size w w' := by
  have h' := Lib.hid h
  have hm' := Lib.hid hm
  clear h hm
  have hd : ¬ ((200 : Int) < (n : Int)) := by omega
  go_enter Tryd.func5, Tryd.ntmps5
  go_wp2_with fail
  refine (rowMay_is hm'.out h'.out.len h'.out.k h'.out.pos h'.out.steps h'.out.row).mono ?_
  rintro e w1 ⟨rfl, hb⟩
  have b1 := Lib.hid hb
  have h1 := Lib.hid (h'.out.next hb)
  clear hb
  go_wp2_with fail
  refine (alive4_any _ h1.out.pos h1.out.steps).mono ?_
  rintro e w2 ⟨rfl, hb⟩
  have b2 := Lib.hid (Below.after b1.out hb)
  clear hb
  go_wp2
  go_ret
  exact ⟨rfl, b2.out⟩

set_option maxRecDepth 100000 in
set_option maxHeartbeats 8000000 in
theorem rowEnds_one (o : Nat) (A : Option Addr) (n c : Nat) (l : List Pr) (key : BitVec 64) (i j : Nat) (hn : n ≤ 200) (hm : mayB o l = true) (ha : At o l key i j) (hij : i < j) (hpos : 0 < i) (w : World) (h : Here w A n c l) :
    Calls Tryd.prog 5 #[.int .u8 o, .slice A n c, K key] w fun e w' => e = .returned (.bool true) ∧ Below w.heap.size w w' := by
  obtain ⟨h1, h7, hris⟩ := mayB_parts hm
  have hl := h.len
  have hle := ha.le
  have hone := ha.one
  have hjn : j ≤ n := hl ▸ ha.len
  have hin : i ≤ n := by omega
  have hil : i < l.length := by omega
  have hng : ¬ ((n : Int) < (i : Int)) := by omega
  have hng2 : ¬ (n < i) := by omega
  have hneg : ¬ ((i : Int) < 0) := by omega
  have hinn : i < n := by omega
  have ht' : Hid (decide (i < j) = true) := decide_eq_true hij
  have hf' : Hid (decide (0 < j) = true) := decide_eq_true (by omega)
  have hg' : Hid (decide (i < n) = true) := decide_eq_true (by omega)
  obtain ⟨s1, hs1e⟩ : ∃ s, Ordm.stand o key key = s := ⟨_, rfl⟩
  have hsle : s1 ≤ 0 := by rw [← hs1e]; exact (stand_le o key key).2 (Nat.le_refl _)
  have hs1 := Lib.hid hs1e
  clear hs1e
  obtain ⟨v, hli⟩ : ∃ v, l[i] = (key, v) := ⟨l[i].2, by rw [← ha.mid hil hij]⟩
  have hfl : Hid (floorAt l j = (key, v)) := by show floorAt l j = (key, v); unfold floorAt; rw [if_pos (by omega), show j - 1 = i by omega, getD_at l i hil, hli]
  have hce : Hid (ceilAt l i = (key, v)) := by show ceilAt l i = (key, v); unfold ceilAt; rw [getD_at l i hil, hli]
  have at' := Lib.hid fun k hk => at_self hris k hk
  have h' := Lib.hid h
  have hm' := Lib.hid hm
  have ha' := Lib.hid ha
  have hl' := Lib.hid hl
  clear h hm ha hris hl
  have hd : ¬ ((200 : Int) < (n : Int)) := by omega
  go_enter Tryd.func5, Tryd.ntmps5
  go_wp2_with fail
  refine (rowMay_is hm'.out h'.out.len h'.out.k h'.out.pos h'.out.steps h'.out.row).mono ?_
  rintro e w1 ⟨rfl, hb⟩
  have b1 := Lib.hid hb
  clear hb
  go_wp2
  go_loopw [7] (fun q wr => ∃ k : Nat, k ≤ n ∧ q = .int .i64 k ∧ Below w.heap.size w wr) (fun q _ => n - (intOf q).toNat)
  case atStart => exact ⟨0, Nat.zero_le _, rfl, b1.out⟩
  case round =>
    obtain ⟨k, hk, rfl, hb⟩ := hrel
    have b2 := Lib.hid hb
    have hh2 := Lib.hid (h'.out.next hb)
    clear hb b1
    by_cases hlt : k < n
    · have hkl : k < l.length := by rw [hl'.out]; exact hlt
      obtain ⟨ad, hA, _, g1, g2⟩ := pair_at hh2.out.row k hkl
      subst hA
      have hv : Hid (valAt l k (k + 1) = l[k].2) := by show valAt l k (k + 1) = l[k].2; unfold valAt; rw [if_pos (Nat.lt_succ_self k), getD_at l k hkl]
      have hat := Lib.hid (at'.out k hkl)
      have htt : Hid (decide (k < k + 1) = true) := by show decide (k < k + 1) = true; simp
      obtain ⟨y, hy⟩ : ∃ y, l[k].1 = y := ⟨_, rfl⟩
      obtain ⟨z, hz⟩ : ∃ z, l[k].2 = z := ⟨_, rfl⟩
      simp only [hy, hz] at g1 g2 hat hv
      have gy := Lib.hid hy
      have gz := Lib.hid hz
      clear hy hz
      go_wp2_with fail
      refine (find_yes o _ n c l y k (k + 1) true htt.out hm'.out hat.out hh2.out.len hh2.out.k _ hh2.out.pos hh2.out.steps hh2.out.row).mono ?_
      rintro e w3 ⟨rfl, hb⟩
      have b3 := Lib.hid (Below.after b2.out hb)
      have hh3 := Lib.hid (hh2.out.next hb)
      have q1 := keep_cell hb g1
      have q2 := keep_cell hb g2
      clear hb g1 g2
      go_wp2_with fail
      refine (get_yes o _ n c l y k (k + 1) true htt.out hm'.out hat.out hh3.out.len hh3.out.k _ hh3.out.pos hh3.out.steps hh3.out.row).mono ?_
      rintro e w4 ⟨rfl, hb⟩
      have b4 := Lib.hid (Below.after b3.out hb)
      have q3 := keep_cell hb q2
      rw [hv.out]
      clear hb q1 q2
      go_wp2
      go_roundw
      case rel => exact ⟨k + 1, by omega, by go_num, b4.out⟩
      case measure => simp [intOf]; omega
    · clear at'
      go_wp2_with fail
      refine (find_yes o A n c l key i j true ht'.out hm'.out ha'.out hh2.out.len hh2.out.k _ hh2.out.pos hh2.out.steps hh2.out.row).mono ?_
      rintro e w3 ⟨rfl, hb⟩
      have b3 := Lib.hid (Below.after b2.out hb)
      have hh3 := Lib.hid (hh2.out.next hb)
      clear hb b2 hh2
      go_wp2_with fail
      refine (floor_yes o A n c l key i j true hf'.out (key, v) hfl.out hm'.out ha'.out hh3.out.len hh3.out.k _ hh3.out.pos hh3.out.steps hh3.out.row).mono ?_
      rintro e w4 ⟨rfl, hb⟩
      have hb2 := Below.after hb (below_new w4 (.cells #[K (key, v).1, K (key, v).2] 24))
      have b4 := Lib.hid (Below.after b3.out hb2)
      have hh4 := Lib.hid (hh3.out.next hb2)
      have ya4 := Lib.hid (Has.new w4 24 #[K (key, v).1, K (key, v).2])
      clear hb hb2 b3 hh3
      go_wp2_with fail
      refine (ceil_yes o A n c l key i j true hg'.out (key, v) hce.out hm'.out ha'.out hh4.out.len hh4.out.k _ hh4.out.pos hh4.out.steps hh4.out.row).mono ?_
      rintro e w5 ⟨rfl, hb⟩
      have hb2 := Below.after hb (below_new w5 (.cells #[K (key, v).1, K (key, v).2] 24))
      have b5 := Lib.hid (Below.after b4.out hb2)
      have hh5 := Lib.hid (hh4.out.next hb2)
      have ya5 := Lib.hid (ya4.out.next hb2)
      have yb5 := Lib.hid (Has.new w5 24 #[K (key, v).1, K (key, v).2])
      clear hb hb2 b4 hh4 ya4
      have s0 := ya5.out.c0
      have s1 := ya5.out.c1
      have u0 := yb5.out.c0
      have u1 := yb5.out.c1
      obtain ⟨ad, hA, _, g1, g2⟩ := pair_at hh5.out.row i hil
      subst hA
      simp only [hli] at g1 g2
      have hli' := Lib.hid hli
      clear hli
      go_wp2_with fail
      go_quiet (fail)
      have hbq := Lib.hid (below_drewN (Below.refl (w5.alloc (.cells #[K key, K v] 24)).heap.size (w5.alloc (.cells #[K key, K v] 24))) nq)
      have hh6 := Lib.hid (hh5.out.next hbq.out)
      have b6 := Lib.hid (Below.after b5.out hbq.out)
      go_wp2_with (go_at_call 25; refine (refCmp_is h1 h7 hs1.out _).mono ?_; rintro e w' ⟨rfl, rfl⟩)
      refine (alive4_any _ hh6.out.pos hh6.out.steps).mono ?_
      rintro e w7 ⟨rfl, hb⟩
      have b7 := Lib.hid (Below.after b6.out hb)
      clear hb
      go_wp2
      go_ret
      exact ⟨rfl, b7.out⟩

set_option maxRecDepth 100000 in
set_option maxHeartbeats 8000000 in
theorem rowEnds_first (o : Nat) (A : Option Addr) (n c : Nat) (l : List Pr) (key : BitVec 64) (i j : Nat) (hn : n ≤ 200) (hm : mayB o l = true) (ha : At o l key i j) (hij : i < j) (hpos : ¬ 0 < i) (w : World) (h : Here w A n c l) :
    Calls Tryd.prog 5 #[.int .u8 o, .slice A n c, K key] w fun e w' => e = .returned (.bool true) ∧ Below w.heap.size w w' := by
  obtain ⟨h1, h7, hris⟩ := mayB_parts hm
  have hl := h.len
  have hle := ha.le
  have hone := ha.one
  have hjn : j ≤ n := hl ▸ ha.len
  have hin : i ≤ n := by omega
  have hil : i < l.length := by omega
  have hng : ¬ ((n : Int) < (i : Int)) := by omega
  have hng2 : ¬ (n < i) := by omega
  have hneg : ¬ ((i : Int) < 0) := by omega
  have hinn : i < n := by omega
  have ht' : Hid (decide (i < j) = true) := decide_eq_true hij
  have hf' : Hid (decide (0 < j) = true) := decide_eq_true (by omega)
  have hg' : Hid (decide (i < n) = true) := decide_eq_true (by omega)
  obtain ⟨s1, hs1e⟩ : ∃ s, Ordm.stand o key key = s := ⟨_, rfl⟩
  have hsle : s1 ≤ 0 := by rw [← hs1e]; exact (stand_le o key key).2 (Nat.le_refl _)
  have hs1 := Lib.hid hs1e
  clear hs1e
  obtain ⟨v, hli⟩ : ∃ v, l[i] = (key, v) := ⟨l[i].2, by rw [← ha.mid hil hij]⟩
  have hfl : Hid (floorAt l j = (key, v)) := by show floorAt l j = (key, v); unfold floorAt; rw [if_pos (by omega), show j - 1 = i by omega, getD_at l i hil, hli]
  have hce : Hid (ceilAt l i = (key, v)) := by show ceilAt l i = (key, v); unfold ceilAt; rw [getD_at l i hil, hli]
  have at' := Lib.hid fun k hk => at_self hris k hk
  have h' := Lib.hid h
  have hm' := Lib.hid hm
  have ha' := Lib.hid ha
  have hl' := Lib.hid hl
  clear h hm ha hris hl
  have hd : ¬ ((200 : Int) < (n : Int)) := by omega
  go_enter Tryd.func5, Tryd.ntmps5
  go_wp2_with fail
  refine (rowMay_is hm'.out h'.out.len h'.out.k h'.out.pos h'.out.steps h'.out.row).mono ?_
  rintro e w1 ⟨rfl, hb⟩
  have b1 := Lib.hid hb
  clear hb
  go_wp2
  go_loopw [7] (fun q wr => ∃ k : Nat, k ≤ n ∧ q = .int .i64 k ∧ Below w.heap.size w wr) (fun q _ => n - (intOf q).toNat)
  case atStart => exact ⟨0, Nat.zero_le _, rfl, b1.out⟩
  case round =>
    obtain ⟨k, hk, rfl, hb⟩ := hrel
    have b2 := Lib.hid hb
    have hh2 := Lib.hid (h'.out.next hb)
    clear hb b1
    by_cases hlt : k < n
    · have hkl : k < l.length := by rw [hl'.out]; exact hlt
      obtain ⟨ad, hA, _, g1, g2⟩ := pair_at hh2.out.row k hkl
      subst hA
      have hv : Hid (valAt l k (k + 1) = l[k].2) := by show valAt l k (k + 1) = l[k].2; unfold valAt; rw [if_pos (Nat.lt_succ_self k), getD_at l k hkl]
      have hat := Lib.hid (at'.out k hkl)
      have htt : Hid (decide (k < k + 1) = true) := by show decide (k < k + 1) = true; simp
      obtain ⟨y, hy⟩ : ∃ y, l[k].1 = y := ⟨_, rfl⟩
      obtain ⟨z, hz⟩ : ∃ z, l[k].2 = z := ⟨_, rfl⟩
      simp only [hy, hz] at g1 g2 hat hv
      have gy := Lib.hid hy
      have gz := Lib.hid hz
      clear hy hz
      go_wp2_with fail
      refine (find_yes o _ n c l y k (k + 1) true htt.out hm'.out hat.out hh2.out.len hh2.out.k _ hh2.out.pos hh2.out.steps hh2.out.row).mono ?_
      rintro e w3 ⟨rfl, hb⟩
      have b3 := Lib.hid (Below.after b2.out hb)
      have hh3 := Lib.hid (hh2.out.next hb)
      have q1 := keep_cell hb g1
      have q2 := keep_cell hb g2
      clear hb g1 g2
      go_wp2_with fail
      refine (get_yes o _ n c l y k (k + 1) true htt.out hm'.out hat.out hh3.out.len hh3.out.k _ hh3.out.pos hh3.out.steps hh3.out.row).mono ?_
      rintro e w4 ⟨rfl, hb⟩
      have b4 := Lib.hid (Below.after b3.out hb)
      have q3 := keep_cell hb q2
      rw [hv.out]
      clear hb q1 q2
      go_wp2
      go_roundw
      case rel => exact ⟨k + 1, by omega, by go_num, b4.out⟩
      case measure => simp [intOf]; omega
    · clear at'
      go_wp2_with fail
      refine (find_yes o A n c l key i j true ht'.out hm'.out ha'.out hh2.out.len hh2.out.k _ hh2.out.pos hh2.out.steps hh2.out.row).mono ?_
      rintro e w3 ⟨rfl, hb⟩
      have b3 := Lib.hid (Below.after b2.out hb)
      have hh3 := Lib.hid (hh2.out.next hb)
      clear hb b2 hh2
      go_wp2_with fail
      refine (floor_yes o A n c l key i j true hf'.out (key, v) hfl.out hm'.out ha'.out hh3.out.len hh3.out.k _ hh3.out.pos hh3.out.steps hh3.out.row).mono ?_
      rintro e w4 ⟨rfl, hb⟩
      have hb2 := Below.after hb (below_new w4 (.cells #[K (key, v).1, K (key, v).2] 24))
      have b4 := Lib.hid (Below.after b3.out hb2)
      have hh4 := Lib.hid (hh3.out.next hb2)
      have ya4 := Lib.hid (Has.new w4 24 #[K (key, v).1, K (key, v).2])
      clear hb hb2 b3 hh3
      go_wp2_with fail
      refine (ceil_yes o A n c l key i j true hg'.out (key, v) hce.out hm'.out ha'.out hh4.out.len hh4.out.k _ hh4.out.pos hh4.out.steps hh4.out.row).mono ?_
      rintro e w5 ⟨rfl, hb⟩
      have hb2 := Below.after hb (below_new w5 (.cells #[K (key, v).1, K (key, v).2] 24))
      have b5 := Lib.hid (Below.after b4.out hb2)
      have hh5 := Lib.hid (hh4.out.next hb2)
      have ya5 := Lib.hid (ya4.out.next hb2)
      have yb5 := Lib.hid (Has.new w5 24 #[K (key, v).1, K (key, v).2])
      clear hb hb2 b4 hh4 ya4
      have s0 := ya5.out.c0
      have s1 := ya5.out.c1
      have u0 := yb5.out.c0
      have u1 := yb5.out.c1
      obtain ⟨ad, hA, _, g1, g2⟩ := pair_at hh5.out.row i hil
      subst hA
      simp only [hli] at g1 g2
      have hli' := Lib.hid hli
      clear hli
      go_wp2_with fail
      go_quiet (fail)
      have hbq := Lib.hid (below_drewN (Below.refl (w5.alloc (.cells #[K key, K v] 24)).heap.size (w5.alloc (.cells #[K key, K v] 24))) nq)
      have hh6 := Lib.hid (hh5.out.next hbq.out)
      have b6 := Lib.hid (Below.after b5.out hbq.out)
      go_wp2_with (go_at_call 25; refine (refCmp_is h1 h7 hs1.out _).mono ?_; rintro e w' ⟨rfl, rfl⟩)
      refine (alive4_any _ hh6.out.pos hh6.out.steps).mono ?_
      rintro e w7 ⟨rfl, hb⟩
      have b7 := Lib.hid (Below.after b6.out hb)
      clear hb
      go_wp2
      go_ret
      exact ⟨rfl, b7.out⟩

set_option maxRecDepth 100000 in
set_option maxHeartbeats 8000000 in
theorem rowEnds_mid (o : Nat) (A : Option Addr) (n c : Nat) (l : List Pr) (key : BitVec 64) (i j : Nat) (hn : n ≤ 200) (hm : mayB o l = true) (ha : At o l key i j) (hij : ¬ i < j) (m : Nat) (hpos : i = m + 1) (hin' : i < n) (w : World) (h : Here w A n c l) :
    Calls Tryd.prog 5 #[.int .u8 o, .slice A n c, K key] w fun e w' => e = .returned (.bool true) ∧ Below w.heap.size w w' := by
  obtain ⟨h1, h7, hris⟩ := mayB_parts hm
  have hl := h.len
  have hle := ha.le
  have hone := ha.one
  have hjn : j ≤ n := hl ▸ ha.len
  have hin : i ≤ n := by omega
  have hng : ¬ ((n : Int) < (i : Int)) := by omega
  have hng2 : ¬ (n < i) := by omega
  have hneg : ¬ ((i : Int) < 0) := by omega
  have ht' : Hid (decide (i < j) = false) := decide_eq_false hij
  have hml : m < l.length := by omega
  have hwr : IntKind.i64.wrap ((i : Int) - 1) = (m : Int) := by rw [IntWalk.i64_in _ ⟨by omega, by omega⟩]; omega
  have hmn : m < n := by omega
  have hip : 0 < i := by omega
  have hf' : Hid (decide (0 < j) = true) := decide_eq_true (by omega)
  obtain ⟨fk, fv, hlm⟩ : ∃ fk fv, l[m] = (fk, fv) := ⟨l[m].1, l[m].2, rfl⟩
  have hfl : Hid (floorAt l j = (fk, fv)) := by show floorAt l j = (fk, fv); unfold floorAt; rw [if_pos (by omega), show j - 1 = m by omega, getD_at l m hml, hlm]
  obtain ⟨s1, hs1e⟩ : ∃ s, Ordm.stand o fk key = s := ⟨_, rfl⟩
  have hsle : s1 ≤ 0 := by rw [← hs1e]; refine (stand_le o fk key).2 (Nat.le_of_lt ?_); have := ha.low m hml (by omega); rw [hlm] at this; exact this
  have hs1 := Lib.hid hs1e
  clear hs1e
  have hpos' := Lib.hid hpos
  clear hpos
  have hil : i < l.length := by omega
  have hg' : Hid (decide (i < n) = true) := decide_eq_true hin'
  obtain ⟨ck, cv, hli⟩ : ∃ ck cv, l[i] = (ck, cv) := ⟨l[i].1, l[i].2, rfl⟩
  have hce : Hid (ceilAt l i = (ck, cv)) := by show ceilAt l i = (ck, cv); unfold ceilAt; rw [getD_at l i hil, hli]
  obtain ⟨s2, hs2e⟩ : ∃ s, Ordm.stand o key ck = s := ⟨_, rfl⟩
  have hsle2 : s2 ≤ 0 := by rw [← hs2e]; refine (stand_le o key ck).2 (Nat.le_of_lt ?_); have := ha.high i hil (by omega); rw [hli] at this; exact this
  have hs2 := Lib.hid hs2e
  clear hs2e
  have at' := Lib.hid fun k hk => at_self hris k hk
  have h' := Lib.hid h
  have hm' := Lib.hid hm
  have ha' := Lib.hid ha
  have hl' := Lib.hid hl
  clear h hm ha hris hl
  have hd : ¬ ((200 : Int) < (n : Int)) := by omega
  go_enter Tryd.func5, Tryd.ntmps5
  go_wp2_with fail
  refine (rowMay_is hm'.out h'.out.len h'.out.k h'.out.pos h'.out.steps h'.out.row).mono ?_
  rintro e w1 ⟨rfl, hb⟩
  have b1 := Lib.hid hb
  clear hb
  go_wp2
  go_loopw [7] (fun q wr => ∃ k : Nat, k ≤ n ∧ q = .int .i64 k ∧ Below w.heap.size w wr) (fun q _ => n - (intOf q).toNat)
  case atStart => exact ⟨0, Nat.zero_le _, rfl, b1.out⟩
  case round =>
    obtain ⟨k, hk, rfl, hb⟩ := hrel
    have b2 := Lib.hid hb
    have hh2 := Lib.hid (h'.out.next hb)
    clear hb b1
    by_cases hlt : k < n
    · have hkl : k < l.length := by rw [hl'.out]; exact hlt
      obtain ⟨ad, hA, _, g1, g2⟩ := pair_at hh2.out.row k hkl
      subst hA
      have hv : Hid (valAt l k (k + 1) = l[k].2) := by show valAt l k (k + 1) = l[k].2; unfold valAt; rw [if_pos (Nat.lt_succ_self k), getD_at l k hkl]
      have hat := Lib.hid (at'.out k hkl)
      have htt : Hid (decide (k < k + 1) = true) := by show decide (k < k + 1) = true; simp
      obtain ⟨y, hy⟩ : ∃ y, l[k].1 = y := ⟨_, rfl⟩
      obtain ⟨z, hz⟩ : ∃ z, l[k].2 = z := ⟨_, rfl⟩
      simp only [hy, hz] at g1 g2 hat hv
      have gy := Lib.hid hy
      have gz := Lib.hid hz
      clear hy hz
      go_wp2_with fail
      refine (find_yes o _ n c l y k (k + 1) true htt.out hm'.out hat.out hh2.out.len hh2.out.k _ hh2.out.pos hh2.out.steps hh2.out.row).mono ?_
      rintro e w3 ⟨rfl, hb⟩
      have b3 := Lib.hid (Below.after b2.out hb)
      have hh3 := Lib.hid (hh2.out.next hb)
      have q1 := keep_cell hb g1
      have q2 := keep_cell hb g2
      clear hb g1 g2
      go_wp2_with fail
      refine (get_yes o _ n c l y k (k + 1) true htt.out hm'.out hat.out hh3.out.len hh3.out.k _ hh3.out.pos hh3.out.steps hh3.out.row).mono ?_
      rintro e w4 ⟨rfl, hb⟩
      have b4 := Lib.hid (Below.after b3.out hb)
      have q3 := keep_cell hb q2
      rw [hv.out]
      clear hb q1 q2
      go_wp2
      go_roundw
      case rel => exact ⟨k + 1, by omega, by go_num, b4.out⟩
      case measure => simp [intOf]; omega
    · clear at'
      go_wp2_with fail
      refine (find_yes o A n c l key i j false ht'.out hm'.out ha'.out hh2.out.len hh2.out.k _ hh2.out.pos hh2.out.steps hh2.out.row).mono ?_
      rintro e w3 ⟨rfl, hb⟩
      have b3 := Lib.hid (Below.after b2.out hb)
      have hh3 := Lib.hid (hh2.out.next hb)
      clear hb b2 hh2
      go_wp2_with fail
      refine (floor_yes o A n c l key i j true hf'.out (fk, fv) hfl.out hm'.out ha'.out hh3.out.len hh3.out.k _ hh3.out.pos hh3.out.steps hh3.out.row).mono ?_
      rintro e w4 ⟨rfl, hb⟩
      have hb2 := Below.after hb (below_new w4 (.cells #[K (fk, fv).1, K (fk, fv).2] 24))
      have b4 := Lib.hid (Below.after b3.out hb2)
      have hh4 := Lib.hid (hh3.out.next hb2)
      have ya4 := Lib.hid (Has.new w4 24 #[K (fk, fv).1, K (fk, fv).2])
      clear hb hb2 b3 hh3
      go_wp2_with fail
      refine (ceil_yes o A n c l key i j true hg'.out (ck, cv) hce.out hm'.out ha'.out hh4.out.len hh4.out.k _ hh4.out.pos hh4.out.steps hh4.out.row).mono ?_
      rintro e w5 ⟨rfl, hb⟩
      have hb2 := Below.after hb (below_new w5 (.cells #[K (ck, cv).1, K (ck, cv).2] 24))
      have b5 := Lib.hid (Below.after b4.out hb2)
      have hh5 := Lib.hid (hh4.out.next hb2)
      have ya5 := Lib.hid (ya4.out.next hb2)
      have yb5 := Lib.hid (Has.new w5 24 #[K (ck, cv).1, K (ck, cv).2])
      clear hb hb2 b4 hh4 ya4
      have s0 := ya5.out.c0
      have s1 := ya5.out.c1
      have u0 := yb5.out.c0
      have u1 := yb5.out.c1
      obtain ⟨ad, hA, _, g1, g2⟩ := pair_at hh5.out.row i hil
      simp only [hli] at g1 g2
      have hli' := Lib.hid hli
      clear hli
      obtain ⟨ad', hA', _, g3, g4⟩ := pair_at hh5.out.row m hml
      simp only [hlm] at g3 g4
      have hlm' := Lib.hid hlm
      clear hlm
      rw [hA] at hA'
      cases hA'
      subst hA
      go_wp2_with fail
      refine wp_region_quiet_lit (by kernel_rfl) (by kernel_rfl) ?_
      repeat (refine @wpQuiet_step _ _ _ _ _ _ _ ?_; intro K hK; go_simp; refine hK _ ?_; clear hK K)
      refine @wpQuiet_nil _ _ _ _ _ ?_
      intro _ hw'
      obtain ⟨nq, hw''⟩ := hw'
      subst hw''
      have hbq := Lib.hid (below_drewN (Below.refl (w5.alloc (.cells #[K ck, K cv] 24)).heap.size (w5.alloc (.cells #[K ck, K cv] 24))) nq)
      have hh6 := Lib.hid (hh5.out.next hbq.out)
      have b6 := Lib.hid (Below.after b5.out hbq.out)
      go_wp2_with (go_at_call 25; (first | with_reducible refine (refCmp_is h1 h7 hs1.out _).mono ?_ | with_reducible refine (refCmp_is h1 h7 hs2.out _).mono ?_); rintro e w' ⟨rfl, rfl⟩)
      refine (alive4_any _ hh6.out.pos hh6.out.steps).mono ?_
      rintro e w7 ⟨rfl, hb⟩
      have b7 := Lib.hid (Below.after b6.out hb)
      clear hb
      go_wp2
      go_ret
      exact ⟨rfl, b7.out⟩

set_option maxRecDepth 100000 in
set_option maxHeartbeats 8000000 in
theorem rowEnds_low (o : Nat) (A : Option Addr) (n c : Nat) (l : List Pr) (key : BitVec 64) (i j : Nat) (hn : n ≤ 200) (hm : mayB o l = true) (ha : At o l key i j) (hij : ¬ i < j) (hpos : ¬ 0 < i) (hin' : i < n) (w : World) (h : Here w A n c l) :
    Calls Tryd.prog 5 #[.int .u8 o, .slice A n c, K key] w fun e w' => e = .returned (.bool true) ∧ Below w.heap.size w w' := by
  obtain ⟨h1, h7, hris⟩ := mayB_parts hm
  have hl := h.len
  have hle := ha.le
  have hone := ha.one
  have hjn : j ≤ n := hl ▸ ha.len
  have hin : i ≤ n := by omega
  have hng : ¬ ((n : Int) < (i : Int)) := by omega
  have hng2 : ¬ (n < i) := by omega
  have hneg : ¬ ((i : Int) < 0) := by omega
  have ht' : Hid (decide (i < j) = false) := decide_eq_false hij
  have hf' : Hid (decide (0 < j) = false) := decide_eq_false (by omega)
  have hfl : Hid (floorAt l j = (0#64, 0#64)) := by show floorAt l j = (0#64, 0#64); unfold floorAt; rw [if_neg (by omega)]
  have hil : i < l.length := by omega
  have hg' : Hid (decide (i < n) = true) := decide_eq_true hin'
  obtain ⟨ck, cv, hli⟩ : ∃ ck cv, l[i] = (ck, cv) := ⟨l[i].1, l[i].2, rfl⟩
  have hce : Hid (ceilAt l i = (ck, cv)) := by show ceilAt l i = (ck, cv); unfold ceilAt; rw [getD_at l i hil, hli]
  obtain ⟨s2, hs2e⟩ : ∃ s, Ordm.stand o key ck = s := ⟨_, rfl⟩
  have hsle2 : s2 ≤ 0 := by rw [← hs2e]; refine (stand_le o key ck).2 (Nat.le_of_lt ?_); have := ha.high i hil (by omega); rw [hli] at this; exact this
  have hs2 := Lib.hid hs2e
  clear hs2e
  have at' := Lib.hid fun k hk => at_self hris k hk
  have h' := Lib.hid h
  have hm' := Lib.hid hm
  have ha' := Lib.hid ha
  have hl' := Lib.hid hl
  clear h hm ha hris hl
  have hd : ¬ ((200 : Int) < (n : Int)) := by omega
  go_enter Tryd.func5, Tryd.ntmps5
  go_wp2_with fail
  refine (rowMay_is hm'.out h'.out.len h'.out.k h'.out.pos h'.out.steps h'.out.row).mono ?_
  rintro e w1 ⟨rfl, hb⟩
  have b1 := Lib.hid hb
  clear hb
  go_wp2
  go_loopw [7] (fun q wr => ∃ k : Nat, k ≤ n ∧ q = .int .i64 k ∧ Below w.heap.size w wr) (fun q _ => n - (intOf q).toNat)
  case atStart => exact ⟨0, Nat.zero_le _, rfl, b1.out⟩
  case round =>
    obtain ⟨k, hk, rfl, hb⟩ := hrel
    have b2 := Lib.hid hb
    have hh2 := Lib.hid (h'.out.next hb)
    clear hb b1
    by_cases hlt : k < n
    · have hkl : k < l.length := by rw [hl'.out]; exact hlt
      obtain ⟨ad, hA, _, g1, g2⟩ := pair_at hh2.out.row k hkl
      subst hA
      have hv : Hid (valAt l k (k + 1) = l[k].2) := by show valAt l k (k + 1) = l[k].2; unfold valAt; rw [if_pos (Nat.lt_succ_self k), getD_at l k hkl]
      have hat := Lib.hid (at'.out k hkl)
      have htt : Hid (decide (k < k + 1) = true) := by show decide (k < k + 1) = true; simp
      obtain ⟨y, hy⟩ : ∃ y, l[k].1 = y := ⟨_, rfl⟩
      obtain ⟨z, hz⟩ : ∃ z, l[k].2 = z := ⟨_, rfl⟩
      simp only [hy, hz] at g1 g2 hat hv
      have gy := Lib.hid hy
      have gz := Lib.hid hz
      clear hy hz
      go_wp2_with fail
      refine (find_yes o _ n c l y k (k + 1) true htt.out hm'.out hat.out hh2.out.len hh2.out.k _ hh2.out.pos hh2.out.steps hh2.out.row).mono ?_
      rintro e w3 ⟨rfl, hb⟩
      have b3 := Lib.hid (Below.after b2.out hb)
      have hh3 := Lib.hid (hh2.out.next hb)
      have q1 := keep_cell hb g1
      have q2 := keep_cell hb g2
      clear hb g1 g2
      go_wp2_with fail
      refine (get_yes o _ n c l y k (k + 1) true htt.out hm'.out hat.out hh3.out.len hh3.out.k _ hh3.out.pos hh3.out.steps hh3.out.row).mono ?_
      rintro e w4 ⟨rfl, hb⟩
      have b4 := Lib.hid (Below.after b3.out hb)
      have q3 := keep_cell hb q2
      rw [hv.out]
      clear hb q1 q2
      go_wp2
      go_roundw
      case rel => exact ⟨k + 1, by omega, by go_num, b4.out⟩
      case measure => simp [intOf]; omega
    · clear at'
      go_wp2_with fail
      refine (find_yes o A n c l key i j false ht'.out hm'.out ha'.out hh2.out.len hh2.out.k _ hh2.out.pos hh2.out.steps hh2.out.row).mono ?_
      rintro e w3 ⟨rfl, hb⟩
      have b3 := Lib.hid (Below.after b2.out hb)
      have hh3 := Lib.hid (hh2.out.next hb)
      clear hb b2 hh2
      go_wp2_with fail
      refine (floor_yes o A n c l key i j false hf'.out (0#64, 0#64) hfl.out hm'.out ha'.out hh3.out.len hh3.out.k _ hh3.out.pos hh3.out.steps hh3.out.row).mono ?_
      rintro e w4 ⟨rfl, hb⟩
      have hb2 := Below.after hb (below_new w4 (.cells #[K (0#64, 0#64).1, K (0#64, 0#64).2] 24))
      have b4 := Lib.hid (Below.after b3.out hb2)
      have hh4 := Lib.hid (hh3.out.next hb2)
      have ya4 := Lib.hid (Has.new w4 24 #[K (0#64, 0#64).1, K (0#64, 0#64).2])
      clear hb hb2 b3 hh3
      go_wp2_with fail
      refine (ceil_yes o A n c l key i j true hg'.out (ck, cv) hce.out hm'.out ha'.out hh4.out.len hh4.out.k _ hh4.out.pos hh4.out.steps hh4.out.row).mono ?_
      rintro e w5 ⟨rfl, hb⟩
      have hb2 := Below.after hb (below_new w5 (.cells #[K (ck, cv).1, K (ck, cv).2] 24))
      have b5 := Lib.hid (Below.after b4.out hb2)
      have hh5 := Lib.hid (hh4.out.next hb2)
      have ya5 := Lib.hid (ya4.out.next hb2)
      have yb5 := Lib.hid (Has.new w5 24 #[K (ck, cv).1, K (ck, cv).2])
      clear hb hb2 b4 hh4 ya4
      have s0 := ya5.out.c0
      have s1 := ya5.out.c1
      have u0 := yb5.out.c0
      have u1 := yb5.out.c1
      obtain ⟨ad, hA, _, g1, g2⟩ := pair_at hh5.out.row i hil
      simp only [hli] at g1 g2
      have hli' := Lib.hid hli
      clear hli
      subst hA
      go_wp2_with fail
      refine wp_region_quiet_lit (by kernel_rfl) (by kernel_rfl) ?_
      repeat (refine @wpQuiet_step _ _ _ _ _ _ _ ?_; intro K hK; go_simp; refine hK _ ?_; clear hK K)
      refine @wpQuiet_nil _ _ _ _ _ ?_
      intro _ hw'
      obtain ⟨nq, hw''⟩ := hw'
      subst hw''
      have hbq := Lib.hid (below_drewN (Below.refl (w5.alloc (.cells #[K ck, K cv] 24)).heap.size (w5.alloc (.cells #[K ck, K cv] 24))) nq)
      have hh6 := Lib.hid (hh5.out.next hbq.out)
      have b6 := Lib.hid (Below.after b5.out hbq.out)
      go_wp2_with (go_at_call 25; (first | with_reducible refine (refCmp_is h1 h7 hs2.out _).mono ?_); rintro e w' ⟨rfl, rfl⟩)
      refine (alive4_any _ hh6.out.pos hh6.out.steps).mono ?_
      rintro e w7 ⟨rfl, hb⟩
      have b7 := Lib.hid (Below.after b6.out hb)
      clear hb
      go_wp2
      go_ret
      exact ⟨rfl, b7.out⟩

set_option maxRecDepth 100000 in
set_option maxHeartbeats 8000000 in
theorem rowEnds_high (o : Nat) (A : Option Addr) (n c : Nat) (l : List Pr) (key : BitVec 64) (i j : Nat) (hn : n ≤ 200) (hm : mayB o l = true) (ha : At o l key i j) (hij : ¬ i < j) (m : Nat) (hpos : i = m + 1) (hin' : ¬ i < n) (w : World) (h : Here w A n c l) :
    Calls Tryd.prog 5 #[.int .u8 o, .slice A n c, K key] w fun e w' => e = .returned (.bool true) ∧ Below w.heap.size w w' := by
  obtain ⟨h1, h7, hris⟩ := mayB_parts hm
  have hl := h.len
  have hle := ha.le
  have hone := ha.one
  have hjn : j ≤ n := hl ▸ ha.len
  have hin : i ≤ n := by omega
  have hng : ¬ ((n : Int) < (i : Int)) := by omega
  have hng2 : ¬ (n < i) := by omega
  have hneg : ¬ ((i : Int) < 0) := by omega
  have ht' : Hid (decide (i < j) = false) := decide_eq_false hij
  have hml : m < l.length := by omega
  have hwr : IntKind.i64.wrap ((i : Int) - 1) = (m : Int) := by rw [IntWalk.i64_in _ ⟨by omega, by omega⟩]; omega
  have hmn : m < n := by omega
  have hip : 0 < i := by omega
  have hf' : Hid (decide (0 < j) = true) := decide_eq_true (by omega)
  obtain ⟨fk, fv, hlm⟩ : ∃ fk fv, l[m] = (fk, fv) := ⟨l[m].1, l[m].2, rfl⟩
  have hfl : Hid (floorAt l j = (fk, fv)) := by show floorAt l j = (fk, fv); unfold floorAt; rw [if_pos (by omega), show j - 1 = m by omega, getD_at l m hml, hlm]
  obtain ⟨s1, hs1e⟩ : ∃ s, Ordm.stand o fk key = s := ⟨_, rfl⟩
  have hsle : s1 ≤ 0 := by rw [← hs1e]; refine (stand_le o fk key).2 (Nat.le_of_lt ?_); have := ha.low m hml (by omega); rw [hlm] at this; exact this
  have hs1 := Lib.hid hs1e
  clear hs1e
  have hpos' := Lib.hid hpos
  clear hpos
  have hg' : Hid (decide (i < n) = false) := decide_eq_false hin'
  obtain ⟨ck, hck⟩ : ∃ ck, 0#64 = ck := ⟨_, rfl⟩
  have hce : Hid (ceilAt l i = (ck, ck)) := by show ceilAt l i = (ck, ck); rw [← hck]; unfold ceilAt; simp [List.getD, List.getElem?_eq_none (show l.length ≤ i by omega)]
  clear hck
  have at' := Lib.hid fun k hk => at_self hris k hk
  have h' := Lib.hid h
  have hm' := Lib.hid hm
  have ha' := Lib.hid ha
  have hl' := Lib.hid hl
  clear h hm ha hris hl
  have hd : ¬ ((200 : Int) < (n : Int)) := by omega
  go_enter Tryd.func5, Tryd.ntmps5
  go_wp2_with fail
  refine (rowMay_is hm'.out h'.out.len h'.out.k h'.out.pos h'.out.steps h'.out.row).mono ?_
  rintro e w1 ⟨rfl, hb⟩
  have b1 := Lib.hid hb
  clear hb
  go_wp2
  go_loopw [7] (fun q wr => ∃ k : Nat, k ≤ n ∧ q = .int .i64 k ∧ Below w.heap.size w wr) (fun q _ => n - (intOf q).toNat)
  case atStart => exact ⟨0, Nat.zero_le _, rfl, b1.out⟩
  case round =>
    obtain ⟨k, hk, rfl, hb⟩ := hrel
    have b2 := Lib.hid hb
    have hh2 := Lib.hid (h'.out.next hb)
    clear hb b1
    by_cases hlt : k < n
    · have hkl : k < l.length := by rw [hl'.out]; exact hlt
      obtain ⟨ad, hA, _, g1, g2⟩ := pair_at hh2.out.row k hkl
      subst hA
      have hv : Hid (valAt l k (k + 1) = l[k].2) := by show valAt l k (k + 1) = l[k].2; unfold valAt; rw [if_pos (Nat.lt_succ_self k), getD_at l k hkl]
      have hat := Lib.hid (at'.out k hkl)
      have htt : Hid (decide (k < k + 1) = true) := by show decide (k < k + 1) = true; simp
      obtain ⟨y, hy⟩ : ∃ y, l[k].1 = y := ⟨_, rfl⟩
      obtain ⟨z, hz⟩ : ∃ z, l[k].2 = z := ⟨_, rfl⟩
      simp only [hy, hz] at g1 g2 hat hv
      have gy := Lib.hid hy
      have gz := Lib.hid hz
      clear hy hz
      go_wp2_with fail
      refine (find_yes o _ n c l y k (k + 1) true htt.out hm'.out hat.out hh2.out.len hh2.out.k _ hh2.out.pos hh2.out.steps hh2.out.row).mono ?_
      rintro e w3 ⟨rfl, hb⟩
      have b3 := Lib.hid (Below.after b2.out hb)
      have hh3 := Lib.hid (hh2.out.next hb)
      have q1 := keep_cell hb g1
      have q2 := keep_cell hb g2
      clear hb g1 g2
      go_wp2_with fail
      refine (get_yes o _ n c l y k (k + 1) true htt.out hm'.out hat.out hh3.out.len hh3.out.k _ hh3.out.pos hh3.out.steps hh3.out.row).mono ?_
      rintro e w4 ⟨rfl, hb⟩
      have b4 := Lib.hid (Below.after b3.out hb)
      have q3 := keep_cell hb q2
      rw [hv.out]
      clear hb q1 q2
      go_wp2
      go_roundw
      case rel => exact ⟨k + 1, by omega, by go_num, b4.out⟩
      case measure => simp [intOf]; omega
    · clear at'
      go_wp2_with fail
      refine (find_yes o A n c l key i j false ht'.out hm'.out ha'.out hh2.out.len hh2.out.k _ hh2.out.pos hh2.out.steps hh2.out.row).mono ?_
      rintro e w3 ⟨rfl, hb⟩
      have b3 := Lib.hid (Below.after b2.out hb)
      have hh3 := Lib.hid (hh2.out.next hb)
      clear hb b2 hh2
      go_wp2_with fail
      refine (floor_yes o A n c l key i j true hf'.out (fk, fv) hfl.out hm'.out ha'.out hh3.out.len hh3.out.k _ hh3.out.pos hh3.out.steps hh3.out.row).mono ?_
      rintro e w4 ⟨rfl, hb⟩
      have hb2 := Below.after hb (below_new w4 (.cells #[K (fk, fv).1, K (fk, fv).2] 24))
      have b4 := Lib.hid (Below.after b3.out hb2)
      have hh4 := Lib.hid (hh3.out.next hb2)
      have ya4 := Lib.hid (Has.new w4 24 #[K (fk, fv).1, K (fk, fv).2])
      clear hb hb2 b3 hh3
      go_wp2_with fail
      refine (ceil_yes o A n c l key i j false hg'.out (ck, ck) hce.out hm'.out ha'.out hh4.out.len hh4.out.k _ hh4.out.pos hh4.out.steps hh4.out.row).mono ?_
      rintro e w5 ⟨rfl, hb⟩
      have hb2 := Below.after hb (below_new w5 (.cells #[K (ck, ck).1, K (ck, ck).2] 24))
      have b5 := Lib.hid (Below.after b4.out hb2)
      have hh5 := Lib.hid (hh4.out.next hb2)
      have ya5 := Lib.hid (ya4.out.next hb2)
      have yb5 := Lib.hid (Has.new w5 24 #[K (ck, ck).1, K (ck, ck).2])
      clear hb hb2 b4 hh4 ya4
      have s0 := ya5.out.c0
      have s1 := ya5.out.c1
      have u0 := yb5.out.c0
      have u1 := yb5.out.c1
      obtain ⟨ad', hA', _, g3, g4⟩ := pair_at hh5.out.row m hml
      simp only [hlm] at g3 g4
      have hlm' := Lib.hid hlm
      clear hlm
      subst hA'
      go_wp2_with fail
      refine wp_region_quiet_lit (by kernel_rfl) (by kernel_rfl) ?_
      repeat (refine @wpQuiet_step _ _ _ _ _ _ _ ?_; intro K hK; go_simp; refine hK _ ?_; clear hK K)
      refine @wpQuiet_nil _ _ _ _ _ ?_
      intro _ hw'
      obtain ⟨nq, hw''⟩ := hw'
      subst hw''
      have hbq := Lib.hid (below_drewN (Below.refl (w5.alloc (.cells #[K ck, K ck] 24)).heap.size (w5.alloc (.cells #[K ck, K ck] 24))) nq)
      have hh6 := Lib.hid (hh5.out.next hbq.out)
      have b6 := Lib.hid (Below.after b5.out hbq.out)
      go_wp2_with (go_at_call 25; (first | with_reducible refine (refCmp_is h1 h7 hs1.out _).mono ?_); rintro e w' ⟨rfl, rfl⟩)
      refine (alive4_any _ hh6.out.pos hh6.out.steps).mono ?_
      rintro e w7 ⟨rfl, hb⟩
      have b7 := Lib.hid (Below.after b6.out hb)
      clear hb
      go_wp2
      go_ret
      exact ⟨rfl, b7.out⟩

set_option maxRecDepth 100000 in
set_option maxHeartbeats 8000000 in
theorem rowEnds_none (o : Nat) (A : Option Addr) (n c : Nat) (l : List Pr) (key : BitVec 64) (i j : Nat) (hn : n ≤ 200) (hm : mayB o l = true) (ha : At o l key i j) (hij : ¬ i < j) (hpos : ¬ 0 < i) (hin' : ¬ i < n) (w : World) (h : Here w A n c l) :
    Calls Tryd.prog 5 #[.int .u8 o, .slice A n c, K key] w fun e w' => e = .returned (.bool true) ∧ Below w.heap.size w w' := by
  obtain ⟨h1, h7, hris⟩ := mayB_parts hm
  have hl := h.len
  have hle := ha.le
  have hone := ha.one
  have hjn : j ≤ n := hl ▸ ha.len
  have hin : i ≤ n := by omega
  have hng : ¬ ((n : Int) < (i : Int)) := by omega
  have hng2 : ¬ (n < i) := by omega
  have hneg : ¬ ((i : Int) < 0) := by omega
  have ht' : Hid (decide (i < j) = false) := decide_eq_false hij
  have hf' : Hid (decide (0 < j) = false) := decide_eq_false (by omega)
  have hfl : Hid (floorAt l j = (0#64, 0#64)) := by show floorAt l j = (0#64, 0#64); unfold floorAt; rw [if_neg (by omega)]
  have hg' : Hid (decide (i < n) = false) := decide_eq_false hin'
  obtain ⟨ck, hck⟩ : ∃ ck, 0#64 = ck := ⟨_, rfl⟩
  have hce : Hid (ceilAt l i = (ck, ck)) := by show ceilAt l i = (ck, ck); rw [← hck]; unfold ceilAt; simp [List.getD, List.getElem?_eq_none (show l.length ≤ i by omega)]
  clear hck
  have at' := Lib.hid fun k hk => at_self hris k hk
  have h' := Lib.hid h
  have hm' := Lib.hid hm
  have ha' := Lib.hid ha
  have hl' := Lib.hid hl
  clear h hm ha hris hl
  have hd : ¬ ((200 : Int) < (n : Int)) := by omega
  go_enter Tryd.func5, Tryd.ntmps5
  go_wp2_with fail
  refine (rowMay_is hm'.out h'.out.len h'.out.k h'.out.pos h'.out.steps h'.out.row).mono ?_
  rintro e w1 ⟨rfl, hb⟩
  have b1 := Lib.hid hb
  clear hb
  go_wp2
  go_loopw [7] (fun q wr => ∃ k : Nat, k ≤ n ∧ q = .int .i64 k ∧ Below w.heap.size w wr) (fun q _ => n - (intOf q).toNat)
  case atStart => exact ⟨0, Nat.zero_le _, rfl, b1.out⟩
  case round =>
    obtain ⟨k, hk, rfl, hb⟩ := hrel
    have b2 := Lib.hid hb
    have hh2 := Lib.hid (h'.out.next hb)
    clear hb b1
    by_cases hlt : k < n
    · omega
    · clear at'
      go_wp2_with fail
      refine (find_yes o A n c l key i j false ht'.out hm'.out ha'.out hh2.out.len hh2.out.k _ hh2.out.pos hh2.out.steps hh2.out.row).mono ?_
      rintro e w3 ⟨rfl, hb⟩
      have b3 := Lib.hid (Below.after b2.out hb)
      have hh3 := Lib.hid (hh2.out.next hb)
      clear hb b2 hh2
      go_wp2_with fail
      refine (floor_yes o A n c l key i j false hf'.out (0#64, 0#64) hfl.out hm'.out ha'.out hh3.out.len hh3.out.k _ hh3.out.pos hh3.out.steps hh3.out.row).mono ?_
      rintro e w4 ⟨rfl, hb⟩
      have hb2 := Below.after hb (below_new w4 (.cells #[K (0#64, 0#64).1, K (0#64, 0#64).2] 24))
      have b4 := Lib.hid (Below.after b3.out hb2)
      have hh4 := Lib.hid (hh3.out.next hb2)
      have ya4 := Lib.hid (Has.new w4 24 #[K (0#64, 0#64).1, K (0#64, 0#64).2])
      clear hb hb2 b3 hh3
      go_wp2_with fail
      refine (ceil_yes o A n c l key i j false hg'.out (ck, ck) hce.out hm'.out ha'.out hh4.out.len hh4.out.k _ hh4.out.pos hh4.out.steps hh4.out.row).mono ?_
      rintro e w5 ⟨rfl, hb⟩
      have hb2 := Below.after hb (below_new w5 (.cells #[K (ck, ck).1, K (ck, ck).2] 24))
      have b5 := Lib.hid (Below.after b4.out hb2)
      have hh5 := Lib.hid (hh4.out.next hb2)
      have ya5 := Lib.hid (ya4.out.next hb2)
      have yb5 := Lib.hid (Has.new w5 24 #[K (ck, ck).1, K (ck, ck).2])
      clear hb hb2 b4 hh4 ya4
      have s0 := ya5.out.c0
      have s1 := ya5.out.c1
      have u0 := yb5.out.c0
      have u1 := yb5.out.c1
      go_wp2_with fail
      refine wp_region_quiet_lit (by kernel_rfl) (by kernel_rfl) ?_
      repeat (refine @wpQuiet_step _ _ _ _ _ _ _ ?_; intro K hK; go_simp; refine hK _ ?_; clear hK K)
      refine @wpQuiet_nil _ _ _ _ _ ?_
      intro _ hw'
      obtain ⟨nq, hw''⟩ := hw'
      subst hw''
      have hbq := Lib.hid (below_drewN (Below.refl (w5.alloc (.cells #[K ck, K ck] 24)).heap.size (w5.alloc (.cells #[K ck, K ck] 24))) nq)
      have hh6 := Lib.hid (hh5.out.next hbq.out)
      have b6 := Lib.hid (Below.after b5.out hbq.out)
      go_wp2_with fail
      refine (alive4_any _ hh6.out.pos hh6.out.steps).mono ?_
      rintro e w7 ⟨rfl, hb⟩
      have b7 := Lib.hid (Below.after b6.out hb)
      clear hb
      go_wp2
      go_ret
      exact ⟨rfl, b7.out⟩

theorem rowEnds_few (o : Nat) (A : Option Addr) (n c : Nat) (l : List Pr) (key : BitVec 64) (hn : n ≤ 200) (w : World) (h : Here w A n c l) :
    Calls Tryd.prog 5 #[.int .u8 o, .slice A n c, K key] w fun e w' => e = .returned (.bool true) ∧ Below w.heap.size w w' := by
  cases hm : mayB o l with
  | false => exact rowEnds_no o A n c l key hn hm w h
  | true =>
    have ha := at_of (mayB_parts hm).2.2 key
    generalize pos o key l = i at ha
    generalize upto o key l = j at ha
    by_cases hij : i < j
    · by_cases hp : 0 < i
      · exact rowEnds_one o A n c l key i j hn hm ha hij hp w h
      · exact rowEnds_first o A n c l key i j hn hm ha hij hp w h
    · cases i with
      | zero =>
        by_cases hin : 0 < n
        · exact rowEnds_low o A n c l key 0 j hn hm ha hij (by omega) hin w h
        · exact rowEnds_none o A n c l key 0 j hn hm ha hij (by omega) hin w h
      | succ m =>
        by_cases hin : m + 1 < n
        · exact rowEnds_mid o A n c l key (m + 1) j hn hm ha hij m rfl hin w h
        · exact rowEnds_high o A n c l key (m + 1) j hn hm ha hij m rfl hin w h
end Go.Proofs.YtekggefokoaidaaDoor
