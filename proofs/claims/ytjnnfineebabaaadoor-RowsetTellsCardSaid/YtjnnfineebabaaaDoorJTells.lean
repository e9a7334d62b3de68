/- Proved here: for every order, every policy, every two rows of pairs and every two keys the law RowsetTells of layer 5 returns true (Sort, Union, Meet, Less, Apart, Range and Cut answer what the document says, and what was handed in stays); it changes nothing that lay. Condition: package mix's table of steps holds what its initialiser lays (tied to the program's text by the card). -/
import Derived.Test.YtjnnfineebabaaaDoorJV
import Derived.Test.YtjnnfineebabaaaDoorJT
import Derived.Test.YtjnnfineebabaaaDoorL5Open
import Derived.Test.YtjnnfineebabaaaDoorRows
import Derived.Below
import Derived.ChangeOld
import Derived.Test.YtjnnfineebabaaaDoorTie
import Derived.Test.YtjnnfineebabaaaDoorCards
/- What package rowset, and the document, answer of any rows: the same, under names. -/
namespace Go.Proofs.YtjnnfineebabaaaDoor
open Go.RowKit Go.Shelf Go.Proofs.Rowm

theorem both_cases (o : Nat) (a b : List Pr) : (mayB o a = true ∧ mayB o b = true) ∨ (mayB o a && mayB o b) = false := by
  cases mayB o a <;> cases mayB o b <;> simp
set_option maxHeartbeats 4000000 in
theorem refUnion_nopol (o p : Nat) (hp : ¬ (1 ≤ p ∧ p ≤ 3)) (A B : Option Addr) (n c m d : Nat) (a b : List Pr) (ha : mayB o a = true) (hb : mayB o b = true) (hnm : n + m ≤ 900) (w : World) (h : Here w A n c a) (hh : Here w B m d b) :
    Calls Tryd.prog 13 #[.int .u8 o, .int .u8 p, .slice A n c, .slice B m d] w (MadeH w 0 [] (.int .i64 2)) := by
  obtain ⟨i0, hi, hz0, hz1, hz2⟩ := info_parts info_pair
  have hc := Lib.hid (refBoth_is o A B n c m d a b true true ha hb w h hh)
  have hno : ¬ ((1 ≤ o ∧ o ≤ 7) ∧ 1 ≤ p ∧ p ≤ 3) := fun x => hp x.2
  have hno' := Lib.hid hno
  have h' := Lib.hid h
  have hh' := Lib.hid hh
  clear h hh ha hb hp hno
  go_enter Tryd.func13, Tryd.ntmps13
  go_wp2_with fail
  refine hc.out.mono ?_
  rintro e w1 ⟨rfl, hb⟩
  have a1 := Lib.hid (h'.out.next hb)
  have c1 := Lib.hid (hh'.out.next hb)
  have b1 := Lib.hid hb
  clear hb hc
  go_wp2_with (at_builtin; refine wpList_append_row rfl _ _ 22 rfl w1.heap.size 42 i0 (.agg #[.int .i64 0, .int .i64 0]) 2 16 Tryd.underlying22 hi hz0 hz1 hz2 rfl (by decide) _ 0 [] rfl (World.ownsRow_nil _ _ _ _) A n c (flat a) rfl a1.out.nil a1.out.cap ?k1 _ a1.out.row (flat_one a) (by unfold maxLen; omega) (by omega) (Nat.le_refl _) ?_)
  case k1 => rw [flat_length, a1.out.len]
  intro v2 w2 hown hgrow
  have hb2 := (Below.refl w1.heap.size w1).grown hgrow (Nat.le_refl _) (fun r e => by simp [Value.ownBlock] at e)
  have o2 : Hid (w2.ownsRow w1.heap.size 42 2 v2 n (flat a)) := by show w2.ownsRow w1.heap.size 42 2 v2 n (flat a); simpa using hown
  have c2 := Lib.hid (c1.out.next hb2)
  have b2 := Lib.hid hb2
  have p2 := Lib.hid hb2.size
  clear hown hgrow hb2
  go_wp2_with (at_builtin; refine wpList_append_row rfl _ _ 22 rfl w1.heap.size 42 i0 (.agg #[.int .i64 0, .int .i64 0]) 2 16 Tryd.underlying22 hi hz0 hz1 hz2 rfl (by decide) _ n (flat a) rfl o2.out B m d (flat b) rfl c2.out.nil c2.out.cap ?k2 _ c2.out.row (flat_one b) (by unfold maxLen; omega) (by omega) p2.out ?_)
  case k2 => rw [flat_length, c2.out.len]
  intro v3 w3 hown hgrow
  have b3 := Lib.hid (b2.out.grown hgrow p2.out (fun r e => (o2.out.lt r e).1))
  have bw := Lib.hid (Below.after b1.out b3.out)
  clear hown hgrow
  go_wp2_with fail
  refine (refSort_none o p hno'.out v3 _ (Nat.lt_of_lt_of_le h'.out.pos bw.out.size) (h'.out.steps.below h'.out.pos bw.out)).mono ?_
  rintro e w4 ⟨A4, c4, rfl, hh4, hb⟩
  have h4 := Lib.hid hh4
  have b4 := Lib.hid (Below.after bw.out hb)
  clear hh4 hb
  go_wp2
  go_ret2
  exact ⟨_, _, rfl, h4.out, b4.out⟩

section
variable (o p n m : Nat) (a b : List Pr) (hn : a.length = n) (hm : b.length = m) (hnm : n + m ≤ 900)
include hn in
theorem sort_ans (h9 : n ≤ 900) : ∃ s q e, q ≤ 900 ∧ s.length = q ∧ (∀ A c W, Here W A n c a → Calls Tryd.prog 9 #[.int .u8 o, .int .u8 p, .slice A n c] W (MadeH W q s (.int .i64 e))) ∧ (∀ A c W, Here W A n c a → Calls Tryd.prog 10 #[.int .u8 o, .int .u8 p, .slice A n c] W (MadeH W q s (.int .i64 e))) := by
  by_cases h : (1 ≤ o ∧ o ≤ 7) ∧ 1 ≤ p ∧ p ≤ 3
  · exact ⟨sortL o p a, _, 0, by have := len_sortL o p a; omega, rfl, fun A c W hh => sort_yes o p h.1.1 h.1.2 h.2.1 h.2.2 A n c a _ _ rfl rfl W hh, fun A c W hh => refSort_yes o p h.1.1 h.1.2 h.2.1 h.2.2 A n c a _ _ rfl rfl W hh⟩
  · exact ⟨[], 0, 2, by omega, rfl, fun A c W hh => sort_none o p h _ W hh.pos hh.steps, fun A c W hh => refSort_none o p h _ W hh.pos hh.steps⟩
include hn hm hnm
theorem union_ans : ∃ s q e, q ≤ 900 ∧ s.length = q ∧ (∀ A B c d W, Here W A n c a → Here W B m d b → Calls Tryd.prog 12 #[.int .u8 o, .int .u8 p, .slice A n c, .slice B m d] W (MadeH W q s (.int .i64 e))) ∧ (∀ A B c d W, Here W A n c a → Here W B m d b → Calls Tryd.prog 13 #[.int .u8 o, .int .u8 p, .slice A n c, .slice B m d] W (MadeH W q s (.int .i64 e))) := by
  rcases both_cases o a b with h | h
  · by_cases h2 : 1 ≤ p ∧ p ≤ 3
    · exact ⟨unionL o p a b, _, 0, by have := len_union_meet (p := p) (incr_mayB h.1) (incr_mayB h.2); omega, rfl, fun A B c d W hA hB => union_yes o p h2.1 h2.2 A B n c m d a b _ _ h.1 h.2 rfl rfl hnm W hA hB, fun A B c d W hA hB => refUnion_yes o p h2.1 h2.2 A B n c m d a b _ _ h.1 h.2 rfl rfl hnm W hA hB⟩
    · exact ⟨[], 0, 2, by omega, rfl, fun A B c d W hA hB => union_no o p A B n c m d a b (fun x => h2 x.2) W hA hB, fun A B c d W hA hB => refUnion_nopol o p h2 A B n c m d a b h.1 h.2 hnm W hA hB⟩
  · exact ⟨[], 0, 2, by omega, rfl, fun A B c d W hA hB => union_no o p A B n c m d a b (fun x => by rw [h] at x; exact absurd x.1 (by decide)) W hA hB, fun A B c d W hA hB => refUnion_no o p A B n c m d a b h W hA hB⟩
theorem meet_ans : ∃ s q e, q ≤ 900 ∧ s.length = q ∧ (∀ A B c d W, Here W A n c a → Here W B m d b → Calls Tryd.prog 14 #[.int .u8 o, .int .u8 p, .slice A n c, .slice B m d] W (MadeH W q s (.int .i64 e))) ∧ (∀ A B c d W, Here W A n c a → Here W B m d b → Calls Tryd.prog 15 #[.int .u8 o, .int .u8 p, .slice A n c, .slice B m d] W (MadeH W q s (.int .i64 e))) := by
  rcases both_cases o a b with h | h
  · by_cases h2 : 1 ≤ p ∧ p ≤ 3
    · exact ⟨meetL o p a b, _, 0, by have := len_union_meet (p := p) (incr_mayB h.1) (incr_mayB h.2); omega, rfl, fun A B c d W hA hB => meet_yes o p h2.1 h2.2 A B n c m d a b _ _ h.1 h.2 rfl rfl hnm W hA hB, fun A B c d W hA hB => refMeet_yes o p h2.1 h2.2 A B n c m d a b _ _ h.1 h.2 rfl rfl W hA hB⟩
    · exact ⟨[], 0, 2, by omega, rfl, fun A B c d W hA hB => meet_no o p A B n c m d a b (fun x => h2 x.2) W hA hB, fun A B c d W hA hB => refMeet_no o p A B n c m d a b (fun x => h2 x.2) W hA hB⟩
  · exact ⟨[], 0, 2, by omega, rfl, fun A B c d W hA hB => meet_no o p A B n c m d a b (fun x => by rw [h] at x; exact absurd x.1 (by decide)) W hA hB, fun A B c d W hA hB => refMeet_no o p A B n c m d a b (fun x => by rw [h] at x; exact absurd x.1 (by decide)) W hA hB⟩
theorem less_ans : ∃ s q e, q ≤ 900 ∧ s.length = q ∧ (∀ A B c d W, Here W A n c a → Here W B m d b → Calls Tryd.prog 16 #[.int .u8 o, .slice A n c, .slice B m d] W (MadeH W q s (.int .i64 e))) ∧ (∀ A B c d W, Here W A n c a → Here W B m d b → Calls Tryd.prog 17 #[.int .u8 o, .slice A n c, .slice B m d] W (MadeH W q s (.int .i64 e))) := by
  rcases both_cases o a b with h | h
  · exact ⟨lessL o a b, _, 0, by have := len_less_meet (p := 1) (incr_mayB h.1) (incr_mayB h.2); omega, rfl, fun A B c d W hA hB => less_yes o A B n c m d a b _ _ h.1 h.2 rfl rfl hnm W hA hB, fun A B c d W hA hB => refLess_yes o A B n c m d a b _ _ h.1 h.2 rfl rfl W hA hB⟩
  · exact ⟨[], 0, 2, by omega, rfl, fun A B c d W hA hB => less_no o A B n c m d a b h W hA hB, fun A B c d W hA hB => refLess_no o A B n c m d a b h W hA hB⟩
theorem apart_ans : ∃ s q e, q ≤ 900 ∧ s.length = q ∧ (∀ A B c d W, Here W A n c a → Here W B m d b → Calls Tryd.prog 18 #[.int .u8 o, .slice A n c, .slice B m d] W (MadeH W q s (.int .i64 e))) ∧ (∀ A B c d W, Here W A n c a → Here W B m d b → Calls Tryd.prog 19 #[.int .u8 o, .slice A n c, .slice B m d] W (MadeH W q s (.int .i64 e))) := by
  rcases both_cases o a b with h | h
  · exact ⟨apartL o a b, _, 0, by have := len_apart_meet (o := o) (p := 1) a b; have := len_union_meet (p := 1) (incr_mayB h.1) (incr_mayB h.2); omega, rfl, fun A B c d W hA hB => apart_yes o A B n c m d a b _ _ h.1 h.2 rfl rfl hnm W hA hB, fun A B c d W hA hB => refApart_yes o A B n c m d a b _ _ h.1 h.2 rfl rfl hnm W hA hB⟩
  · exact ⟨[], 0, 2, by omega, rfl, fun A B c d W hA hB => apart_no o A B n c m d a b h W hA hB, fun A B c d W hA hB => refApart_no o A B n c m d a b h W hA hB⟩
end
theorem range_ans (o n : Nat) (lo hi : BitVec 64) (a : List Pr) (hn : a.length = n) (h9 : n ≤ 900) : ∃ s q e, q ≤ 900 ∧ s.length = q ∧ (∀ A c W, Here W A n c a → Calls Tryd.prog 20 #[.int .u8 o, .slice A n c, K lo, K hi] W (MadeH W q s (.int .i64 e))) ∧ (∀ A c W, Here W A n c a → Calls Tryd.prog 21 #[.int .u8 o, .slice A n c, K lo, K hi] W (MadeH W q s (.int .i64 e))) := by
  cases h : mayB o a with
  | true => exact ⟨rangeL o lo hi a, _, 0, by have := List.length_filter_le (fun p : Pr => decide (num o lo ≤ num o p.1) && decide (num o p.1 ≤ num o hi)) a; unfold rangeL; omega, rfl, fun A c W hA => range_yes o A n c a _ _ lo hi h rfl rfl W hA, fun A c W hA => refRange_yes o A n c lo hi a _ _ h rfl rfl W hA⟩
  | false => exact ⟨[], 0, 2, by omega, rfl, fun A c W hA => range_no o A n c a lo hi h W hA, fun A c W hA => refRange_no o A n c lo hi a h W hA⟩
theorem cut_ans (o n : Nat) (key : BitVec 64) (a : List Pr) (hn : a.length = n) (h9 : n ≤ 900) : ∃ i q s r v t, i ≤ 900 ∧ q ≤ 900 ∧ s.length = i ∧ r.length = q ∧ (∀ A c W, Here W A n c a → Calls Tryd.prog 22 #[.int .u8 o, .slice A n c, K key] W (CutH W i q s r v t)) ∧ (∀ A c W, Here W A n c a → Calls Tryd.prog 23 #[.int .u8 o, .slice A n c, K key] W (CutH W i q s r v t)) := by
  cases h : mayB o a with
  | true =>
    have ha := at_of (mayB_parts h).2.2 key
    generalize pos o key a = i at ha
    generalize upto o key a = j at ha
    have h1 := ha.le
    have h2 := ha.len
    exact ⟨i, n - j, a.take i, a.drop j, _, _, by omega, by omega, by rw [List.length_take]; omega, by rw [List.length_drop, hn], fun A c W hA => cut_yes o A n c a key i j _ _ _ rfl rfl h ha rfl W hA, fun A c W hA => refCut_yes o A n c a key i j _ _ _ rfl rfl h ha rfl W hA⟩
  | false => exact ⟨0, 0, [], [], 0#64, false, by omega, by omega, rfl, rfl, fun A c W hA => cut_no o A n c a key h W hA, fun A c W hA => refCut_no o A n c a key h W hA⟩
end Go.Proofs.YtjnnfineebabaaaDoor
/- The statement RowsetTells of layer 5, walked. -/
namespace Go.Proofs.YtjnnfineebabaaaDoor
open Go.RowKit Go.Shelf Go.Proofs.Rowm

set_option maxRecDepth 100000 in
set_option maxHeartbeats 4000000 in
theorem setTells_many (o p : Nat) (A B : Option Addr) (n c m d : Nat) (lo hi : BitVec 64) (h : 150 < n ∨ 150 < m) (hn : n ≤ maxLen) (hm : m ≤ maxLen) (w : World) (h0 : 0 < w.heap.size) (hs : Steps w) :
    Calls Tryd.prog 3 #[.int .u8 o, .int .u8 p, .slice A n c, .slice B m d, K lo, K hi] w fun e w' => e = .returned (.bool true) ∧ Below w.heap.size w w' := by
  unfold maxLen at hn hm
  have hc := Lib.hid (alive5_any w h0 hs)
  clear hs
  by_cases h1 : 150 < n
  · have hd : decide ((150 : Int) < (n : Int)) = true := decide_eq_true (by omega)
    clear h
    go_enter Tryd.func3, Tryd.ntmps3
    go_wp2_with fail
    refine hc.out.mono ?_
    rintro e w1 ⟨rfl, hb⟩
    have b1 := Lib.hid hb
    clear hb hc
    go_wp2
    go_ret
    exact ⟨rfl, b1.out⟩
  · have hd : decide ((150 : Int) < (n : Int)) = false := decide_eq_false (by omega)
    have hd2 : decide ((150 : Int) < (m : Int)) = true := decide_eq_true (by omega)
    clear h
    go_enter Tryd.func3, Tryd.ntmps3
    go_wp2_with fail
    refine hc.out.mono ?_
    rintro e w1 ⟨rfl, hb⟩
    have b1 := Lib.hid hb
    clear hb hc
    go_wp2
    go_ret
    exact ⟨rfl, b1.out⟩

set_option maxRecDepth 100000 in
set_option maxHeartbeats 40000000 in
theorem setTells_few (o p : Nat) (A B : Option Addr) (n c m d : Nat) (a b : List Pr) (lo hi : BitVec 64) (hn : n ≤ 150) (hm : m ≤ 150) (w : World) (hA : Here w A n c a) (hB : Here w B m d b) :
    Calls Tryd.prog 3 #[.int .u8 o, .int .u8 p, .slice A n c, .slice B m d, K lo, K hi] w fun e w' => e = .returned (.bool true) ∧ Below w.heap.size w w' := by
  have hd : decide ((150 : Int) < (n : Int)) = false := decide_eq_false (by omega)
  have hd2 : decide ((150 : Int) < (m : Int)) = false := decide_eq_false (by omega)
  have hla := hA.len
  have hlb := hB.len
  obtain ⟨z1, q1, e1, bz1, lz1, xz1, yz1⟩ := sort_ans o p n a hla (by omega)
  obtain ⟨z2, q2, e2, bz2, lz2, xz2, yz2⟩ := union_ans o p n m a b hla hlb (by omega)
  obtain ⟨z3, q3, e3, bz3, lz3, xz3, yz3⟩ := meet_ans o p n m a b hla hlb (by omega)
  obtain ⟨z4, q4, e4, bz4, lz4, xz4, yz4⟩ := less_ans o n m a b hla hlb (by omega)
  obtain ⟨z5, q5, e5, bz5, lz5, xz5, yz5⟩ := apart_ans o n m a b hla hlb (by omega)
  obtain ⟨z6, q6, e6, bz6, lz6, xz6, yz6⟩ := range_ans o n lo hi a hla (by omega)
  obtain ⟨ci, cq, csl, crl, cv, ctt, bci, bcq, lcs, lcr, xc, yc⟩ := cut_ans o n lo a hla (by omega)
  have Xz1 := Lib.hid xz1
  have Yz1 := Lib.hid yz1
  have Lz1 := Lib.hid lz1
  clear xz1 yz1 lz1
  have Xz2 := Lib.hid xz2
  have Yz2 := Lib.hid yz2
  have Lz2 := Lib.hid lz2
  clear xz2 yz2 lz2
  have Xz3 := Lib.hid xz3
  have Yz3 := Lib.hid yz3
  have Lz3 := Lib.hid lz3
  clear xz3 yz3 lz3
  have Xz4 := Lib.hid xz4
  have Yz4 := Lib.hid yz4
  have Lz4 := Lib.hid lz4
  clear xz4 yz4 lz4
  have Xz5 := Lib.hid xz5
  have Yz5 := Lib.hid yz5
  have Lz5 := Lib.hid lz5
  clear xz5 yz5 lz5
  have Xz6 := Lib.hid xz6
  have Yz6 := Lib.hid yz6
  have Lz6 := Lib.hid lz6
  clear xz6 yz6 lz6
  have XC := Lib.hid xc
  have YC := Lib.hid yc
  have LCS := Lib.hid lcs
  have LCR := Lib.hid lcr
  have RA := Lib.hid hA
  have RB := Lib.hid hB
  have LA := Lib.hid hla
  have LB := Lib.hid hlb
  have k0 := Lib.hid (Below.refl w.heap.size w)
  have h0 := Lib.hid hA.pos
  have hst := Lib.hid hA.steps
  clear xc yc lcs lcr hA hB hla hlb
  go_enter Tryd.func3, Tryd.ntmps3
  go_wp2_with fail
  refine (own4_any A n c a _ RA.out).mono ?_
  rintro e w1 ⟨Ax, cx, rfl, hh, hb⟩
  have ra1 := Lib.hid (RA.out.next hb)
  have rb1 := Lib.hid (RB.out.next hb)
  have k1 := Lib.hid (Below.after k0.out hb)
  have x1 := Lib.hid hh
  clear hb hh RA RB k0
  go_wp2_with fail
  refine (own4_any B m d b _ rb1.out).mono ?_
  rintro e w2 ⟨Ay, cy, rfl, hh, hb⟩
  have ra2 := Lib.hid (ra1.out.next hb)
  have rb2 := Lib.hid (rb1.out.next hb)
  have x2 := Lib.hid (x1.out.next hb)
  have k2 := Lib.hid (Below.after k1.out hb)
  have y2 := Lib.hid hh
  clear hb hh ra1 rb1 x1 k1
  go_wp2_with fail
  refine (Xz1.out _ _ _ x2.out).mono ?_
  rintro e w3 ⟨As, cs, rfl, hh, hb⟩
  have ra3 := Lib.hid (ra2.out.next hb)
  have rb3 := Lib.hid (rb2.out.next hb)
  have x3 := Lib.hid (x2.out.next hb)
  have y3 := Lib.hid (y2.out.next hb)
  have k3 := Lib.hid (Below.after k2.out hb)
  have s3 := Lib.hid hh
  clear hb hh ra2 rb2 x2 y2 k2
  go_wp2_with fail
  refine (Yz1.out _ _ _ ra3.out).mono ?_
  rintro e w4 ⟨At, ct, rfl, hh, hb⟩
  have ra4 := Lib.hid (ra3.out.next hb)
  have rb4 := Lib.hid (rb3.out.next hb)
  have x4 := Lib.hid (x3.out.next hb)
  have y4 := Lib.hid (y3.out.next hb)
  have s4 := Lib.hid (s3.out.next hb)
  have k4 := Lib.hid (Below.after k3.out hb)
  have t4 := Lib.hid hh
  clear hb hh ra3 rb3 x3 y3 s3 k3
  go_wp2_with fail
  refine (same4_yes As At q1 cs ct z1 Lz1.out (by omega) _ s4.out.row t4.out.row).mono ?_
  rintro e w5 ⟨rfl, hb⟩
  have ra5 := Lib.hid (ra4.out.next hb)
  have rb5 := Lib.hid (rb4.out.next hb)
  have x5 := Lib.hid (x4.out.next hb)
  have y5 := Lib.hid (y4.out.next hb)
  have k5 := Lib.hid (Below.after k4.out hb)
  clear hb  ra4 rb4 x4 y4 k4
  go_wp2_with fail
  refine (Xz2.out _ _ _ _ _ x5.out y5.out).mono ?_
  rintro e w6 ⟨As, cs, rfl, hh, hb⟩
  have ra6 := Lib.hid (ra5.out.next hb)
  have rb6 := Lib.hid (rb5.out.next hb)
  have x6 := Lib.hid (x5.out.next hb)
  have y6 := Lib.hid (y5.out.next hb)
  have k6 := Lib.hid (Below.after k5.out hb)
  have s6 := Lib.hid hh
  clear hb hh ra5 rb5 x5 y5 k5
  go_wp2_with fail
  refine (Yz2.out _ _ _ _ _ ra6.out rb6.out).mono ?_
  rintro e w7 ⟨At, ct, rfl, hh, hb⟩
  have ra7 := Lib.hid (ra6.out.next hb)
  have rb7 := Lib.hid (rb6.out.next hb)
  have x7 := Lib.hid (x6.out.next hb)
  have y7 := Lib.hid (y6.out.next hb)
  have s7 := Lib.hid (s6.out.next hb)
  have k7 := Lib.hid (Below.after k6.out hb)
  have t7 := Lib.hid hh
  clear hb hh ra6 rb6 x6 y6 s6 k6
  go_wp2_with fail
  refine (same4_yes As At q2 cs ct z2 Lz2.out (by omega) _ s7.out.row t7.out.row).mono ?_
  rintro e w8 ⟨rfl, hb⟩
  have ra8 := Lib.hid (ra7.out.next hb)
  have rb8 := Lib.hid (rb7.out.next hb)
  have x8 := Lib.hid (x7.out.next hb)
  have y8 := Lib.hid (y7.out.next hb)
  have k8 := Lib.hid (Below.after k7.out hb)
  clear hb  ra7 rb7 x7 y7 k7
  go_wp2_with fail
  refine (Xz3.out _ _ _ _ _ x8.out y8.out).mono ?_
  rintro e w9 ⟨As, cs, rfl, hh, hb⟩
  have ra9 := Lib.hid (ra8.out.next hb)
  have rb9 := Lib.hid (rb8.out.next hb)
  have x9 := Lib.hid (x8.out.next hb)
  have y9 := Lib.hid (y8.out.next hb)
  have k9 := Lib.hid (Below.after k8.out hb)
  have s9 := Lib.hid hh
  clear hb hh ra8 rb8 x8 y8 k8
  go_wp2_with fail
  refine (Yz3.out _ _ _ _ _ ra9.out rb9.out).mono ?_
  rintro e w10 ⟨At, ct, rfl, hh, hb⟩
  have ra10 := Lib.hid (ra9.out.next hb)
  have rb10 := Lib.hid (rb9.out.next hb)
  have x10 := Lib.hid (x9.out.next hb)
  have y10 := Lib.hid (y9.out.next hb)
  have s10 := Lib.hid (s9.out.next hb)
  have k10 := Lib.hid (Below.after k9.out hb)
  have t10 := Lib.hid hh
  clear hb hh ra9 rb9 x9 y9 s9 k9
  go_wp2_with fail
  refine (same4_yes As At q3 cs ct z3 Lz3.out (by omega) _ s10.out.row t10.out.row).mono ?_
  rintro e w11 ⟨rfl, hb⟩
  have ra11 := Lib.hid (ra10.out.next hb)
  have rb11 := Lib.hid (rb10.out.next hb)
  have x11 := Lib.hid (x10.out.next hb)
  have y11 := Lib.hid (y10.out.next hb)
  have k11 := Lib.hid (Below.after k10.out hb)
  clear hb  ra10 rb10 x10 y10 k10
  go_wp2_with fail
  refine (Xz4.out _ _ _ _ _ x11.out y11.out).mono ?_
  rintro e w12 ⟨As, cs, rfl, hh, hb⟩
  have ra12 := Lib.hid (ra11.out.next hb)
  have rb12 := Lib.hid (rb11.out.next hb)
  have x12 := Lib.hid (x11.out.next hb)
  have y12 := Lib.hid (y11.out.next hb)
  have k12 := Lib.hid (Below.after k11.out hb)
  have s12 := Lib.hid hh
  clear hb hh ra11 rb11 x11 y11 k11
  go_wp2_with fail
  refine (Yz4.out _ _ _ _ _ ra12.out rb12.out).mono ?_
  rintro e w13 ⟨At, ct, rfl, hh, hb⟩
  have ra13 := Lib.hid (ra12.out.next hb)
  have rb13 := Lib.hid (rb12.out.next hb)
  have x13 := Lib.hid (x12.out.next hb)
  have y13 := Lib.hid (y12.out.next hb)
  have s13 := Lib.hid (s12.out.next hb)
  have k13 := Lib.hid (Below.after k12.out hb)
  have t13 := Lib.hid hh
  clear hb hh ra12 rb12 x12 y12 s12 k12
  go_wp2_with fail
  refine (same4_yes As At q4 cs ct z4 Lz4.out (by omega) _ s13.out.row t13.out.row).mono ?_
  rintro e w14 ⟨rfl, hb⟩
  have ra14 := Lib.hid (ra13.out.next hb)
  have rb14 := Lib.hid (rb13.out.next hb)
  have x14 := Lib.hid (x13.out.next hb)
  have y14 := Lib.hid (y13.out.next hb)
  have k14 := Lib.hid (Below.after k13.out hb)
  clear hb  ra13 rb13 x13 y13 k13
  go_wp2_with fail
  refine (Xz5.out _ _ _ _ _ x14.out y14.out).mono ?_
  rintro e w15 ⟨As, cs, rfl, hh, hb⟩
  have ra15 := Lib.hid (ra14.out.next hb)
  have rb15 := Lib.hid (rb14.out.next hb)
  have x15 := Lib.hid (x14.out.next hb)
  have y15 := Lib.hid (y14.out.next hb)
  have k15 := Lib.hid (Below.after k14.out hb)
  have s15 := Lib.hid hh
  clear hb hh ra14 rb14 x14 y14 k14
  go_wp2_with fail
  refine (Yz5.out _ _ _ _ _ ra15.out rb15.out).mono ?_
  rintro e w16 ⟨At, ct, rfl, hh, hb⟩
  have ra16 := Lib.hid (ra15.out.next hb)
  have rb16 := Lib.hid (rb15.out.next hb)
  have x16 := Lib.hid (x15.out.next hb)
  have y16 := Lib.hid (y15.out.next hb)
  have s16 := Lib.hid (s15.out.next hb)
  have k16 := Lib.hid (Below.after k15.out hb)
  have t16 := Lib.hid hh
  clear hb hh ra15 rb15 x15 y15 s15 k15
  go_wp2_with fail
  refine (same4_yes As At q5 cs ct z5 Lz5.out (by omega) _ s16.out.row t16.out.row).mono ?_
  rintro e w17 ⟨rfl, hb⟩
  have ra17 := Lib.hid (ra16.out.next hb)
  have rb17 := Lib.hid (rb16.out.next hb)
  have x17 := Lib.hid (x16.out.next hb)
  have y17 := Lib.hid (y16.out.next hb)
  have k17 := Lib.hid (Below.after k16.out hb)
  clear hb  ra16 rb16 x16 y16 k16
  go_wp2_with fail
  refine (Xz6.out _ _ _ x17.out).mono ?_
  rintro e w18 ⟨As, cs, rfl, hh, hb⟩
  have ra18 := Lib.hid (ra17.out.next hb)
  have rb18 := Lib.hid (rb17.out.next hb)
  have x18 := Lib.hid (x17.out.next hb)
  have y18 := Lib.hid (y17.out.next hb)
  have k18 := Lib.hid (Below.after k17.out hb)
  have s18 := Lib.hid hh
  clear hb hh ra17 rb17 x17 y17 k17
  go_wp2_with fail
  refine (Yz6.out _ _ _ ra18.out).mono ?_
  rintro e w19 ⟨At, ct, rfl, hh, hb⟩
  have ra19 := Lib.hid (ra18.out.next hb)
  have rb19 := Lib.hid (rb18.out.next hb)
  have x19 := Lib.hid (x18.out.next hb)
  have y19 := Lib.hid (y18.out.next hb)
  have s19 := Lib.hid (s18.out.next hb)
  have k19 := Lib.hid (Below.after k18.out hb)
  have t19 := Lib.hid hh
  clear hb hh ra18 rb18 x18 y18 s18 k18
  go_wp2_with fail
  refine (XC.out _ _ _ x19.out).mono ?_
  rintro e w20 ⟨Ac, cc, Ad, cd, rfl, hh1, hh2, hb⟩
  have ra20 := Lib.hid (ra19.out.next hb)
  have rb20 := Lib.hid (rb19.out.next hb)
  have x20 := Lib.hid (x19.out.next hb)
  have y20 := Lib.hid (y19.out.next hb)
  have s20 := Lib.hid (s19.out.next hb)
  have t20 := Lib.hid (t19.out.next hb)
  have k20 := Lib.hid (Below.after k19.out hb)
  have c20 := Lib.hid hh1
  have d20 := Lib.hid hh2
  clear hb hh1 hh2 ra19 rb19 x19 y19 s19 t19 k19
  go_wp2_with fail
  refine (YC.out _ _ _ ra20.out).mono ?_
  rintro e w21 ⟨Ag, cg, Ah, ch, rfl, hh1, hh2, hb⟩
  have ra21 := Lib.hid (ra20.out.next hb)
  have rb21 := Lib.hid (rb20.out.next hb)
  have x21 := Lib.hid (x20.out.next hb)
  have y21 := Lib.hid (y20.out.next hb)
  have s21 := Lib.hid (s20.out.next hb)
  have t21 := Lib.hid (t20.out.next hb)
  have c21 := Lib.hid (c20.out.next hb)
  have d21 := Lib.hid (d20.out.next hb)
  have k21 := Lib.hid (Below.after k20.out hb)
  have g21 := Lib.hid hh1
  have h21 := Lib.hid hh2
  clear hb hh1 hh2 ra20 rb20 x20 y20 s20 t20 c20 d20 k20
  go_wp2_with fail
  refine (same4_yes As At q6 cs ct z6 Lz6.out (by omega) _ s21.out.row t21.out.row).mono ?_
  rintro e w22 ⟨rfl, hb⟩
  have ra22 := Lib.hid (ra21.out.next hb)
  have rb22 := Lib.hid (rb21.out.next hb)
  have x22 := Lib.hid (x21.out.next hb)
  have y22 := Lib.hid (y21.out.next hb)
  have c22 := Lib.hid (c21.out.next hb)
  have d22 := Lib.hid (d21.out.next hb)
  have g22 := Lib.hid (g21.out.next hb)
  have h22 := Lib.hid (h21.out.next hb)
  have k22 := Lib.hid (Below.after k21.out hb)
  clear hb  ra21 rb21 x21 y21 c21 d21 g21 h21 k21
  go_wp2_with fail
  refine (same4_yes Ac Ag ci cc cg csl LCS.out (by omega) _ c22.out.row g22.out.row).mono ?_
  rintro e w23 ⟨rfl, hb⟩
  have ra23 := Lib.hid (ra22.out.next hb)
  have rb23 := Lib.hid (rb22.out.next hb)
  have x23 := Lib.hid (x22.out.next hb)
  have y23 := Lib.hid (y22.out.next hb)
  have d23 := Lib.hid (d22.out.next hb)
  have h23 := Lib.hid (h22.out.next hb)
  have k23 := Lib.hid (Below.after k22.out hb)
  clear hb  ra22 rb22 x22 y22 d22 h22 k22
  go_wp2_with fail
  refine (same4_yes Ad Ah cq cd ch crl LCR.out (by omega) _ d23.out.row h23.out.row).mono ?_
  rintro e w24 ⟨rfl, hb⟩
  have ra24 := Lib.hid (ra23.out.next hb)
  have rb24 := Lib.hid (rb23.out.next hb)
  have x24 := Lib.hid (x23.out.next hb)
  have y24 := Lib.hid (y23.out.next hb)
  have k24 := Lib.hid (Below.after k23.out hb)
  clear hb  ra23 rb23 x23 y23 k23
  go_wp2_with fail
  refine (same4_yes Ax A n cx c a LA.out (by omega) _ x24.out.row ra24.out.row).mono ?_
  rintro e w25 ⟨rfl, hb⟩
  have rb25 := Lib.hid (rb24.out.next hb)
  have y25 := Lib.hid (y24.out.next hb)
  have k25 := Lib.hid (Below.after k24.out hb)
  clear hb  rb24 y24 k24
  go_wp2_with fail
  refine (same4_yes Ay B m cy d b LB.out (by omega) _ y25.out.row rb25.out.row).mono ?_
  rintro e w26 ⟨rfl, hb⟩
  have k26 := Lib.hid (Below.after k25.out hb)
  clear hb  k25
  go_wp2_with fail
  refine (alive5_any _ (Nat.lt_of_lt_of_le h0.out k26.out.size) (hst.out.below h0.out k26.out)).mono ?_
  rintro e w27 ⟨rfl, hb⟩
  have k27 := Lib.hid (Below.after k26.out hb)
  clear hb  k26
  go_wp2
  go_ret
  exact ⟨rfl, k27.out⟩
end Go.Proofs.YtjnnfineebabaaaDoor
namespace Go.Proofs.YtjnnfineebabaaaDoor
open Go.ChangeShapes Go.WideShapes Go.ChangeAt Go.RowKit
open Go.Proofs.Rowm
theorem setTells_any (o p : Nat) (A B : Option Addr) (n c m d : Nat) (a b : List Pr) (lo hi : BitVec 64) (hl : a.length = n) (hn : n ≤ c) (hc : c ≤ maxLen) (hA : A = none → c = 0) (hl2 : b.length = m) (hn2 : m ≤ d) (hc2 : d ≤ maxLen) (hB : B = none → d = 0) (w : World) (hr : Row w w.heap.size A (flat a)) (hr2 : Row w w.heap.size B (flat b)) (h0 : 0 < w.heap.size) (hs : Steps w) :
    Calls Tryd.prog 3 #[.int .u8 o, .int .u8 p, .slice A n c, .slice B m d, K lo, K hi] w fun e w' => e = .returned (.bool true) ∧ Below w.heap.size w w' := by
  rcases Nat.lt_or_ge 150 n with h | h
  · exact setTells_many o p A B n c m d lo hi (.inl h) (Nat.le_trans hn hc) (Nat.le_trans hn2 hc2) w h0 hs
  · rcases Nat.lt_or_ge 150 m with h2 | h2
    · exact setTells_many o p A B n c m d lo hi (.inr h2) (Nat.le_trans hn hc) (Nat.le_trans hn2 hc2) w h0 hs
    · exact setTells_few o p A B n c m d a b lo hi h h2 w ⟨hl, by omega, hn, hA, h0, hs, hr⟩ ⟨hl2, by omega, hn2, hB, h0, hs, hr2⟩

set_option maxRecDepth 100000 in
theorem rowsetTells_lifted (os : Os) (started : os.Started) (H : Type) (enc : TypeId × Value → H) :
    ReturnsInHanded {} Tryd.checked os 3 .any (fun w args => (Rows.rowsetTellsSpec.pre enc Tryd.prog Tryd.f3 [] false w args ∧ laidMetH Tryd.prog laid4 w) ∧ sizedMet enc Tryd.prog Tryd.f3 (OpenSpec.ofChange Rows.rowsetTellsSpec) false w args)
      (Rows.rowsetTellsSpec.post enc Tryd.prog Tryd.f3 false true false false) := by
  refine returnsInHanded_of_change_and (C := Tryd.checked) (X := fun w _ => laidMetH Tryd.prog laid4 w) (fun _ _ _ hh h => h.of_heap hh) own started (by kernel_rfl) Tryd.func3
    (ChangeSpec.witness_shaped (enc := enc) (C := Tryd.checked) (os := os) (X := fun w _ => laidMetH Tryd.prog laid4 w) false (World.doorLaid Tryd.prog 400 os) #[.int .u8 0, .int .u8 0, .slice none 0 0, .slice none 0 0, .int .i64 0, .int .i64 0] 8 rfl (World.shaped_of_RefB (by kernel_rfl) (by kernel_rfl)) (by kernel_rfl) (by kernel_rfl) (by kernel_rfl) (door_met os _)) ?_
  intro W base args ds gs before hval0 hW _ _ hL _
  have hval : ∀ (j : Nat) t v, Tryd.f3.params[j]? = some t → args[j]? = some v → Value.okWide Tryd.prog W .any base t v := hval0
  have hW' := hW
  obtain ⟨p, q, hA0, hV, rfl, hfz, hnd⟩ := hW
  have hA : DataW.TrodAll enc Tryd.prog W 0 (fun _ => true) true Tryd.f3.params.toList args.toList ds p := hA0
  rw [Tryd.params3] at hA hval
  obtain ⟨v0, vs0, d0, ds0, p0, q0, hargs, rfl, rfl, h0, r0⟩ := trodAll_cons hA
  obtain ⟨v1, vs1, d1, ds1, p1, q1, rfl, rfl, rfl, h1, r1⟩ := trodAll_cons r0
  obtain ⟨v2, vs2, d2, ds2, p2, q2, rfl, rfl, rfl, h2, r2⟩ := trodAll_cons r1
  obtain ⟨v3, vs3, d3, ds3, p3, q3, rfl, rfl, rfl, h3, r3⟩ := trodAll_cons r2
  obtain ⟨v4, vs4, d4, ds4, p4, q4, rfl, rfl, rfl, h4, r4⟩ := trodAll_cons r3
  obtain ⟨v5, vs5, d5, ds5, p5, q5, rfl, rfl, rfl, h5, r5⟩ := trodAll_cons r4
  obtain ⟨rfl, rfl, rfl⟩ := trodAll_nil r5
  obtain rfl : args = #[v0, v1, v2, v3, v4, v5] := by cases args; simp_all
  obtain ⟨rfl, rfl⟩ := trodVars_none hV
  obtain ⟨a0, rfl, rfl, rfl, w0⟩ := open_int Tryd.underlying5 (hval 0 5 v0 rfl rfl) h0
  obtain ⟨b0, rfl, u0⟩ := byte_of a0 w0
  obtain ⟨a1, rfl, rfl, rfl, w1⟩ := open_int Tryd.underlying5 (hval 1 5 v1 rfl rfl) h1
  obtain ⟨b1, rfl, u1⟩ := byte_of a1 w1
  have k2 := h2
  have lt2 : ∀ x ∈ p2, x.block < W.heap.size := by obtain ⟨m, hm⟩ := k2; exact DataW.trod_lt m _ _ _ hm
  obtain ⟨A2, n2, c2, l2, rfl, hl2, hn2, hc2, hz2, hr2⟩ := open_pairs (hval 2 22 v2 rfl rfl) h2
  have k3 := h3
  have lt3 : ∀ x ∈ p3, x.block < W.heap.size := by obtain ⟨m, hm⟩ := k3; exact DataW.trod_lt m _ _ _ hm
  obtain ⟨A3, n3, c3, l3, rfl, hl3, hn3, hc3, hz3, hr3⟩ := open_pairs (hval 3 22 v3 rfl rfl) h3
  obtain ⟨a4, rfl, rfl, rfl, w4⟩ := open_int Tryd.underlying2 (hval 4 2 v4 rfl rfl) h4
  obtain ⟨b4, rfl⟩ := key_of a4 w4
  obtain ⟨a5, rfl, rfl, rfl, w5⟩ := open_int Tryd.underlying2 (hval 5 2 v5 rfl rfl) h5
  obtain ⟨b5, rfl⟩ := key_of a5 w5
  obtain ⟨hz, hst⟩ := steps_of hL
  clear hA0 hval0
  refine (setTells_any b0 b1 A2 A3 n2 c2 n3 c3 l2 l3 b4 b5 hl2 hn2 hc2 hz2 hl3 hn3 hc3 hz3 W hr2 hr3 hz hst).mono fun e W' ⟨he, bel⟩ => ?_
  subst he
  exact ⟨_, rfl, _, _, _, [], _, [], hW', trodAll_mk1 (shut_bool Tryd.underlying4 _), trodAll_cons_mk (shut_int Tryd.underlying5 w0) (trodAll_cons_mk (shut_int Tryd.underlying5 w1) (trodAll_cons_mk (Below.trod laidOut (by kernel_rfl) (of_decide_eq_true (by kernel_rfl)) k2 bel lt2) (trodAll_cons_mk (Below.trod laidOut (by kernel_rfl) (of_decide_eq_true (by kernel_rfl)) k3 bel lt3) (trodAll_cons_mk (shut_int Tryd.underlying2 w4) (trodAll_cons_mk (shut_int Tryd.underlying2 w5) trodAll_mk0))))), rfl, bel.frame _, fun h => by cases h⟩

theorem rowsetTells_row : Rows.RowsetTellsSaid :=
  OpenClaim.holds_of_wide 3 Tryd.f3 rfl rfl rfl rfl rfl rfl rfl ⟨rfl, rfl, rfl, rfl, rfl⟩ rfl rfl rfl rfl rfl (by kernel_rfl) Tryd.func3 (by kernel_rfl)
    (of_decide_eq_true (by kernel_rfl)) (by unfold Func.isWrapper; first | (rw [if_pos (by decide +kernel)]; kernel_rfl) | (rw [if_neg (by decide +kernel)]; exact ⟨rfl, rfl⟩))
    (fun os started H enc _ => rowsetTells_lifted os started H enc)

theorem rowsetTells_holds : Rows.RowsetTellsCardSaid :=
  Claim7.holds_tied_plain_at .later [] [.data] true Rows.rowsetTellsCard.stood.harness false
    rowsetTells_row (fun _ h => by cases h) (by kernel_rfl) (fun _ h => by cases h) rowsetTells_row_tie rfl ⟨rfl, rfl⟩ (by kernel_rfl) rfl
    (fun f fn hf hfn => by
      obtain rfl : f = 3 := Option.some.inj ((show Tryd.prog.funcNamed Rows.rowsetTellsRow.func = some 3 by kernel_rfl).symm.trans hf) |>.symm
      obtain rfl : fn = Tryd.f3 := (Option.some.inj (Tryd.func3.symm.trans hfn)).symm
      exact ⟨by kernel_rfl, fun j t ht => by
        rw [Tryd.params3] at ht
        have hm : t ∈ [5, 5, 22, 22, 2, 2] := by simpa using Array.mem_of_getElem? ht
        have hall : ([5, 5, 22, 22, 2, 2].all fun u => !Tryd.prog.wantsStandIn u) = true := by kernel_rfl
        exact (show Tryd.prog.wantsStandIn t = false by simpa using List.all_eq_true.1 hall t hm)⟩)
    (by kernel_rfl)
#print axioms rowsetTells_holds
end Go.Proofs.YtjnnfineebabaaaDoor
