/- The document's own answers of layer 16: High, Red, one, parts, Check, Part, May. Made by wip/gen/layer16ref.py. -/
import Derived.Test.YtifhnaelkjfmdabL16Math
import Derived.Test.YtifhnaelkjfmdabL14Tag
namespace Go.Proofs.Ytifhnaelkjfmdab
open Go.RowKit Go.Proofs.Treem
set_option maxRecDepth 100000

theorem refHigh16 (t : Tr) (A : Option Addr) (n c B : Nat) (l : List Bd) (hl : l.map strip = t.pre) (w : World) (h : LieB w B A n c l) :
    Calls Try.prog 43 #[.slice A n c] w fun e w' => e = .returned (.int .u64 (highR t : Int)) ∧ w = w' := by
  have c1 : Hid (Calls Try.prog 64 #[.slice A n c] w fun e w' => e = .returned (.int .u64 (t.tag.toNat : Int)) ∧ w = w') := refTag14 t A n c B l hl w h
  have hb := t.tag.isLt
  unfold highR
  obtain ⟨P, hP⟩ : ∃ P, t.tag.toNat = P := ⟨_, rfl⟩
  rw [hP] at c1 hb ⊢
  clear hP h hl
  go_enter Try.func43, Try.ntmps43
  go_wp2_with fail
  refine c1.out.mono ?_
  rintro e w' ⟨rfl, rfl⟩
  go_wp2
  go_ret
  exact ⟨rfl, rfl⟩
theorem refRed16 (t : Tr) (A : Option Addr) (n c B : Nat) (l : List Bd) (hl : l.map strip = t.pre) (w : World) (h : LieB w B A n c l) :
    Calls Try.prog 48 #[.slice A n c] w fun e w' => e = .returned (.bool (redR t)) ∧ w = w' := by
  have c1 : Hid (Calls Try.prog 64 #[.slice A n c] w fun e w' => e = .returned (.int .u64 (t.tag.toNat : Int)) ∧ w = w') := refTag14 t A n c B l hl w h
  have hb := t.tag.isLt
  unfold redR
  obtain ⟨P, hP⟩ : ∃ P, t.tag.toNat = P := ⟨_, rfl⟩
  rw [hP] at c1 hb ⊢
  obtain ⟨b, hbb⟩ : ∃ b, (P % 2 == 1) = b := ⟨_, rfl⟩
  rw [hbb]
  have e1 : ((P : Int) % 2 == 1) = b := by
    rw [← hbb]
    by_cases h : P % 2 = 1
    · rw [beq_iff_eq.2 h, beq_iff_eq]; omega
    · rw [beq_eq_false_iff_ne.2 h, beq_eq_false_iff_ne]; omega
  clear hbb
  clear hP h hl
  go_enter Try.func48, Try.ntmps48
  go_wp2_with fail
  refine c1.out.mono ?_
  rintro e w' ⟨rfl, rfl⟩
  go_wp2
  go_ret
  exact ⟨rfl, rfl⟩
theorem one_is16 (G H X Q b : Nat) (hG : G < 18446744073709551616) (hX : X = 2 * (b / 2)) (hH : H = b / 2) (hb : b < 18446744073709551616) : oneR G b Q = if ((G : Int) == 0) || (((G : Int) != 2 * (H : Int) + 1) && ((G : Int) != ((2 * H + 2) % 18446744073709551616 : Nat))) then 140 else if (((Q / 2 : Nat) : Int) != (H : Int)) || (((G : Int) % 2 == 1) && ((b % 2 == 1) || (Q % 2 == 1))) then 8 else 0 := by
  unfold oneR
  have e1 : (G = 0 ∨ (G ≠ 2 * (b / 2) + 1 ∧ G ≠ 2 * (b / 2) + 2)) ↔ (((G : Int) == 0) || (((G : Int) != 2 * (H : Int) + 1) && ((G : Int) != ((2 * H + 2) % 18446744073709551616 : Nat)))) = true := by
    rw [Bool.or_eq_true, Bool.and_eq_true, beq_iff_eq, bne_iff_ne, bne_iff_ne]
    omega
  have e2 : (Q / 2 ≠ b / 2 ∨ (G % 2 = 1 ∧ (b % 2 = 1 ∨ Q % 2 = 1))) ↔ ((((Q / 2 : Nat) : Int) != (H : Int)) || (((G : Int) % 2 == 1) && ((b % 2 == 1) || (Q % 2 == 1)))) = true := by
    rw [Bool.or_eq_true, Bool.and_eq_true, Bool.or_eq_true, beq_iff_eq, bne_iff_ne, beq_iff_eq, beq_iff_eq]
    omega
  simp only [e1, e2]
set_option maxHeartbeats 4000000 in
theorem refOne16 (tl tr : Tr) (k v g : BitVec 64) (A : Option Addr) (n c B : Nat) (l : List Bd) (hl : l.map strip = (Tr.n tl k v g tr).pre) (h5 : n ≤ 5000) (w : World) (hB : B ≤ w.heap.size) (h : LieB w B A n c l) :
    Calls Try.prog 78 #[.slice A n c] w fun e w' => e = .returned (nI (rootR (.n tl k v g tr))) ∧ Below w.heap.size w w' := by
  obtain ⟨i, hi⟩ : ∃ i, tl.size = i := ⟨_, rfl⟩
  obtain ⟨j, hj⟩ : ∃ j, tr.size = j := ⟨_, rfl⟩
  have hparts := Lib.hid (parts9_any A n c B l tl tr k v g hl w hB h h5)
  rw [hi, hj] at hparts
  have tA := Lib.hid fun A n c B l hl w h => refHigh16 tl A n c B l hl w h
  have tB := Lib.hid fun A n c B l hl w h => refHigh16 tr A n c B l hl w h
  have rA := Lib.hid fun A n c B l hl w h => refRed16 tl A n c B l hl w h
  have rB := Lib.hid fun A n c B l hl w h => refRed16 tr A n c B l hl w h
  have hans := one_is16 g.toNat (highR tl) _ tr.tag.toNat tl.tag.toNat g.isLt rfl rfl tl.tag.isLt
  rw [show oneR g.toNat tl.tag.toNat tr.tag.toNat = rootR (.n tl k v g tr) from rfl, show (tr.tag.toNat / 2 : Nat) = highR tr from rfl, show (tl.tag.toNat % 2 == 1) = redR tl from rfl, show (tr.tag.toNat % 2 == 1) = redR tr from rfl] at hans
  obtain ⟨O, hO⟩ : ∃ O, rootR (.n tl k v g tr) = O := ⟨_, rfl⟩
  rw [hO] at hans ⊢
  have hHl := high_lt tl
  obtain ⟨b5, hb5⟩ : ∃ b, redR tl = b := ⟨_, rfl⟩
  obtain ⟨b6, hb6⟩ : ∃ b, redR tr = b := ⟨_, rfl⟩
  rw [hb5] at hans rA
  rw [hb6] at hans rB
  obtain ⟨H, hH⟩ : ∃ b, highR tl = b := ⟨_, rfl⟩
  obtain ⟨J, hJ⟩ : ∃ b, highR tr = b := ⟨_, rfl⟩
  rw [hH] at hans tA hHl
  rw [hJ] at hans tB
  obtain ⟨G, hG⟩ : ∃ b, g.toNat = b := ⟨_, rfl⟩
  rw [hG] at hans
  have hgt : Hid (G64 g = .int .u64 (G : Int)) := by rw [← hG]; rfl
  obtain ⟨Z, hZ⟩ : ∃ z : Int, (((2 * H + 2) % 18446744073709551616 : Nat) : Int) = z := ⟨_, rfl⟩
  rw [hZ] at hans
  have wr1 : IntKind.u64.wrap (2 * (H : Int)) = 2 * (H : Int) := IntWalk.u64_in _ (by omega)
  have wr2 : IntKind.u64.wrap (2 * (H : Int) + 1) = 2 * (H : Int) + 1 := IntWalk.u64_in _ (by omega)
  have wr3 : IntKind.u64.wrap (2 * (H : Int) + 2) = Z := by rw [← hZ, IntKind.wrap_u64]; omega
  obtain ⟨b0, d0⟩ : ∃ b, ((G : Int) == 0) = b := ⟨_, rfl⟩
  obtain ⟨b1, d1⟩ : ∃ b, ((G : Int) != 2 * (H : Int) + 1) = b := ⟨_, rfl⟩
  obtain ⟨b2, d2⟩ : ∃ b, ((G : Int) != Z) = b := ⟨_, rfl⟩
  obtain ⟨b3, d3⟩ : ∃ b, ((J : Int) != (H : Int)) = b := ⟨_, rfl⟩
  obtain ⟨b4, d4⟩ : ∃ b, ((G : Int) % 2 == 1) = b := ⟨_, rfl⟩
  rw [d0, d1, d2, d3, d4] at hans
  have hO' := Lib.hid hans
  clear hl h hi hj hO hH hJ hb5 hb6 hG hZ hHl hans
  go_enter Try.func78, Try.ntmps78
  go_wp2_with fail
  refine hparts.out.mono ?_
  rintro e w1 ⟨A1, c1, A2, c2, b, la, lb, rfl, rfl, hx, hla, hlb, K1, K2, hb⟩
  clear hparts
  have b1' := Lib.hid hb
  have hla' := Lib.hid hla
  have hlb' := Lib.hid hlb
  have K1' := Lib.hid K1
  have K2' := Lib.hid K2
  have hbt : Hid (b.tag = g) := congrArg St.tag hx
  clear hb hx hla hlb K1 K2
  go_upto_region 2 with (fail)
  obtain ⟨W2, hW2⟩ : ∃ W2, w1.alloc (.cells #[K b.key, K b.val, K b.sum, K b.size, G64 b.tag, .bool b.left, .bool b.right] 56) = W2 := ⟨_, rfl⟩
  have gx : Hid (Has W2 w1.heap.size 56 #[K b.key, K b.val, K b.sum, K b.size, G64 b.tag, .bool b.left, .bool b.right]) := hW2 ▸ Has.new w1 _ _
  have bb2 : Hid (Below w.heap.size w W2) := hW2 ▸ b1'.out.alloc b1'.out.size _
  rw [hW2]
  clear hW2 b1'
  obtain ⟨p, hp⟩ : ∃ p, w1.heap.size = p := ⟨_, rfl⟩
  rw [hp] at gx ⊢
  clear hp
  rw [hbt.out, hgt.out] at gx
  obtain ⟨-, -, -, -, y4, -, -⟩ := gx.out.seven
  have c1 := Lib.hid (tA.out A1 i c1 B la hla'.out W2 (K1'.out.next (bb2.out.mono hB)))
  have c2 := Lib.hid (tB.out A2 j c2 B lb hlb'.out W2 (K2'.out.next (bb2.out.mono hB)))
  have c5 := Lib.hid (rA.out A1 i _ B la hla'.out W2 (K1'.out.next (bb2.out.mono hB)))
  have c6 := Lib.hid (rB.out A2 j _ B lb hlb'.out W2 (K2'.out.next (bb2.out.mono hB)))
  clear tA tB rA rB hla' hlb' K1' K2' hgt hbt gx
  go_wp2_with fail
  refine c1.out.mono ?_
  rintro e w' ⟨rfl, rfl⟩
  clear c1
  cases b0 with
  | true =>
    have hO := hO'.out
    simp at hO
    subst hO
    go_wp2
    go_ret
    exact ⟨rfl, bb2.out⟩
  | false =>
    cases b1 with
    | true =>
      cases b2 with
      | true =>
        have hO := hO'.out
        simp at hO
        subst hO
        go_wp2
        go_ret
        exact ⟨rfl, bb2.out⟩
      | false =>
        cases b3 with
        | true =>
          have hO := hO'.out
          simp at hO
          subst hO
          go_wp2_with fail
          refine c2.out.mono ?_
          rintro e w' ⟨rfl, rfl⟩
          go_wp2
          go_ret
          exact ⟨rfl, bb2.out⟩
        | false =>
          cases b4 with
          | false =>
            have hO := hO'.out
            simp at hO
            subst hO
            go_wp2_with fail
            refine c2.out.mono ?_
            rintro e w' ⟨rfl, rfl⟩
            go_wp2
            go_ret
            exact ⟨rfl, bb2.out⟩
          | true =>
            cases b5 with
            | true =>
              have hO := hO'.out
              simp at hO
              subst hO
              go_wp2_with fail
              refine c2.out.mono ?_
              rintro e w' ⟨rfl, rfl⟩
              go_wp2_with fail
              refine c5.out.mono ?_
              rintro e w' ⟨rfl, rfl⟩
              go_wp2
              go_ret
              exact ⟨rfl, bb2.out⟩
            | false =>
              cases b6 with
              | true =>
                have hO := hO'.out
                simp at hO
                subst hO
                go_wp2_with fail
                refine c2.out.mono ?_
                rintro e w' ⟨rfl, rfl⟩
                go_wp2_with fail
                refine c5.out.mono ?_
                rintro e w' ⟨rfl, rfl⟩
                go_wp2_with fail
                refine c6.out.mono ?_
                rintro e w' ⟨rfl, rfl⟩
                go_wp2
                go_ret
                exact ⟨rfl, bb2.out⟩
              | false =>
                have hO := hO'.out
                simp at hO
                subst hO
                go_wp2_with fail
                refine c2.out.mono ?_
                rintro e w' ⟨rfl, rfl⟩
                go_wp2_with fail
                refine c5.out.mono ?_
                rintro e w' ⟨rfl, rfl⟩
                go_wp2_with fail
                refine c6.out.mono ?_
                rintro e w' ⟨rfl, rfl⟩
                go_wp2
                go_ret
                exact ⟨rfl, bb2.out⟩
    | false =>
      cases b3 with
      | true =>
        have hO := hO'.out
        simp at hO
        subst hO
        go_wp2_with fail
        refine c2.out.mono ?_
        rintro e w' ⟨rfl, rfl⟩
        go_wp2
        go_ret
        exact ⟨rfl, bb2.out⟩
      | false =>
        cases b4 with
        | false =>
          have hO := hO'.out
          simp at hO
          subst hO
          go_wp2_with fail
          refine c2.out.mono ?_
          rintro e w' ⟨rfl, rfl⟩
          go_wp2
          go_ret
          exact ⟨rfl, bb2.out⟩
        | true =>
          cases b5 with
          | true =>
            have hO := hO'.out
            simp at hO
            subst hO
            go_wp2_with fail
            refine c2.out.mono ?_
            rintro e w' ⟨rfl, rfl⟩
            go_wp2_with fail
            refine c5.out.mono ?_
            rintro e w' ⟨rfl, rfl⟩
            go_wp2
            go_ret
            exact ⟨rfl, bb2.out⟩
          | false =>
            cases b6 with
            | true =>
              have hO := hO'.out
              simp at hO
              subst hO
              go_wp2_with fail
              refine c2.out.mono ?_
              rintro e w' ⟨rfl, rfl⟩
              go_wp2_with fail
              refine c5.out.mono ?_
              rintro e w' ⟨rfl, rfl⟩
              go_wp2_with fail
              refine c6.out.mono ?_
              rintro e w' ⟨rfl, rfl⟩
              go_wp2
              go_ret
              exact ⟨rfl, bb2.out⟩
            | false =>
              have hO := hO'.out
              simp at hO
              subst hO
              go_wp2_with fail
              refine c2.out.mono ?_
              rintro e w' ⟨rfl, rfl⟩
              go_wp2_with fail
              refine c5.out.mono ?_
              rintro e w' ⟨rfl, rfl⟩
              go_wp2_with fail
              refine c6.out.mono ?_
              rintro e w' ⟨rfl, rfl⟩
              go_wp2
              go_ret
              exact ⟨rfl, bb2.out⟩
set_option maxHeartbeats 4000000 in
theorem refParts16 : ∀ (t : Tr) (A : Option Addr) (n c B : Nat) (l : List Bd), l.map strip = t.pre → t.size = n → n ≤ 5000 → ∀ w : World, B ≤ w.heap.size → LieB w B A n c l →
    Calls Try.prog 67 #[.slice A n c] w fun e w' => e = .returned (.tuple #[nI (placeF rootR t), nI (errF rootR t)]) ∧ Below w.heap.size w w' := by
  intro t
  induction t with
  | e =>
    intro A n c B l hl hn h5 w hB h
    obtain rfl : n = 0 := hn.symm
    clear h hl hB
    go_enter Try.func67, Try.ntmps67
    go_wp2
    go_ret2
    exact ⟨rfl, Below.refl _ _⟩
  | n tl k v g tr ihl ihr =>
    intro A n c B l hl hn h5 w hB h
    obtain ⟨i, hi⟩ : ∃ i, tl.size = i := ⟨_, rfl⟩
    obtain ⟨j, hj⟩ : ∃ j, tr.size = j := ⟨_, rfl⟩
    have hn2 : n = 1 + i + j := by rw [← hn, Tr.size, hi, hj]
    have cO := Lib.hid (refOne16 tl tr k v g A n c B l hl (by omega) w hB h)
    have hparts := Lib.hid (fun w hB h => parts9_any A n c B l tl tr k v g hl w hB h (by omega))
    rw [hi, hj] at hparts
    have hL := Lib.hid (fun A c B la hla w hB h => ihl A i c B la hla hi (by omega) w hB h)
    have hR := Lib.hid (fun A c B la hla w hB h => ihr A j c B la hla hj (by omega) w hB h)
    have hpl := placeF_le (f := rootR) tl
    have hpr := placeF_le (f := rootR) tr
    rw [hi] at hpl
    rw [hj] at hpr
    have hE : errF rootR (.n tl k v g tr) = if rootR (.n tl k v g tr) ≠ 0 then rootR (.n tl k v g tr) else if errF rootR tl ≠ 0 then errF rootR tl else errF rootR tr := by rw [errF]
    have hP : placeF rootR (.n tl k v g tr) = if rootR (.n tl k v g tr) ≠ 0 then 0 else if errF rootR tl ≠ 0 then 1 + placeF rootR tl else 1 + placeF rootR tl + placeF rootR tr := by rw [placeF]
    rw [hE, hP]
    obtain ⟨R, hR0⟩ : ∃ R, rootR (.n tl k v g tr) = R := ⟨_, rfl⟩
    obtain ⟨x, hx⟩ : ∃ x, placeF rootR tl = x := ⟨_, rfl⟩
    obtain ⟨y, hy⟩ : ∃ x, placeF rootR tr = x := ⟨_, rfl⟩
    obtain ⟨f, hf⟩ : ∃ x, errF rootR tl = x := ⟨_, rfl⟩
    obtain ⟨q, hq⟩ : ∃ x, errF rootR tr = x := ⟨_, rfl⟩
    rw [hR0, hx, hy, hf, hq]
    rw [hR0] at cO
    rw [hx, hf] at hL
    rw [hy, hq] at hR
    rw [hx] at hpl
    rw [hy] at hpr
    have d1 : ((n : Int) == 0) = false := by simp; omega
    have H := Lib.hid h
    have hx9 : x ≤ 5000 := by omega
    have hy9 : y ≤ 5000 := by omega
    clear hl h ihl ihr hi hj hn hn2 hE hP hR0 hx hy hf hq h5 hpl hpr
    by_cases hz : R = 0
    · subst hz
      rw [if_neg (Nat.lt_irrefl 0 ∘ Nat.pos_of_ne_zero), if_neg (Nat.lt_irrefl 0 ∘ Nat.pos_of_ne_zero)]
      obtain ⟨E, hE0⟩ : ∃ E, (if f ≠ 0 then f else q) = E := ⟨_, rfl⟩
      obtain ⟨P, hP0⟩ : ∃ P, (if f ≠ 0 then 1 + x else 1 + x + y) = P := ⟨_, rfl⟩
      rw [hE0, hP0]
      have hE := Lib.hid hE0
      have hP := Lib.hid hP0
      clear hE0 hP0
      go_enter Try.func67, Try.ntmps67
      go_wp2_with fail
      refine cO.out.mono ?_
      rintro e w0 ⟨rfl, hb⟩
      have b0 := Lib.hid hb
      clear hb cO
      go_wp2_with fail
      refine (hparts.out w0 (Nat.le_trans hB b0.out.size) (H.out.next (b0.out.mono hB))).mono ?_
      rintro e w1 ⟨A1, c1, A2, c2, b, la, lb, rfl, rfl, hx, hla, hlb, K1, K2, hb⟩
      have b1 := Lib.hid (Below.after b0.out hb)
      have hla' := Lib.hid hla
      have hlb' := Lib.hid hlb
      have K1' := Lib.hid ((K1.next (hb.mono (Nat.le_trans hB b0.out.size))).next ((Below.refl B w1).alloc (Nat.le_trans hB b1.out.size) (.cells #[K b.key, K b.val, K b.sum, K b.size, G64 b.tag, .bool b.left, .bool b.right] 56)))
      have K2' := Lib.hid ((K2.next (hb.mono (Nat.le_trans hB b0.out.size))).next ((Below.refl B w1).alloc (Nat.le_trans hB b1.out.size) (.cells #[K b.key, K b.val, K b.sum, K b.size, G64 b.tag, .bool b.left, .bool b.right] 56)))
      clear hb hx hla hlb K1 K2 b0 hparts H
      go_wp2_with fail
      have b2 := Lib.hid (b1.out.alloc b1.out.size (.cells #[K b.key, K b.val, K b.sum, K b.size, G64 b.tag, .bool b.left, .bool b.right] 56))
      refine (hL.out A1 c1 B la hla'.out _ (Nat.le_trans hB b2.out.size) K1'.out).mono ?_
      rintro e w3 ⟨rfl, hb3⟩
      have b3 := Lib.hid (Below.after b2.out hb3)
      have K3' := Lib.hid (K2'.out.next (hb3.mono (Nat.le_trans hB b2.out.size)))
      clear hb3 b2 b1 K2' K1'
      by_cases hf : f = 0
      · subst hf
        obtain rfl : q = E := by have := hE.out; rwa [if_neg (Nat.lt_irrefl 0 ∘ Nat.pos_of_ne_zero)] at this
        obtain rfl : 1 + x + y = P := by have := hP.out; rwa [if_neg (Nat.lt_irrefl 0 ∘ Nat.pos_of_ne_zero)] at this
        clear hE hP
        go_wp2_with fail
        refine (hR.out A2 c2 B lb hlb'.out w3 (Nat.le_trans hB b3.out.size) K3'.out).mono ?_
        rintro e w4 ⟨rfl, hb4⟩
        have b4 := Lib.hid (Below.after b3.out hb4)
        clear hb4 b3
        have e1 : IntKind.i64.wrap (1 + (x : Int)) = 1 + (x : Int) := IntWalk.i64_in _ (by omega)
        have e2 : IntKind.i64.wrap (1 + (x : Int) + (y : Int)) = 1 + (x : Int) + (y : Int) := IntWalk.i64_in _ (by omega)
        go_wp2
        go_ret2
        exact ⟨by show _ = Ending.returned (.tuple #[.int .i64 ((1 + x + y : Nat) : Int), nI q]); rw [show ((1 + x + y : Nat) : Int) = 1 + (x : Int) + (y : Int) by omega]; rfl, b4.out⟩
      · obtain rfl : f = E := by have := hE.out; rwa [if_pos hf] at this
        obtain rfl : 1 + x = P := by have := hP.out; rwa [if_pos hf] at this
        clear hE hP
        have d2 : ((f : Int) != 0) = true := by rw [bne_iff_ne]; omega
        have e1 : IntKind.i64.wrap (1 + (x : Int)) = 1 + (x : Int) := IntWalk.i64_in _ (by omega)
        go_wp2
        go_ret2
        exact ⟨by show _ = Ending.returned (.tuple #[.int .i64 ((1 + x : Nat) : Int), nI f]); rw [show ((1 + x : Nat) : Int) = 1 + (x : Int) by omega]; rfl, b3.out⟩
    · rw [if_pos hz, if_pos hz]
      have d2 : ((R : Int) != 0) = true := by rw [bne_iff_ne]; omega
      go_enter Try.func67, Try.ntmps67
      go_wp2_with fail
      refine cO.out.mono ?_
      rintro e w0 ⟨rfl, hb⟩
      have b0 := Lib.hid hb
      clear hb cO
      go_wp2
      go_ret2
      exact ⟨rfl, b0.out⟩
end Go.Proofs.Ytifhnaelkjfmdab
