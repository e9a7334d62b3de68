/- The document's own answers of layer 18: Like, Check, May, Rank, Least. Made by wip/gen/layer18ref.py. -/
import Derived.Test.YtifhnaelkjfmdaaL18Math
import Derived.Test.YtifhnaelkjfmdaaL14Tag
namespace Go.Proofs.Ytifhnaelkjfmdaa
open Go.RowKit Go.Proofs.Treem
set_option maxRecDepth 100000

set_option maxHeartbeats 4000000 in
theorem refLike18 (a b : Int) (w : World) : Calls Try.prog 26 #[.int .i64 a, .int .i64 b] w fun e w' => e = .returned (.bool (likeI a b)) ∧ w = w' := by
  by_cases h1 : a < 1
  · have d1 : decide (a < 1) = true := decide_eq_true h1
    have hv : likeI a b = false := by
      rw [Bool.eq_false_iff]; intro h; rw [like_iff] at h; omega
    rw [hv]
    clear hv
    go_enter Try.func26, Try.ntmps26
    go_wp2
    all_goals first
      | (exfalso; omega)
      | (go_ret; exact ⟨rfl, rfl⟩)
  · have d1 : decide (a < 1) = false := decide_eq_false h1
    by_cases h2 : b < 1
    · have d2 : decide (b < 1) = true := decide_eq_true h2
      have hv : likeI a b = false := by
        rw [Bool.eq_false_iff]; intro h; rw [like_iff] at h; omega
      rw [hv]
      clear hv
      go_enter Try.func26, Try.ntmps26
      go_wp2
      all_goals first
        | (exfalso; omega)
        | (go_ret; exact ⟨rfl, rfl⟩)
    · have d2 : decide (b < 1) = false := decide_eq_false h2
      by_cases h3 : 1099511627776 < a
      · have d3 : decide (1099511627776 < a) = true := decide_eq_true h3
        have hv : likeI a b = false := by
          rw [Bool.eq_false_iff]; intro h; rw [like_iff] at h; omega
        rw [hv]
        clear hv
        go_enter Try.func26, Try.ntmps26
        go_wp2
        all_goals first
          | (exfalso; omega)
          | (go_ret; exact ⟨rfl, rfl⟩)
      · have d3 : decide (1099511627776 < a) = false := decide_eq_false h3
        by_cases h4 : 1099511627776 < b
        · have d4 : decide (1099511627776 < b) = true := decide_eq_true h4
          have hv : likeI a b = false := by
            rw [Bool.eq_false_iff]; intro h; rw [like_iff] at h; omega
          rw [hv]
          clear hv
          go_enter Try.func26, Try.ntmps26
          go_wp2
          all_goals first
            | (exfalso; omega)
            | (go_ret; exact ⟨rfl, rfl⟩)
        · have d4 : decide (1099511627776 < b) = false := decide_eq_false h4
          have e1 : IntKind.i64.wrap (a + b) = a + b := IntWalk.i64_in _ (by omega)
          have e2 : IntKind.i64.wrap (29 * (a + b)) = 29 * (a + b) := IntWalk.i64_in _ (by omega)
          have e3 : IntKind.i64.wrap (100 * a) = 100 * a := IntWalk.i64_in _ (by omega)
          have e4 : IntKind.i64.wrap (100 * b) = 100 * b := IntWalk.i64_in _ (by omega)
          by_cases h5 : 29 * (a + b) ≤ 100 * a
          · have d5 : decide (29 * (a + b) ≤ 100 * a) = true := decide_eq_true h5
            by_cases h6 : 29 * (a + b) ≤ 100 * b
            · have d6 : decide (29 * (a + b) ≤ 100 * b) = true := decide_eq_true h6
              have hv : likeI a b = true := by
                rw [like_iff]; omega
              rw [hv]
              clear hv
              go_enter Try.func26, Try.ntmps26
              go_wp2
              all_goals first
                | (exfalso; omega)
                | (go_ret; exact ⟨rfl, rfl⟩)
            · have d6 : decide (29 * (a + b) ≤ 100 * b) = false := decide_eq_false h6
              have hv : likeI a b = false := by
                rw [Bool.eq_false_iff]; intro h; rw [like_iff] at h; omega
              rw [hv]
              clear hv
              go_enter Try.func26, Try.ntmps26
              go_wp2
              all_goals first
                | (exfalso; omega)
                | (go_ret; exact ⟨rfl, rfl⟩)
          · have d5 : decide (29 * (a + b) ≤ 100 * a) = false := decide_eq_false h5
            have hv : likeI a b = false := by
              rw [Bool.eq_false_iff]; intro h; rw [like_iff] at h; omega
            rw [hv]
            clear hv
            go_enter Try.func26, Try.ntmps26
            go_wp2
            all_goals first
              | (exfalso; omega)
              | (go_ret; exact ⟨rfl, rfl⟩)
set_option maxHeartbeats 4000000 in
theorem refCheck18 : ∀ (t : Tr) (A : Option Addr) (n c B : Nat) (l : List Bd), l.map strip = t.pre → t.size = n → n ≤ 5000 → ∀ w : World, B ≤ w.heap.size → LieB w B A n c l →
    Calls Try.prog 19 #[.slice A n c] w fun e w' => e = .returned (.tuple #[nI (placeF rootW t), nI (errF rootW t)]) ∧ Below w.heap.size w w' := by
  intro t
  induction t with
  | e =>
    intro A n c B l hl hn h5 w hB h
    obtain rfl : n = 0 := hn.symm
    clear h hl hB
    go_enter Try.func19, Try.ntmps19
    go_wp2
    go_ret2
    exact ⟨rfl, Below.refl _ _⟩
  | n tl k v g tr ihl ihr =>
    intro A n c B l hl hn h5 w hB h
    obtain ⟨i, hi⟩ : ∃ i, tl.size = i := ⟨_, rfl⟩
    obtain ⟨j, hj⟩ : ∃ j, tr.size = j := ⟨_, rfl⟩
    have hn2 : n = 1 + i + j := by rw [← hn, Tr.size, hi, hj]
    have hparts := Lib.hid (parts9_any A n c B l tl tr k v g hl w hB h (by omega))
    rw [hi, hj] at hparts
    have hL := Lib.hid (fun A c B la hla w hB h => ihl A i c B la hla hi (by omega) w hB h)
    have hR := Lib.hid (fun A c B la hla w hB h => ihr A j c B la hla hj (by omega) w hB h)
    have hpl := placeF_le (f := rootW) tl
    have hpr := placeF_le (f := rootW) tr
    rw [hi] at hpl
    rw [hj] at hpr
    have hE : errF rootW (.n tl k v g tr) = if rootW (.n tl k v g tr) ≠ 0 then rootW (.n tl k v g tr) else if errF rootW tl ≠ 0 then errF rootW tl else errF rootW tr := by rw [errF]
    have hP : placeF rootW (.n tl k v g tr) = if rootW (.n tl k v g tr) ≠ 0 then 0 else if errF rootW tl ≠ 0 then 1 + placeF rootW tl else 1 + placeF rootW tl + placeF rootW tr := by rw [placeF]
    rw [hE, hP, rootW]
    have cLk : Hid (∀ W, Calls Try.prog 26 #[.int .i64 ((i : Int) + 1), .int .i64 ((j : Int) + 1)] W fun e w' => e = .returned (.bool (likeT tl tr)) ∧ W = w') := fun W => by
      have := refLike18 ((i : Int) + 1) ((j : Int) + 1) W
      rw [show likeI ((i : Int) + 1) ((j : Int) + 1) = likeT tl tr from by rw [likeT, hi, hj]; rfl] at this
      exact this
    obtain ⟨lk, hlk⟩ : ∃ b, likeT tl tr = b := ⟨_, rfl⟩
    obtain ⟨x, hx⟩ : ∃ x, placeF rootW tl = x := ⟨_, rfl⟩
    obtain ⟨y, hy⟩ : ∃ x, placeF rootW tr = x := ⟨_, rfl⟩
    obtain ⟨f, hf⟩ : ∃ x, errF rootW tl = x := ⟨_, rfl⟩
    obtain ⟨q, hq⟩ : ∃ x, errF rootW tr = x := ⟨_, rfl⟩
    obtain ⟨G, hG⟩ : ∃ x, g.toNat = x := ⟨_, rfl⟩
    rw [hlk, hx, hy, hf, hq, hG]
    rw [hlk] at cLk
    rw [hx, hf] at hL
    rw [hy, hq] at hR
    rw [hx] at hpl
    rw [hy] at hpr
    have hgt : Hid (G64 g = .int .u64 (G : Int)) := by rw [← hG]; rfl
    have d1 : ((n : Int) == 0) = false := by simp; omega
    have hx9 : x ≤ 5000 := by omega
    have hy9 : y ≤ 5000 := by omega
    have e7 : IntKind.i64.wrap ((i : Int) + 1) = (i : Int) + 1 := IntWalk.i64_in _ (by omega)
    have e8 : IntKind.i64.wrap ((j : Int) + 1) = (j : Int) + 1 := IntWalk.i64_in _ (by omega)
    clear hl h ihl ihr hi hj hn hn2 hE hP hlk hx hy hf hq hG h5 hpl hpr
    obtain ⟨O, hO0⟩ : ∃ O, (if (if G ≠ 0 then 140 else if lk = true then 0 else 8) ≠ 0 then (if G ≠ 0 then 140 else if lk = true then 0 else 8) else if f ≠ 0 then f else q) = O := ⟨_, rfl⟩
    obtain ⟨P, hP0⟩ : ∃ P, (if (if G ≠ 0 then 140 else if lk = true then 0 else 8) ≠ 0 then 0 else if f ≠ 0 then 1 + x else 1 + x + y) = P := ⟨_, rfl⟩
    rw [hO0, hP0]
    have hO := Lib.hid hO0
    have hP := Lib.hid hP0
    clear hO0 hP0
    go_enter Try.func19, Try.ntmps19
    go_wp2_with fail
    refine hparts.out.mono ?_
    rintro e w1 ⟨A1, c1, A2, c2, b, la, lb, rfl, rfl, hxx, hla, hlb, K1, K2, hb⟩
    have b1 := Lib.hid hb
    have hla' := Lib.hid hla
    have hlb' := Lib.hid hlb
    have K1' := Lib.hid K1
    have K2' := Lib.hid K2
    have hbt : Hid (b.tag = g) := congrArg St.tag hxx
    clear hb hxx hla hlb K1 K2 hparts
    go_upto_region 4 with (fail)
    obtain ⟨W2, hW2⟩ : ∃ W2, w1.alloc (.cells #[K b.key, K b.val, K b.sum, K b.size, G64 b.tag, .bool b.left, .bool b.right] 44) = W2 := ⟨_, rfl⟩
    have gx : Hid (Has W2 w1.heap.size 44 #[K b.key, K b.val, K b.sum, K b.size, G64 b.tag, .bool b.left, .bool b.right]) := hW2 ▸ Has.new w1 _ _
    have b2 : Hid (Below w.heap.size w W2) := hW2 ▸ b1.out.alloc b1.out.size _
    have K1'' := Lib.hid (K1'.out.next (b2.out.mono hB))
    have K2'' := Lib.hid (K2'.out.next (b2.out.mono hB))
    rw [hW2]
    clear hW2 b1 K1' K2'
    obtain ⟨p, hp⟩ : ∃ p, w1.heap.size = p := ⟨_, rfl⟩
    rw [hp] at gx ⊢
    clear hp
    rw [hbt.out, hgt.out] at gx
    obtain ⟨-, -, -, -, y4, -, -⟩ := gx.out.seven
    clear gx hbt hgt
    by_cases hG : G = 0
    · subst hG
      cases lk with
      | false =>
        have hO1 := hO.out
        have hP1 := hP.out
        simp at hO1 hP1
        subst hO1 hP1
        go_wp2_with fail
        refine (cLk.out W2).mono ?_
        rintro e w' ⟨rfl, rfl⟩
        go_wp2
        go_ret2
        exact ⟨rfl, b2.out⟩
      | true =>
        go_wp2_with fail
        refine (cLk.out W2).mono ?_
        rintro e w' ⟨rfl, rfl⟩
        go_wp2_with fail
        refine (hL.out A1 c1 B la hla'.out _ (Nat.le_trans hB b2.out.size) K1''.out).mono ?_
        rintro e w3 ⟨rfl, hb3⟩
        have b3 := Lib.hid (Below.after b2.out hb3)
        have K3 := Lib.hid (K2''.out.next (hb3.mono (Nat.le_trans hB b2.out.size)))
        clear hb3 b2 K2'' K1'' y4
        by_cases hf : f = 0
        · subst hf
          have hO1 := hO.out
          have hP1 := hP.out
          simp at hO1 hP1
          subst hO1 hP1
          go_wp2_with fail
          refine (hR.out A2 c2 B lb hlb'.out w3 (Nat.le_trans hB b3.out.size) K3.out).mono ?_
          rintro e w4 ⟨rfl, hb4⟩
          have b4 := Lib.hid (Below.after b3.out hb4)
          clear hb4 b3
          have e1 : IntKind.i64.wrap (1 + (x : Int)) = 1 + (x : Int) := IntWalk.i64_in _ (by omega)
          have e2 : IntKind.i64.wrap (1 + (x : Int) + (y : Int)) = 1 + (x : Int) + (y : Int) := IntWalk.i64_in _ (by omega)
          go_wp2
          go_ret2
          exact ⟨by show _ = Ending.returned (.tuple #[.int .i64 ((1 + x + y : Nat) : Int), nI q]); rw [show ((1 + x + y : Nat) : Int) = 1 + (x : Int) + (y : Int) by omega]; rfl, b4.out⟩
        · have hO1 := hO.out
          have hP1 := hP.out
          simp [hf] at hO1 hP1
          subst hO1 hP1
          have d2 : ((f : Int) != 0) = true := by rw [bne_iff_ne]; omega
          have e1 : IntKind.i64.wrap (1 + (x : Int)) = 1 + (x : Int) := IntWalk.i64_in _ (by omega)
          go_wp2
          go_ret2
          exact ⟨by show _ = Ending.returned (.tuple #[.int .i64 ((1 + x : Nat) : Int), nI f]); rw [show ((1 + x : Nat) : Int) = 1 + (x : Int) by omega]; rfl, b3.out⟩
    · have hO1 := hO.out
      have hP1 := hP.out
      simp [hG] at hO1 hP1
      subst hO1 hP1
      have d2 : ((G : Int) != 0) = true := by rw [bne_iff_ne]; omega
      go_wp2
      go_ret2
      exact ⟨rfl, b2.out⟩
theorem refMay18 (t : Tr) (A : Option Addr) (n c B : Nat) (l : List Bd) (hl : l.map strip = t.pre) (hn : t.size = n) (h5 : n ≤ 5000) (w : World) (hB : B ≤ w.heap.size) (h : LieB w B A n c l) :
    Calls Try.prog 21 #[.slice A n c] w fun e w' => e = .returned (.bool (mayW t)) ∧ Below w.heap.size w w' := by
  have c1 := Lib.hid (refCheck18 t A n c B l hl hn h5 w hB h)
  have hm : Hid (mayW t = ((errF rootW t : Int) == 0)) := by
    show _ = _
    unfold mayW
    by_cases h : errF rootW t = 0
    · rw [h]; rfl
    · rw [beq_eq_false_iff_ne.2 h, beq_eq_false_iff_ne.2 (show ((errF rootW t : Nat) : Int) ≠ 0 by omega)]
  obtain ⟨f, hf⟩ : ∃ x, errF rootW t = x := ⟨_, rfl⟩
  obtain ⟨x, hx⟩ : ∃ x, placeF rootW t = x := ⟨_, rfl⟩
  rw [hf, hx] at c1
  rw [hf] at hm
  clear hl hn h5 hB h hf hx
  go_enter Try.func21, Try.ntmps21
  go_wp2_with fail
  refine c1.out.mono ?_
  rintro e w1 ⟨rfl, hb⟩
  have b1 := Lib.hid hb
  clear hb c1
  go_wp2
  go_ret
  exact ⟨by rw [hm.out]; rfl, b1.out⟩
theorem refRank18 (n : Nat) (hn : n ≤ 100000000) (w : World) : Calls Try.prog 24 #[nI n] w fun e w' => e = .returned (nI (rankN n)) ∧ w = w' := by
  have e0 : IntKind.i64.wrap ((n : Int) + 1) = ((n + 1 : Nat) : Int) := by rw [IntWalk.i64_in _ (by omega)]; omega
  unfold rankN
  obtain ⟨z, hz⟩ : ∃ z, Nat.log2 (n + 1) = z := ⟨_, rfl⟩
  have hz9 : z ≤ 100000001 := by rw [← hz]; exact Nat.le_trans (Nat.log2_le_self _) (by omega)
  rw [hz]
  obtain ⟨m, hm⟩ : ∃ m, n + 1 = m := ⟨_, rfl⟩
  have hm1 : 1 ≤ m := by omega
  have hm9 : m ≤ 100000001 := by omega
  rw [hm] at e0 hz
  clear hm
  go_enter Try.func24, Try.ntmps24
  go_wp2
  go_loop [3, 4] (fun k v => ∃ (a u : Nat), 1 ≤ u ∧ u ≤ 100000001 ∧ k = nI a ∧ v = nI u ∧ a + Nat.log2 u = z) (fun _ v => (intOf v).toNat)
  case atStart => exact ⟨0, m, hm1, hm9, rfl, rfl, by omega⟩
  case round =>
    obtain ⟨a, u, hu, hu9, rfl, rfl, ha⟩ := hrel
    have ha9 : a ≤ 100000001 := by omega
    by_cases hlt : 1 < u
    · have e1 : (u : Int).tdiv 2 = ((u / 2 : Nat) : Int) := by rw [Int.tdiv_eq_ediv_of_nonneg (by omega)]; omega
      have e2 : IntKind.i64.wrap ((a : Int) + 1) = (a : Int) + 1 := IntWalk.i64_in _ (by omega)
      have hg : Hid (a + 1 + Nat.log2 (u / 2) = z) := by show _ = _; rw [log_two hlt] at ha; omega
      clear ha
      go_wp2
      go_round
      case rel => exact ⟨a + 1, u / 2, by omega, by omega, by simp [nI], by simp [nI], hg.out⟩
      case measure => simp [intOf]; omega
    · have hg : a = z := by rw [log_one (by omega)] at ha; omega
      clear ha
      subst hg
      go_wp2
      go_ret
      exact ⟨rfl, rfl⟩
theorem refLeast18 (h : Nat) (hh : h ≤ 20) (w : World) : Calls Try.prog 33 #[nI h] w fun e w' => e = .returned (nI (leastW h)) ∧ w = w' := by
  have top : leastW 20 ≤ 100000 := by decide
  go_enter Try.func33, Try.ntmps33
  go_wp2
  go_loop [3, 4] (fun a i => ∃ m : Nat, m ≤ h ∧ a = nI (leastW m) ∧ i = nI m) (fun _ i => h - (intOf i).toNat)
  case atStart => exact ⟨0, Nat.zero_le _, rfl, rfl⟩
  case round =>
    obtain ⟨m, hm, rfl, rfl⟩ := hrel
    have f1 : leastW m ≤ 100000 := Nat.le_trans (leastW_le (show m ≤ 20 by omega)) top
    have f3 : leastW (m + 1) = (100 * leastW m + 70) / 71 := by rw [leastW]
    obtain ⟨x, hx⟩ : ∃ x, leastW m = x := ⟨_, rfl⟩
    rw [hx] at f1 f3
    have hm9 : m ≤ 100 := by omega
    by_cases hlt : m < h
    · rw [hx]
      have e1 : IntKind.i64.wrap (100 * (x : Int)) = 100 * (x : Int) := IntWalk.i64_in _ (by omega)
      have e2 : IntKind.i64.wrap (100 * (x : Int) + 70) = 100 * (x : Int) + 70 := IntWalk.i64_in _ (by omega)
      have e3 : (100 * (x : Int) + 70).tdiv 71 = (((100 * x + 70) / 71 : Nat) : Int) := by rw [Int.tdiv_eq_ediv_of_nonneg (by omega)]; omega
      have f3' := Lib.hid f3
      clear f3 hx top
      go_wp2
      go_round
      case rel => exact ⟨m + 1, by omega, by rw [f3'.out]; simp [nI], by simp [nI]⟩
      case measure => simp [intOf]; omega
    · obtain rfl : m = h := by omega
      clear f3 top
      go_wp2
      go_ret
      exact ⟨rfl, rfl⟩
end Go.Proofs.Ytifhnaelkjfmdaa
