/- The document's own answers of layer 14: Check, May, Make, Least. -/
import Derived.Test.YtifhnaelkjfmdaaL14Ref
namespace Go.Proofs.Ytifhnaelkjfmdaa
open Go.RowKit Go.Proofs.Treem
set_option maxRecDepth 100000

set_option maxHeartbeats 4000000 in
theorem refCheck14 : ∀ (t : Tr) (A : Option Addr) (n c B : Nat) (l : List Bd), l.map strip = t.pre → t.size = n → n ≤ 5000 → ∀ w : World, B ≤ w.heap.size → LieB w B A n c l →
    Calls Try.prog 36 #[.slice A n c] w fun e w' => e = .returned (.tuple #[nI (placeA t), nI (errA t)]) ∧ Below w.heap.size w w' := by
  intro t
  induction t with
  | e =>
    intro A n c B l hl hn h5 w hB h
    obtain rfl : n = 0 := hn.symm
    clear h hl hB
    go_enter Try.func36, Try.ntmps36
    go_wp2
    go_ret2
    exact ⟨rfl, Below.refl _ _⟩
  | n tl k v g tr ihl ihr =>
    intro A n c B l hl hn h5 w hB h
    obtain ⟨i, hi⟩ : ∃ i, tl.size = i := ⟨_, rfl⟩
    obtain ⟨j, hj⟩ : ∃ j, tr.size = j := ⟨_, rfl⟩
    have hn2 : n = 1 + i + j := by rw [← hn, Tr.size, hi, hj]
    have cO := Lib.hid (refOne14 tl tr k v g A n c B l hl (by omega) w hB h)
    have hparts := Lib.hid (fun w hB h => parts9_any A n c B l tl tr k v g hl w hB h (by omega))
    rw [hi, hj] at hparts
    have hL := Lib.hid (fun A c B la hla w hB h => ihl A i c B la hla hi (by omega) w hB h)
    have hR := Lib.hid (fun A c B la hla w hB h => ihr A j c B la hla hj (by omega) w hB h)
    have hpl := place_le tl
    have hpr := place_le tr
    rw [hi] at hpl
    rw [hj] at hpr
    have hE : errA (.n tl k v g tr) = if rootA (.n tl k v g tr) ≠ 0 then rootA (.n tl k v g tr) else if errA tl ≠ 0 then errA tl else errA tr := by rw [errA]
    have hP : placeA (.n tl k v g tr) = if rootA (.n tl k v g tr) ≠ 0 then 0 else if errA tl ≠ 0 then 1 + placeA tl else 1 + placeA tl + placeA tr := by rw [placeA]
    rw [hE, hP]
    obtain ⟨R, hR0⟩ : ∃ R, rootA (.n tl k v g tr) = R := ⟨_, rfl⟩
    obtain ⟨x, hx⟩ : ∃ x, placeA tl = x := ⟨_, rfl⟩
    obtain ⟨y, hy⟩ : ∃ x, placeA tr = x := ⟨_, rfl⟩
    obtain ⟨f, hf⟩ : ∃ x, errA tl = x := ⟨_, rfl⟩
    obtain ⟨q, hq⟩ : ∃ x, errA tr = x := ⟨_, rfl⟩
    rw [hR0, hx, hy, hf, hq]
    rw [hR0] at cO
    rw [hx, hf] at hL
    rw [hy, hq] at hR
    rw [hx] at hpl
    rw [hy] at hpr
    have d1 : ((n : Int) == 0) = false := by simp; omega
    have H := Lib.hid h
    have hx9 : x ≤ 5000 := by omega
    have hy9 : y ≤ 5000 := by omega
    clear hl h ihl ihr hi hj hn hn2 hE hP hR0 hx hy hf hq h5 hpl hpr
    by_cases hz : R = 0
    · subst hz
      rw [if_neg (Nat.lt_irrefl 0 ∘ Nat.pos_of_ne_zero), if_neg (Nat.lt_irrefl 0 ∘ Nat.pos_of_ne_zero)]
      obtain ⟨E, hE0⟩ : ∃ E, (if f ≠ 0 then f else q) = E := ⟨_, rfl⟩
      obtain ⟨P, hP0⟩ : ∃ P, (if f ≠ 0 then 1 + x else 1 + x + y) = P := ⟨_, rfl⟩
      rw [hE0, hP0]
      have hE := Lib.hid hE0
      have hP := Lib.hid hP0
      clear hE0 hP0
      go_enter Try.func36, Try.ntmps36
      go_wp2_with fail
      refine cO.out.mono ?_
      rintro e w0 ⟨rfl, hb⟩
      have b0 := Lib.hid hb
      clear hb cO
      go_wp2_with fail
      refine (hparts.out w0 (Nat.le_trans hB b0.out.size) (H.out.next (b0.out.mono hB))).mono ?_
      rintro e w1 ⟨A1, c1, A2, c2, b, la, lb, rfl, rfl, hx, hla, hlb, K1, K2, hb⟩
      have b1 := Lib.hid (Below.after b0.out hb)
      have hla' := Lib.hid hla
      have hlb' := Lib.hid hlb
      have K1' := Lib.hid ((K1.next (hb.mono (Nat.le_trans hB b0.out.size))).next ((Below.refl B w1).alloc (Nat.le_trans hB b1.out.size) (.cells #[K b.key, K b.val, K b.sum, K b.size, G64 b.tag, .bool b.left, .bool b.right] 44)))
      have K2' := Lib.hid ((K2.next (hb.mono (Nat.le_trans hB b0.out.size))).next ((Below.refl B w1).alloc (Nat.le_trans hB b1.out.size) (.cells #[K b.key, K b.val, K b.sum, K b.size, G64 b.tag, .bool b.left, .bool b.right] 44)))
      clear hb hx hla hlb K1 K2 b0 hparts H
      go_wp2_with fail
      have b2 := Lib.hid (b1.out.alloc b1.out.size (.cells #[K b.key, K b.val, K b.sum, K b.size, G64 b.tag, .bool b.left, .bool b.right] 44))
      refine (hL.out A1 c1 B la hla'.out _ (Nat.le_trans hB b2.out.size) K1'.out).mono ?_
      rintro e w3 ⟨rfl, hb3⟩
      have b3 := Lib.hid (Below.after b2.out hb3)
      have K3' := Lib.hid (K2'.out.next (hb3.mono (Nat.le_trans hB b2.out.size)))
      clear hb3 b2 b1 K2' K1'
      by_cases hf : f = 0
      · subst hf
        obtain rfl : q = E := by have := hE.out; rwa [if_neg (Nat.lt_irrefl 0 ∘ Nat.pos_of_ne_zero)] at this
        obtain rfl : 1 + x + y = P := by have := hP.out; rwa [if_neg (Nat.lt_irrefl 0 ∘ Nat.pos_of_ne_zero)] at this
        clear hE hP
        go_wp2_with fail
        refine (hR.out A2 c2 B lb hlb'.out w3 (Nat.le_trans hB b3.out.size) K3'.out).mono ?_
        rintro e w4 ⟨rfl, hb4⟩
        have b4 := Lib.hid (Below.after b3.out hb4)
        clear hb4 b3
        have e1 : IntKind.i64.wrap (1 + (x : Int)) = 1 + (x : Int) := IntWalk.i64_in _ (by omega)
        have e2 : IntKind.i64.wrap (1 + (x : Int) + (y : Int)) = 1 + (x : Int) + (y : Int) := IntWalk.i64_in _ (by omega)
        go_wp2
        go_ret2
        exact ⟨by show _ = Ending.returned (.tuple #[.int .i64 ((1 + x + y : Nat) : Int), nI q]); rw [show ((1 + x + y : Nat) : Int) = 1 + (x : Int) + (y : Int) by omega]; rfl, b4.out⟩
      · obtain rfl : f = E := by have := hE.out; rwa [if_pos hf] at this
        obtain rfl : 1 + x = P := by have := hP.out; rwa [if_pos hf] at this
        clear hE hP
        have d2 : ((f : Int) != 0) = true := by rw [bne_iff_ne]; omega
        have e1 : IntKind.i64.wrap (1 + (x : Int)) = 1 + (x : Int) := IntWalk.i64_in _ (by omega)
        go_wp2
        go_ret2
        exact ⟨by show _ = Ending.returned (.tuple #[.int .i64 ((1 + x : Nat) : Int), nI f]); rw [show ((1 + x : Nat) : Int) = 1 + (x : Int) by omega]; rfl, b3.out⟩
    · rw [if_pos hz, if_pos hz]
      have d2 : ((R : Int) != 0) = true := by rw [bne_iff_ne]; omega
      go_enter Try.func36, Try.ntmps36
      go_wp2_with fail
      refine cO.out.mono ?_
      rintro e w0 ⟨rfl, hb⟩
      have b0 := Lib.hid hb
      clear hb cO
      go_wp2
      go_ret2
      exact ⟨rfl, b0.out⟩
theorem refMay14 (t : Tr) (A : Option Addr) (n c B : Nat) (l : List Bd) (hl : l.map strip = t.pre) (hn : t.size = n) (h5 : n ≤ 5000) (w : World) (hB : B ≤ w.heap.size) (h : LieB w B A n c l) :
    Calls Try.prog 40 #[.slice A n c] w fun e w' => e = .returned (.bool (mayA t)) ∧ Below w.heap.size w w' := by
  have c1 := Lib.hid (refCheck14 t A n c B l hl hn h5 w hB h)
  have hm : Hid (mayA t = ((errA t : Int) == 0)) := by
    show _ = _
    unfold mayA
    by_cases h : errA t = 0
    · rw [h]; rfl
    · rw [beq_eq_false_iff_ne.2 h, beq_eq_false_iff_ne.2 (show ((errA t : Nat) : Int) ≠ 0 by omega)]
  obtain ⟨f, hf⟩ : ∃ x, errA t = x := ⟨_, rfl⟩
  obtain ⟨x, hx⟩ : ∃ x, placeA t = x := ⟨_, rfl⟩
  rw [hf, hx] at c1
  rw [hf] at hm
  clear hl hn h5 hB h hf hx
  go_enter Try.func40, Try.ntmps40
  go_wp2_with fail
  refine c1.out.mono ?_
  rintro e w1 ⟨rfl, hb⟩
  have b1 := Lib.hid hb
  clear hb c1
  go_wp2
  go_ret
  exact ⟨by rw [hm.out]; rfl, b1.out⟩
set_option maxHeartbeats 4000000 in
theorem refMake14 (tl tr : Tr) (k v : BitVec 64) (A A' : Option Addr) (i j c c' : Nat) (la lb : List Bd) (hla : la.map strip = tl.pre) (hlb : lb.map strip = tr.pre) (hi : tl.size = i) (hj : tr.size = j) (n : Nat) (hn : 1 + i + j = n) (h5 : n ≤ 5000) (w : World) (h : LieB w w.heap.size A i c la) (q : LieB w w.heap.size A' j c' lb) :
    Calls Try.prog 44 #[.slice A i c, K k, K v, .slice A' j c'] w (MadeB w n (makeA tl k v tr).told) := by
  have t1 := Lib.hid (refTag14 tl A i c _ la hla w h)
  have t2 := Lib.hid (refTag14 tr A' j c' _ lb hlb w q)
  have cN := Lib.hid (node9 tl tr k v (tagA tl tr) A A' i j c c' la lb hla hlb hi hj (by omega) w h q)
  have hsz : (makeA tl k v tr).told.length = n := by rw [told_len, makeA, Tr.size, hi, hj, hn]
  rw [hn] at cN
  have hT : Tr.told (.n tl k v (tagA tl tr) tr) = (makeA tl k v tr).told := rfl
  rw [hT] at cN
  have hg : ∀ x, G64 x = .int .u64 (x.toNat : Int) := fun x => rfl
  rw [hg] at t1 t2 cN
  unfold tagA at cN
  obtain ⟨P, hP⟩ : ∃ P, tl.tag.toNat = P := ⟨_, rfl⟩
  obtain ⟨Q, hQ⟩ : ∃ Q, tr.tag.toNat = Q := ⟨_, rfl⟩
  have up1 := tag_up P
  have up2 := tag_up Q
  rw [hP] at t1
  rw [hQ] at t2
  rw [hP, hQ] at cN
  have hsz' := Lib.hid hsz
  clear hP hQ hg hT hsz h q hla hlb hi hj hn
  rcases Nat.lt_or_ge P Q with hPQ | hPQ
  · rw [Nat.max_eq_right (Nat.le_of_lt hPQ)] at cN
    obtain ⟨z, hz⟩ : ∃ z, ((BitVec.ofNat 64 (Q + 1)).toNat : Int) = z := ⟨_, rfl⟩
    rw [hz] at up2 cN
    clear up1 hz
    go_enter Try.func44, Try.ntmps44
    go_wp2_with (first
      | (go_at_call 38; (with_reducible refine t1.out.mono ?_); rintro e w' ⟨rfl, rfl⟩)
      | (go_at_call 38; (with_reducible refine t2.out.mono ?_); rintro e w' ⟨rfl, rfl⟩)
      | fail)
    all_goals first
      | (exfalso; omega)
      | (refine cN.out.mono ?_
         rintro e w1 ⟨v', rfl, ho, hb⟩
         obtain ⟨A3, c3, rfl, k3⟩ := LieB.of_own hsz'.out (by omega) ho
         have b1 := Lib.hid hb
         have k3' := Lib.hid k3
         clear hb k3 ho
         go_wp2
         go_ret
         exact ⟨A3, c3, rfl, k3'.out, b1.out⟩)
  · rw [Nat.max_eq_left hPQ] at cN
    obtain ⟨z, hz⟩ : ∃ z, ((BitVec.ofNat 64 (P + 1)).toNat : Int) = z := ⟨_, rfl⟩
    rw [hz] at up1 cN
    clear up2 hz
    go_enter Try.func44, Try.ntmps44
    go_wp2_with (first
      | (go_at_call 38; (with_reducible refine t1.out.mono ?_); rintro e w' ⟨rfl, rfl⟩)
      | (go_at_call 38; (with_reducible refine t2.out.mono ?_); rintro e w' ⟨rfl, rfl⟩)
      | fail)
    all_goals first
      | (exfalso; omega)
      | (refine cN.out.mono ?_
         rintro e w1 ⟨v', rfl, ho, hb⟩
         obtain ⟨A3, c3, rfl, k3⟩ := LieB.of_own hsz'.out (by omega) ho
         have b1 := Lib.hid hb
         have k3' := Lib.hid k3
         clear hb k3 ho
         go_wp2
         go_ret
         exact ⟨A3, c3, rfl, k3'.out, b1.out⟩)
theorem least_few {h : Nat} (hh : h ≤ 20) : leastN h ≤ 20000 := Nat.le_trans (least_le hh) (by decide)
theorem refLeast14 (h : Nat) (hh : h ≤ 19) (w : World) : Calls Try.prog 47 #[nI h] w fun e w' => e = .returned (nI (leastN h)) ∧ w = w' := by
  go_enter Try.func47, Try.ntmps47
  go_wp2
  go_loop [3, 4, 5] (fun a b i => ∃ m : Nat, m ≤ h ∧ a = nI (leastN m) ∧ b = nI (leastN (m + 1)) ∧ i = nI m) (fun _ _ i => h - (intOf i).toNat)
  case atStart => exact ⟨0, Nat.zero_le _, rfl, rfl, rfl⟩
  case round =>
    obtain ⟨m, hm, rfl, rfl, rfl⟩ := hrel
    have f1 := least_few (show m ≤ 20 by omega)
    have f2 := least_few (show m + 1 ≤ 20 by omega)
    have f3 : leastN (m + 1 + 1) = leastN m + leastN (m + 1) + 1 := rfl
    obtain ⟨x, hx⟩ : ∃ x, leastN m = x := ⟨_, rfl⟩
    obtain ⟨y, hy⟩ : ∃ x, leastN (m + 1) = x := ⟨_, rfl⟩
    rw [hx, hy] at f3
    rw [hx] at f1
    rw [hy] at f2
    have hm9 : m ≤ 100 := by omega
    by_cases hlt : m < h
    · rw [hx, hy]
      have e1 : IntKind.i64.wrap ((x : Int) + (y : Int)) = (x : Int) + y := IntWalk.i64_in _ (by omega)
      have e2 : IntKind.i64.wrap ((x : Int) + (y : Int) + 1) = (x : Int) + y + 1 := IntWalk.i64_in _ (by omega)
      have f3' := Lib.hid f3
      have hy' := Lib.hid hy
      clear f3 hx hy f1 f2
      go_wp2
      go_round
      case rel => exact ⟨m + 1, by omega, by rw [hy'.out], by rw [f3'.out]; simp [nI], by simp [nI]⟩
      case measure => simp [intOf]; omega
    · obtain rfl : m = h := by omega
      go_wp2
      go_ret
      exact ⟨rfl, rfl⟩
end Go.Proofs.Ytifhnaelkjfmdaa
