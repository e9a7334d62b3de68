/- The document's own answers of layer 10: Deep. -/
import Derived.Test.YtadncdcblckpjaaL10Keys
namespace Go.Proofs.Ytadncdcblckpjaa
open Go.RowKit Go.Proofs.Rowm Go.Proofs.Treem

set_option maxHeartbeats 4000000 in
theorem refDeep10 (key : BitVec 64) : ∀ (t : Tr) (A : Option Addr) (n c B : Nat) (l : List Bd), l.map strip = t.pre → t.size = n → n ≤ 1000 → ∀ w : World, B ≤ w.heap.size → LieB w B A n c l →
    Calls Try.prog 11 #[.slice A n c, K key] w fun e w' => e = .returned (.tuple #[nI (t.deep key), .bool (t.has key)]) ∧ Below w.heap.size w w' := by
  intro t
  induction t with
  | e =>
    intro A n c B l hl hn h5 w hB h
    have c0 := Lib.hid (refHas_any A n c B l key w h)
    rw [hl] at c0
    have c1 : Hid (Calls Try.prog 25 #[.slice A n c, K key] w fun e w' => e = .returned (.bool false) ∧ w = w') := c0.out
    clear c0 h hl
    go_enter Try.func11, Try.ntmps11
    go_wp2_with (go_at_call 25; (with_reducible refine c1.out.mono ?_); rintro e w' ⟨rfl, rfl⟩)
    go_ret2
    exact ⟨rfl, Below.refl _ _⟩
  | n tl k v g tr ihl ihr =>
    intro A n c B l hl hn h5 w hB h
    obtain ⟨i, hi⟩ : ∃ i, tl.size = i := ⟨_, rfl⟩
    obtain ⟨j, hj⟩ : ∃ j, tr.size = j := ⟨_, rfl⟩
    have hn2 : n = 1 + i + j := by rw [← hn, Tr.size, hi, hj]
    have hparts := Lib.hid (parts9_any A n c B l tl tr k v g hl w hB h (by omega))
    rw [hi, hj] at hparts
    have c0 := Lib.hid (refHas_any A n c B l key w h)
    rw [hl, has_pre] at c0
    have hL := Lib.hid (fun A c B la hla w hB h => ihl A i c B la hla hi (by omega) w hB h)
    have hR := Lib.hid (fun A c B la hla w hB h => ihr A j c B la hla hj (by omega) w hB h)
    have hdl : tl.deep key ≤ 1000 := by
      cases hh : tl.has key with
      | true => have := (deep_yes key tl hh).2; have := high_le tl; omega
      | false => rw [deep_no key tl hh]; omega
    have hdr : tr.deep key ≤ 1000 := by
      cases hh : tr.has key with
      | true => have := (deep_yes key tr hh).2; have := high_le tr; omega
      | false => rw [deep_no key tr hh]; omega
    obtain ⟨x, hx⟩ : ∃ x, tl.deep key = x := ⟨_, rfl⟩
    obtain ⟨y, hy⟩ : ∃ y, tr.deep key = y := ⟨_, rfl⟩
    obtain ⟨hl1, hhl⟩ : ∃ b, tl.has key = b := ⟨_, rfl⟩
    obtain ⟨hr1, hhr⟩ : ∃ b, tr.has key = b := ⟨_, rfl⟩
    have hans : (Tr.n tl k v g tr).deep key = if hl1 then x + 1 else if k = key then 1 else if hr1 then y + 1 else 0 := by rw [Tr.deep, hx, hy, hhl, hhr]
    have hasn : (Tr.n tl k v g tr).has key = (hl1 || decide (k = key) || hr1) := by rw [Tr.has, hhl, hhr]
    rw [hasn] at c0
    rw [hans, hasn]
    rw [hx, hhl] at hL
    rw [hy, hhr] at hR
    rw [hx] at hdl
    rw [hy] at hdr
    have hpl := Lib.hid (has_pre key tl)
    rw [hhl] at hpl
    have d1 : ((n : Int) == 0) = false := by simp; omega
    clear h hl ihl ihr hi hj hn hn2 hx hy hans hasn hhl hhr h5
    cases hc : (hl1 || decide (k = key) || hr1) with
    | false =>
      rw [hc] at c0
      obtain ⟨⟨rfl, hk⟩, rfl⟩ : (hl1 = false ∧ decide (k = key) = false) ∧ hr1 = false := by simpa [Bool.or_eq_false_iff] using hc
      rw [if_neg (by simp), if_neg (of_decide_eq_false hk), if_neg (by simp)]
      clear hL hR hparts hpl hc hk
      go_enter Try.func11, Try.ntmps11
      go_wp2_with (go_at_call 25; (with_reducible refine c0.out.mono ?_); rintro e w' ⟨rfl, rfl⟩)
      go_ret2
      exact ⟨rfl, Below.refl _ _⟩
    | true =>
      rw [hc] at c0
      have hc' := Lib.hid hc
      obtain ⟨D, hD0⟩ : ∃ D, (if hl1 = true then x + 1 else if k = key then 1 else if hr1 = true then y + 1 else 0) = D := ⟨_, rfl⟩
      rw [hD0]
      have hD := Lib.hid hD0
      clear hD0
      clear hc
      go_enter Try.func11, Try.ntmps11
      go_wp2_with (go_at_call 25; (with_reducible refine c0.out.mono ?_); rintro e w' ⟨rfl, rfl⟩)
      refine hparts.out.mono ?_
      rintro e w1 ⟨A1, c1, A2, c2, b, la, lb, rfl, rfl, hb, hla, hlb, K1, K2, hb1⟩
      clear hparts c0
      have b1 := Lib.hid hb1
      have hla' := Lib.hid hla
      have hlb' := Lib.hid hlb
      have K1' := Lib.hid K1
      have K2' := Lib.hid K2
      have hbk : Hid (b.key = k) := congrArg St.key hb
      clear hb1 hb hla hlb K1 K2
      go_wp2_with fail
      obtain ⟨W2, hW2⟩ : ∃ W2, w1.alloc (.cells #[K b.key, K b.val, K b.sum, K b.size, G64 b.tag, .bool b.left, .bool b.right] 55) = W2 := ⟨_, rfl⟩
      have gx : Hid (Has W2 w1.heap.size 55 #[K b.key, K b.val, K b.sum, K b.size, G64 b.tag, .bool b.left, .bool b.right]) := hW2 ▸ Has.new w1 _ _
      have b2 : Hid (Below w.heap.size w W2) := hW2 ▸ b1.out.alloc b1.out.size _
      rw [hW2]
      clear hW2 b1
      obtain ⟨p, hp⟩ : ∃ p, w1.heap.size = p := ⟨_, rfl⟩
      rw [hp] at gx ⊢
      clear hp
      rw [hbk.out] at gx
      obtain ⟨y0, -⟩ := gx.out.seven
      have cH : Hid (Calls Try.prog 25 #[.slice A1 i c1, K key] W2 fun e w' => e = .returned (.bool hl1) ∧ W2 = w') := by
        have := refHas_any A1 i c1 B la key W2 (K1'.out.next (b2.out.mono hB))
        rw [hla'.out, hpl.out] at this
        exact this
      cases hl1 with
      | true =>
        have e1 : (x : Int) + 1 = (D : Int) := by have := hD.out; rw [if_pos rfl] at this; omega
        go_wp2_with (go_at_call 25; (with_reducible refine cH.out.mono ?_); rintro e w' ⟨rfl, rfl⟩)
        refine (hL.out A1 c1 B la hla'.out W2 (Nat.le_trans hB b2.out.size) (K1'.out.next (b2.out.mono hB))).mono ?_
        rintro e w3 ⟨rfl, hb3⟩
        have b3 := Lib.hid (Below.after b2.out hb3)
        clear hb3
        go_wp2
        go_ret2
        exact ⟨rfl, b3.out⟩
      | false =>
        by_cases hk : k = key
        · have d2 : (k.toInt == key.toInt) = true := by rw [hk]; exact beq_self_eq_true _
          have e1 : Hid (D = 1) := by have := hD.out; rw [if_neg (by simp), if_pos hk] at this; exact this.symm
          clear hk
          go_wp2_with (go_at_call 25; (with_reducible refine cH.out.mono ?_); rintro e w' ⟨rfl, rfl⟩)
          go_ret2
          exact ⟨by rw [e1.out]; rfl, b2.out⟩
        · have hr : hr1 = true := by have := hc'.out; simpa [hk] using this
          subst hr
          have e1 : (y : Int) + 1 = (D : Int) := by have := hD.out; rw [if_neg (by simp), if_neg hk, if_pos rfl] at this; omega
          have d2 : (k.toInt == key.toInt) = false := by rw [beq_eq_false_iff_ne]; exact fun e => hk (BitVec.eq_of_toInt_eq e)
          clear hk
          go_wp2_with (go_at_call 25; (with_reducible refine cH.out.mono ?_); rintro e w' ⟨rfl, rfl⟩)
          refine (hR.out A2 c2 B lb hlb'.out W2 (Nat.le_trans hB b2.out.size) (K2'.out.next (b2.out.mono hB))).mono ?_
          rintro e w3 ⟨rfl, hb3⟩
          have b3 := Lib.hid (Below.after b2.out hb3)
          clear hb3
          go_wp2
          go_ret2
          exact ⟨rfl, b3.out⟩
end Go.Proofs.Ytadncdcblckpjaa
