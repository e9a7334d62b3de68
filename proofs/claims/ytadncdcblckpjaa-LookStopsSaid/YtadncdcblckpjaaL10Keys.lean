/- The document's own answers of layer 10: Keys, Height. -/
import Derived.Test.YtadncdcblckpjaaL10Pairs
namespace Go.Proofs.Ytadncdcblckpjaa
open Go.RowKit Go.Proofs.Rowm Go.Proofs.Treem

theorem info_int64 : (Try.prog.info? 2).map (fun i => (i.zero, i.size, i.bytes)) = some (some (.int .i64 0), 1, 8) := by kernel_rfl
/-- the keys of pairs, as cells -/
def keysV (l : List Pr) : List Value := l.map fun x => K x.1
theorem keysV_take (l : List Pr) (k : Nat) (h : k < l.length) : keysV (l.take (k + 1)) = keysV (l.take k) ++ [K l[k].1] := by
  simp only [keysV]
  rw [List.take_succ_eq_append_getElem h, List.map_append]; rfl
set_option maxHeartbeats 2000000 in
theorem refKeys10 (t : Tr) (A : Option Addr) (n c B : Nat) (l : List Bd) (hl : l.map strip = t.pre) (hn : t.size = n) (h5 : n ≤ 1000) (w : World) (hB : B ≤ w.heap.size) (h : LieB w B A n c l) :
    Calls Try.prog 20 #[.slice A n c] w fun e w' => ∃ v, e = .returned v ∧ w'.ownsRow w.heap.size 2 1 v n (keysV t.pairs) ∧ Below w.heap.size w w' := by
  obtain ⟨i0, hin, hz0, hz1, hz2⟩ := info_parts info_int64
  have c0 := Lib.hid (refPairs9 t A n c B l hl hn h5 w hB h)
  obtain ⟨ps, hps⟩ : ∃ ps, t.pairs = ps := ⟨_, rfl⟩
  have hpl : Hid (ps.length = n) := by show ps.length = n; rw [← hps, pairs_len, hn]
  rw [hps] at c0 ⊢
  clear hl hn hB h hps
  go_enter Try.func20, Try.ntmps20
  go_wp2_with fail
  refine c0.out.mono ?_
  rintro e w1 ⟨v1, rfl, o1, b1⟩
  obtain ⟨A1, c1, rfl, -, -, -⟩ := own_slice o1
  have r1 := Lib.hid (Row.of_own o1)
  have hb1 := Lib.hid b1
  clear o1 b1 c0
  go_wp2
  go_loopw [3, 5] (fun v i wr => ∃ k : Nat, k ≤ n ∧ i = .int .i64 k ∧ wr.ownsRow w1.heap.size 2 1 v k (keysV (ps.take k)) ∧ Below w1.heap.size w1 wr) (fun _ i _ => n - (intOf i).toNat)
  case atStart => exact ⟨0, Nat.zero_le _, rfl, World.ownsRow_nil _ _ _ _, Below.refl _ _⟩
  case round =>
    obtain ⟨k, hk, rfl, ho, hb⟩ := hrel
    have hb' := Lib.hid hb
    clear hb
    by_cases hlt : k < n
    · have hkl : k < ps.length := by rw [hpl.out]; exact hlt
      obtain ⟨A3, c3, rfl, -, -, -⟩ := own_slice ho
      have htk := Lib.hid (keysV_take ps k hkl)
      obtain ⟨ad, rfl, hb2, g1, g2⟩ := pair_at (r1.out.below hb'.out) k hkl
      have ho' := Lib.hid ho
      clear ho g2
      go_wp2_with (at_builtin; refine wpList_append_row rfl _ _ 40 rfl w1.heap.size 2 i0 (.int .i64 0) 1 8 Try.underlying40 hin hz0 hz1 hz2 rfl (by decide) _ k _ rfl (ho'.out.alloc _) (some ⟨wr.heap.size, 0, none⟩) 1 1 [K ps[k].1] rfl (by simp) (Nat.le_refl _) rfl _ (Has.new wr 2 #[K ps[k].1]).row (by simp [Value.oneCell']) (by unfold maxLen; omega) (by omega) (by have := hb'.out.size; simp; omega) ?_)
      intro v2 w2 hown hgrow
      have o2 : Hid (w2.ownsRow w1.heap.size 2 1 v2 (k + 1) (keysV (ps.take (k + 1)))) := by
        show w2.ownsRow _ _ _ _ _ _
        rw [htk.out]; exact hown
      have b2 := Lib.hid ((hb'.out.alloc hb'.out.size _).grown hgrow (by have := hb'.out.size; simp; omega) (fun r e => (ho'.out.lt r e).1))
      clear hown hgrow
      go_wp2
      go_roundw
      case rel => exact ⟨k + 1, by omega, by go_num, o2.out, b2.out⟩
      case measure => simp [intOf]; omega
    · have ho' := Lib.hid ho
      clear ho
      obtain rfl : k = n := by omega
      go_wp2
      go_ret
      refine ⟨_, rfl, ?_, Below.after hb1.out hb'.out⟩
      have := owned_base ho'.out hb1.out.size
      rw [List.take_of_length_le (by rw [hpl.out]; exact Nat.le_refl _)] at this
      exact this
set_option maxHeartbeats 4000000 in
theorem refHeight9 : ∀ (t : Tr) (A : Option Addr) (n c B : Nat) (l : List Bd), l.map strip = t.pre → t.size = n → n ≤ 1000 → ∀ w : World, B ≤ w.heap.size → LieB w B A n c l →
    Calls Try.prog 22 #[.slice A n c] w fun e w' => e = .returned (nI t.high) ∧ Below w.heap.size w w' := by
  intro t
  induction t with
  | e =>
    intro A n c B l hl hn h5 w hB h
    obtain rfl : n = 0 := hn.symm
    go_enter Try.func22, Try.ntmps22
    go_wp2
    go_ret
    exact ⟨rfl, Below.refl _ _⟩
  | n tl k v g tr ihl ihr =>
    intro A n c B l hl hn h5 w hB h
    obtain ⟨i, hi⟩ : ∃ i, tl.size = i := ⟨_, rfl⟩
    obtain ⟨j, hj⟩ : ∃ j, tr.size = j := ⟨_, rfl⟩
    have hn2 : n = 1 + i + j := by rw [← hn, Tr.size, hi, hj]
    have hparts := Lib.hid (parts9_any A n c B l tl tr k v g hl w hB h (by omega))
    rw [hi, hj] at hparts
    have hhl := high_le tl
    have hhr := high_le tr
    have hL := Lib.hid (fun A c B la hla w hB h => ihl A i c B la hla hi (by omega) w hB h)
    have hR := Lib.hid (fun A c B la hla w hB h => ihr A j c B la hla hj (by omega) w hB h)
    obtain ⟨x, hx⟩ : ∃ x, tl.high = x := ⟨_, rfl⟩
    obtain ⟨y, hy⟩ : ∃ y, tr.high = y := ⟨_, rfl⟩
    rw [hx] at hL
    rw [hy] at hR
    have hx9 : x ≤ 1000 := by omega
    have hy9 : y ≤ 1000 := by omega
    have hans : (Tr.n tl k v g tr).high = 1 + max x y := by rw [Tr.high, hx, hy]
    obtain ⟨m, hm0⟩ : ∃ m, 1 + max x y = m := ⟨_, rfl⟩
    rw [hans, hm0]
    have hm := Lib.hid hm0
    have d1 : ((n : Int) == 0) = false := by simp; omega
    clear h hl ihl ihr hi hj hn hn2 hhl hhr hx hy hans hm0 h5
    go_enter Try.func22, Try.ntmps22
    go_wp2_with fail
    refine hparts.out.mono ?_
    rintro e w1 ⟨A1, c1, A2, c2, b, la, lb, rfl, rfl, hx, hla, hlb, K1, K2, hb⟩
    clear hparts
    have b1 := Lib.hid hb
    have hla' := Lib.hid hla
    have hlb' := Lib.hid hlb
    have K1' := Lib.hid K1
    have K2' := Lib.hid K2
    clear hb hx hla hlb K1 K2
    go_wp2_with fail
    have b2 := Lib.hid (b1.out.alloc b1.out.size (.cells #[K b.key, K b.val, K b.sum, K b.size, G64 b.tag, .bool b.left, .bool b.right] 55))
    refine (hL.out A1 c1 B la hla'.out _ (Nat.le_trans hB b2.out.size) (K1'.out.next (b2.out.mono hB))).mono ?_
    rintro e w3 ⟨rfl, hb3⟩
    have b3 := Lib.hid (Below.after b2.out hb3)
    clear hb3 b2 b1
    go_wp2_with fail
    refine (hR.out A2 c2 B lb hlb'.out w3 (Nat.le_trans hB b3.out.size) (K2'.out.next (b3.out.mono hB))).mono ?_
    rintro e w4 ⟨rfl, hb4⟩
    have b4 := Lib.hid (Below.after b3.out hb4)
    clear hb4 b3
    by_cases hxy : x < y
    · have e1 : (1 : Int) + (y : Int) = (m : Int) := by have := hm.out; rw [Nat.max_eq_right (Nat.le_of_lt hxy)] at this; omega
      go_wp2
      all_goals first
        | (exfalso; omega)
        | (go_ret; exact ⟨rfl, b4.out⟩)
    · have e1 : (1 : Int) + (x : Int) = (m : Int) := by have := hm.out; rw [Nat.max_eq_left (by omega)] at this; omega
      go_wp2
      all_goals first
        | (exfalso; omega)
        | (go_ret; exact ⟨rfl, b4.out⟩)
end Go.Proofs.Ytadncdcblckpjaa
