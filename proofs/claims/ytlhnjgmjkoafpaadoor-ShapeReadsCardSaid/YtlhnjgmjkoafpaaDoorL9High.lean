/- The document's own answer of layer 9: Height. -/
import Derived.Test.YtlhnjgmjkoafpaaDoorL9Parts
import Derived.Test.YtlhnjgmjkoafpaaDoorL10Math
namespace Go.Proofs.YtlhnjgmjkoafpaaDoor
open Go.RowKit Go.Proofs.Treem

/-- a number of 64 bits without its sign, as Go's int -/
abbrev nI (n : Nat) : Value := .int .i64 (n : Int)
set_option maxHeartbeats 4000000 in
theorem refHeight9 : ∀ (t : Tr) (A : Option Addr) (n c B : Nat) (l : List Bd), l.map strip = t.pre → t.size = n → n ≤ 5000 → ∀ w : World, B ≤ w.heap.size → LieB w B A n c l →
    Calls Tryd.prog 69 #[.slice A n c] w fun e w' => e = .returned (nI t.high) ∧ Below w.heap.size w w' := by
  intro t
  induction t with
  | e =>
    intro A n c B l hl hn h5 w hB h
    obtain rfl : n = 0 := hn.symm
    go_enter Tryd.func69, Tryd.ntmps69
    go_wp2
    go_ret
    exact ⟨rfl, Below.refl _ _⟩
  | n tl k v g tr ihl ihr =>
    intro A n c B l hl hn h5 w hB h
    obtain ⟨i, hi⟩ : ∃ i, tl.size = i := ⟨_, rfl⟩
    obtain ⟨j, hj⟩ : ∃ j, tr.size = j := ⟨_, rfl⟩
    have hn2 : n = 1 + i + j := by rw [← hn, Tr.size, hi, hj]
    have hparts := Lib.hid (parts9_any A n c B l tl tr k v g hl w hB h (by omega))
    rw [hi, hj] at hparts
    have hhl := high_le tl
    have hhr := high_le tr
    have hL := Lib.hid (fun A c B la hla w hB h => ihl A i c B la hla hi (by omega) w hB h)
    have hR := Lib.hid (fun A c B la hla w hB h => ihr A j c B la hla hj (by omega) w hB h)
    obtain ⟨x, hx⟩ : ∃ x, tl.high = x := ⟨_, rfl⟩
    obtain ⟨y, hy⟩ : ∃ y, tr.high = y := ⟨_, rfl⟩
    rw [hx] at hL
    rw [hy] at hR
    have hx9 : x ≤ 5000 := by omega
    have hy9 : y ≤ 5000 := by omega
    have hans : (Tr.n tl k v g tr).high = 1 + max x y := by rw [Tr.high, hx, hy]
    obtain ⟨m, hm0⟩ : ∃ m, 1 + max x y = m := ⟨_, rfl⟩
    rw [hans, hm0]
    have hm := Lib.hid hm0
    have d1 : ((n : Int) == 0) = false := by simp; omega
    clear h hl ihl ihr hi hj hn hn2 hhl hhr hx hy hans hm0 h5
    go_enter Tryd.func69, Tryd.ntmps69
    go_wp2_with fail
    refine hparts.out.mono ?_
    rintro e w1 ⟨A1, c1, A2, c2, b, la, lb, rfl, rfl, hx, hla, hlb, K1, K2, hb⟩
    clear hparts
    have b1 := Lib.hid hb
    have hla' := Lib.hid hla
    have hlb' := Lib.hid hlb
    have K1' := Lib.hid K1
    have K2' := Lib.hid K2
    clear hb hx hla hlb K1 K2
    go_wp2_with fail
    have b2 := Lib.hid (b1.out.alloc b1.out.size (.cells #[K b.key, K b.val, K b.sum, K b.size, G64 b.tag, .bool b.left, .bool b.right] 44))
    refine (hL.out A1 c1 B la hla'.out _ (Nat.le_trans hB b2.out.size) (K1'.out.next (b2.out.mono hB))).mono ?_
    rintro e w3 ⟨rfl, hb3⟩
    have b3 := Lib.hid (Below.after b2.out hb3)
    clear hb3 b2 b1
    go_wp2_with fail
    refine (hR.out A2 c2 B lb hlb'.out w3 (Nat.le_trans hB b3.out.size) (K2'.out.next (b3.out.mono hB))).mono ?_
    rintro e w4 ⟨rfl, hb4⟩
    have b4 := Lib.hid (Below.after b3.out hb4)
    clear hb4 b3
    by_cases hxy : x < y
    · have e1 : (1 : Int) + (y : Int) = (m : Int) := by have := hm.out; rw [Nat.max_eq_right (Nat.le_of_lt hxy)] at this; omega
      go_wp2
      all_goals first
        | (exfalso; omega)
        | (go_ret; exact ⟨rfl, b4.out⟩)
    · have e1 : (1 : Int) + (x : Int) = (m : Int) := by have := hm.out; rw [Nat.max_eq_left (by omega)] at this; omega
      go_wp2
      all_goals first
        | (exfalso; omega)
        | (go_ret; exact ⟨rfl, b4.out⟩)
end Go.Proofs.YtlhnjgmjkoafpaaDoor
