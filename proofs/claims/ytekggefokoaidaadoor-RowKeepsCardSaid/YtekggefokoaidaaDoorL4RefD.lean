/- The document's own answers of layer 4: Drop, Put. -/
import Derived.Test.YtekggefokoaidaaDoorL4RefC
import Derived.Test.YtekggefokoaidaaDoorL4Cat
import Derived.Deep.RegionWith
import Derived.Deep.RegionLaw
namespace Go.Proofs.YtekggefokoaidaaDoor
open Go.RowKit Go.Proofs.Rowm

/-- what a call returns that makes a row, and tells something beside it -/
def MadeT (w : World) (l : List Pr) (x : Value) (e : Ending) (w' : World) : Prop :=
  ∃ A c, e = .returned (.tuple #[.slice A l.length c, x]) ∧ l.length ≤ c ∧ c ≤ maxLen ∧ (A = none → c = 0) ∧ Row w' w'.heap.size A (flat l) ∧ Below w.heap.size w w'
theorem made_of {w w' : World} {base : Nat} {l : List Pr} {v x : Value} (ho : w'.ownsRow base 24 2 v l.length (flat l)) (hb : Below w.heap.size w w') : MadeT w l x (.returned (.tuple #[v, x])) w' := by
  obtain ⟨A, c, rfl, h1, h2, h3⟩ := own_slice ho
  exact ⟨A, c, rfl, h1, h2, h3, Row.of_own ho, hb⟩
theorem made_none (w w' : World) (x : Value) (hb : Below w.heap.size w w') : MadeT w [] x (.returned (.tuple #[.slice none 0 0, x])) w' :=
  ⟨none, 0, rfl, Nat.le_refl _, Nat.zero_le _, fun _ => rfl, Row.none_ _ _ _, hb⟩

set_option maxHeartbeats 1000000 in
theorem refDrop_no (o : Nat) (A : Option Addr) (n c : Nat) (l : List Pr) (key : BitVec 64) (hm : mayB o l = false) (hl : l.length = n) (hn : n ≤ 1000) (w : World) (hr : Row w w.heap.size A (flat l)) :
    Calls Tryd.prog 15 #[.int .u8 o, .slice A n c, K key] w (MadeT w [] (.bool false)) := by
  have hr' := Lib.hid hr
  have hl' := Lib.hid hl
  have hm' := Lib.hid hm
  clear hr hl hm
  go_enter Tryd.func15, Tryd.ntmps15
  go_wp2_with fail
  refine (refMay4_is hm'.out hl'.out hn hr'.out).mono ?_
  rintro e w1 ⟨rfl, hb⟩
  have hb' := Lib.hid hb
  clear hb
  go_wp2
  go_ret2
  exact made_none _ _ _ hb'.out

/-- what is kept of the first k pairs, and whether the key was among them -/
def kept (l : List Pr) (key : BitVec 64) (k : Nat) : List Pr := (l.take k).filter fun p => decide (p.1 ≠ key)
theorem kept_next (l : List Pr) (key : BitVec 64) (k : Nat) (h : k < l.length) : kept l key (k + 1) = if l[k].1 = key then kept l key k else kept l key k ++ [l[k]] := by
  unfold kept
  rw [List.take_succ_eq_append_getElem h, List.filter_append]
  by_cases hk : l[k].1 = key <;> simp [hk]
theorem kept_le (l : List Pr) (key : BitVec 64) (k : Nat) : (kept l key k).length ≤ l.length := by
  unfold kept
  exact Nat.le_trans (List.length_filter_le _ _) (by rw [List.length_take]; omega)

set_option maxHeartbeats 2000000 in
theorem refDrop_yes (o : Nat) (A : Option Addr) (n c : Nat) (l : List Pr) (key : BitVec 64) (i j : Nat) (t : Bool) (ht : decide (i < j) = t) (hm : mayB o l = true) (ha : At o l key i j) (hl : l.length = n) (hn : n ≤ 1000) (w : World) (hr : Row w w.heap.size A (flat l)) :
    Calls Tryd.prog 15 #[.int .u8 o, .slice A n c, K key] w (MadeT w (dropAt l i j) (.bool t)) := by
  obtain ⟨i0, hi, hz0, hz1, hz2⟩ := info_parts info_pair
  have hij := ha.le
  have hjl := ha.len
  have hj1 := ha.one
  rw [hl] at hjl
  have hr' := Lib.hid hr
  have hl' := Lib.hid hl
  have hm' := Lib.hid hm
  have ha' := Lib.hid ha
  have ht' := Lib.hid ht
  clear hr hl hm ha ht
  go_enter Tryd.func15, Tryd.ntmps15
  go_wp2_with fail
  refine (refMay4_is hm'.out hl'.out hn hr'.out).mono ?_
  rintro e w1 ⟨rfl, hb⟩
  have hb' := Lib.hid hb
  clear hb
  go_wp2
  go_loopw [8, 9, 10] (fun v s q wr => ∃ k : Nat, k ≤ n ∧ q = .int .i64 k ∧ s = .bool (decide (i < j ∧ i < k)) ∧ wr.ownsRow w.heap.size 24 2 v (kept l key k).length (flat (kept l key k)) ∧ Below w.heap.size w wr) (fun _ _ q _ => n - (intOf q).toNat)
  case atStart => exact ⟨0, Nat.zero_le _, rfl, by simp, World.ownsRow_nil _ _ _ _, hb'.out⟩
  case round =>
    obtain ⟨k, hk, rfl, rfl, hown, hb⟩ := hrel
    have ho := Lib.hid hown
    have b1 := Lib.hid hb
    clear hown hb hb'
    obtain ⟨s, hs⟩ : ∃ s, decide (i < j ∧ i < k) = s := ⟨_, rfl⟩
    rw [hs]
    have hs' := Lib.hid hs
    clear hs
    by_cases hlt : k < n
    · have hkl : k < l.length := by rw [hl'.out]; exact hlt
      have hkn := Lib.hid (kept_next l key k hkl)
      have hkk := Lib.hid (ha'.out.key_iff k hkl)
      obtain ⟨ad, rfl, hb2, g1, g2⟩ := pair_at (hr'.out.below b1.out) k hkl
      by_cases he : l[k].1 = key
      · have hbq : (l[k].1.toInt == key.toInt) = true := by rw [i_beq]; exact decide_eq_true he
        have hkt : Hid (kept l key (k + 1) = kept l key k) := by show kept l key (k + 1) = kept l key k; rw [hkn.out, if_pos he]
        have hki := hkk.out.1 he
        have he' := Lib.hid he
        clear he
        go_wp2
        go_roundw
        case rel => exact ⟨k + 1, by omega, by go_num, by simp; omega, by rw [hkt.out]; exact ho.out, b1.out⟩
        case measure => simp [intOf]; omega
      · have hbq : (l[k].1.toInt == key.toInt) = false := by rw [i_beq]; exact decide_eq_false he
        have hkt : Hid (kept l key (k + 1) = kept l key k ++ [l[k]]) := by show kept l key (k + 1) = kept l key k ++ [l[k]]; rw [hkn.out, if_neg he]
        have hki : Hid (¬ (i ≤ k ∧ k < j)) := fun h => he (hkk.out.2 h)
        have hle := kept_le l key k
        rw [hl'.out] at hle
        have he' := Lib.hid he
        clear he
        obtain ⟨L, hL⟩ : ∃ L, kept l key k = L := ⟨_, rfl⟩
        rw [hL] at ho hkt hle
        clear hL
        obtain ⟨x, hx⟩ : ∃ x, l[k] = x := ⟨_, rfl⟩
        simp only [hx] at g1 g2 hbq hkt
        clear hx
        go_wp2_with (at_builtin; refine wpList_append_row rfl _ _ 22 rfl w.heap.size 24 i0 (.agg #[.int .i64 0, .int .i64 0]) 2 16 Tryd.underlying22 hi hz0 hz1 hz2 rfl (by decide) _ L.length _ rfl (ho.out.alloc _) (some ⟨wr.heap.size, 0, none⟩) 1 1 (flat [x]) rfl (by simp) (Nat.le_refl _) rfl _ (Has.new wr 24 #[K x.1, K x.2]).row (flat_one [x]) (by unfold maxLen; omega) (by omega) (by have := b1.out.size; simp; omega) ?_)
        intro v' w2 hown hgrow
        have ho3 := Lib.hid hown
        have b3 := Lib.hid ((b1.out.alloc b1.out.size (.cells #[K x.1, K x.2] 24)).grown hgrow (by have := b1.out.size; simp; omega) (fun r e => (ho.out.lt r e).1))
        clear hown hgrow
        go_wp2
        go_roundw
        case rel =>
          refine ⟨k + 1, by omega, by go_num, ?_, ?_, b3.out⟩
          · rw [← hs'.out]; have := hki.out; congr 1; rw [decide_eq_decide]; omega
          · rw [hkt.out, List.length_append, flat_append]; exact ho3.out
        case measure => simp [intOf]; omega
    · obtain rfl : k = n := by omega
      have e : kept l key k = dropAt l i j := by
        unfold kept
        rw [List.take_of_length_le (by rw [hl'.out]; exact Nat.le_refl _)]
        exact filter_drop ha'.out
      rw [e] at ho
      obtain rfl : s = t := by rw [← hs'.out, ← ht'.out, decide_eq_decide]; omega
      clear e
      go_wp2
      go_ret2
      exact made_of ho.out b1.out
end Go.Proofs.YtekggefokoaidaaDoor
