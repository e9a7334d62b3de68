/- What package sound has to answer (layer 12), and package order; the chapter's example (alive). -/
import Derived.Test.YtfndaeocdgcaeaaDoorL12Math
import Derived.Test.YtfndaeocdgcaeaaDoorL2Ref
import Derived.Test.YtfndaeocdgcaeaaDoorL4Row
import Derived.IntWalk
import Derived.Deep.QuietTactic
import Derived.BigQuiet
import Derived.Test.YtfndaeocdgcaeaaDoorL10Pairs
import Derived.Deep.Cut
import Derived.Test.YtfndaeocdgcaeaaDoorGHeld
import Derived.Deep.RegionLaw
import Derived.Test.YtfndaeocdgcaeaaDoorGApp
import Derived.Test.YtfndaeocdgcaeaaDoorL9Steps
/- The document's own answers of layer 12: whether pairs rise; whether a key keeps its bounds. -/
namespace Go.Proofs.YtfndaeocdgcaeaaDoor
open Go.RowKit Go.Proofs.Rowm Go.Proofs.Treem

/-- the first k pairs rise -/
def RisenK (o : Nat) (l : List Pr) (k : Nat) : Prop := ∀ i (h : i + 1 < l.length), i + 1 < k → ltK o l[i].1 l[i + 1].1
theorem RisenK.one (o : Nat) (l : List Pr) : RisenK o l 1 := fun i _ h => by omega
theorem RisenK.next {o : Nat} {l : List Pr} {k : Nat} (h : RisenK o l (k + 1)) (hk : k + 1 < l.length) (hl : ltK o l[k].1 l[k + 1].1) : RisenK o l (k + 1 + 1) := fun i hi hik => by
  rcases Nat.lt_or_ge (i + 1) (k + 1) with h1 | h1
  · exact h i hi h1
  · have : i = k := by omega
    subst this; exact hl
theorem risesK_at (o : Nat) : ∀ l : List Pr, risesK o (l.map (·.1)) = true ↔ ∀ i (h : i + 1 < l.length), ltK o l[i].1 l[i + 1].1
  | [] => by simp [risesK]
  | [a] => by simp [risesK]
  | a :: b :: l => by
    have ih := risesK_at o (b :: l)
    rw [List.map_cons, List.map_cons, risesK, Bool.and_eq_true, decide_eq_true_eq, ← List.map_cons, ih]
    constructor
    · rintro ⟨h1, h2⟩ i hi
      cases i with
      | zero => exact h1
      | succ i => exact h2 i (by simpa using hi)
    · intro h
      exact ⟨h 0 (by simp), fun i hi => h (i + 1) (by simpa using hi)⟩
theorem RisenK.all {o : Nat} {l : List Pr} {k : Nat} (h : RisenK o l k) (hk : l.length ≤ k) : risesK o (l.map (·.1)) = true := (risesK_at o l).2 fun i hi => h i hi (by omega)
theorem fallenK {o : Nat} {l : List Pr} {k : Nat} (hk : k + 1 < l.length) (h : ¬ ltK o l[k].1 l[k + 1].1) : risesK o (l.map (·.1)) = false := by
  cases hm : risesK o (l.map (·.1)) with
  | false => rfl
  | true => exact absurd ((risesK_at o l).1 hm k hk) h
set_option maxHeartbeats 1000000 in
theorem refRises (o : Nat) (h1 : 1 ≤ o) (h7 : o ≤ 7) (A : Option Addr) (n c : Nat) (l : List Pr) (hl : l.length = n) (hn : n ≤ 2000) (w : World) (hr : Row w w.heap.size A (flat l)) :
    Calls Tryd.prog 32 #[.int .u8 o, .slice A n c] w fun e w' => e = .returned (.bool (risesK o (l.map (·.1)))) ∧ Below w.heap.size w w' := by
  have hr' := Lib.hid hr
  have hl' := Lib.hid hl
  clear hr hl
  go_enter Tryd.func32, Tryd.ntmps32
  go_wp2
  go_loopw [5] (fun i wr => ∃ m : Nat, m ≤ n ∧ i = .int .i64 ((m : Int) + 1) ∧ RisenK o l (m + 1) ∧ Below w.heap.size w wr) (fun i _ => n + 1 - (intOf i).toNat)
  case atStart => exact ⟨0, Nat.zero_le _, rfl, RisenK.one o l, Below.refl _ _⟩
  case round =>
    obtain ⟨m, hm, rfl, hR, hb⟩ := hrel
    have hb' := Lib.hid hb
    have hR' := Lib.hid hR
    clear hb hR
    by_cases hlt : m + 1 < n
    · have hkl : m + 1 < l.length := by rw [hl'.out]; exact hlt
      obtain ⟨ad, rfl, hb2, g1, g2⟩ := pair_at (hr'.out.below hb'.out) m (by omega)
      obtain ⟨ad', he', hb3, g3, g4⟩ := pair_at (hr'.out.below hb'.out) (m + 1) hkl
      cases he'
      have hc := Lib.hid fun W => refCompare_at o h1 h7 l[m].1 l[m + 1].1 W
      have hs : ltK o l[m].1 l[m + 1].1 ↔ Ordm.stand o l[m].1 l[m + 1].1 < 0 := ltK_stand
      obtain ⟨s, hss⟩ : ∃ s, Ordm.stand o l[m].1 l[m + 1].1 = s := ⟨_, rfl⟩
      rw [hss] at hc hs
      clear hss
      have e0 : IntKind.i64.wrap ((m : Int) + 1 - 1) = (m : Int) := by rw [show (m : Int) + 1 - 1 = m by omega]; exact IntWalk.i64_in _ (by omega)
      have e1 : (0 : Int) ≤ (m : Int) + 1 := by omega
      have e2 : ((m : Int) + 1).toNat = m + 1 := by omega
      have e3 : (m : Int) + 1 < (n : Int) := by omega
      by_cases hlow : s < 0
      · have hR2 := Lib.hid (hR'.out.next hkl (hs.2 hlow))
        have d0 : decide ((0 : Int) ≤ s) = false := decide_eq_false (by omega)
        clear hs hlow
        go_wp2
        go_quiet ((go_at_call 49; exact quiet_same (hc.out _)))
        clear e0 e2
        go_wp2
        go_roundw
        case rel => exact ⟨m + 1, by omega, by go_num, hR2.out, below_drewN hb'.out _⟩
        case measure => simp [intOf]; omega
      · have hf := Lib.hid (fallenK hkl (fun h => hlow (hs.1 h)))
        have d0 : decide ((0 : Int) ≤ s) = true := decide_eq_true (by omega)
        clear hs hlow
        go_wp2
        go_quiet ((go_at_call 49; exact quiet_same (hc.out _)))
        clear e0 e2
        go_wp2
        go_ret
        exact ⟨by rw [hf.out]; rfl, below_drewN hb'.out _⟩
    · have hm := Lib.hid (hR'.out.all (by rw [hl'.out]; omega))
      have hlt' : ¬ ((m : Int) + 1 < (n : Int)) := by omega
      go_wp2
      go_ret
      exact ⟨by rw [hm.out]; rfl, hb'.out⟩

/-- bounds, as cells -/
def flatB (l : List Bnd) : List Value := l.flatMap fun b => [K b.1, .bool b.2]
theorem flatB_append (a b : List Bnd) : flatB (a ++ b) = flatB a ++ flatB b := by simp [flatB]
theorem flatB_len : ∀ l : List Bnd, (flatB l).length = l.length * 2
  | [] => rfl
  | b :: l => by have := flatB_len l; simp only [flatB, List.flatMap_cons, List.length_append, List.length_cons, List.length_nil] at this ⊢; omega
theorem flatB_one (l : List Bnd) : ∀ u ∈ flatB l, u.oneCell' = true := fun u hu => by
  simp only [flatB, List.mem_flatMap, List.mem_cons, List.not_mem_nil, or_false] at hu
  obtain ⟨p, _, rfl | rfl⟩ := hu <;> rfl
theorem flatB_at : ∀ (l : List Bnd) (k : Nat) (h : k < l.length), (flatB l)[k * 2]? = some (K l[k].1) ∧ (flatB l)[k * 2 + 1]? = some (.bool l[k].2)
  | [], k, h => by simp at h
  | b :: l, 0, _ => ⟨rfl, rfl⟩
  | b :: l, k + 1, h => by
    have ih := flatB_at l k (by simpa using h)
    have e : flatB (b :: l) = [K b.1, .bool b.2] ++ flatB l := rfl
    rw [e, List.getElem?_append_right (by simp only [List.length_cons, List.length_nil]; omega), List.getElem?_append_right (by simp only [List.length_cons, List.length_nil]; omega)]
    have e1 : (k + 1) * 2 - [K b.1, Value.bool b.2].length = k * 2 := by simp only [List.length_cons, List.length_nil]; omega
    have e2 : (k + 1) * 2 + 1 - [K b.1, Value.bool b.2].length = k * 2 + 1 := by simp only [List.length_cons, List.length_nil]; omega
    rw [e1, e2]
    exact ih
theorem bound_at {w : World} {B : Nat} {A : Option Addr} {l : List Bnd} (h : Row w B A (flatB l)) (k : Nat) (hk : k < l.length) :
    ∃ ad, A = some ad ∧ ad.block < B ∧ w.cell? (ad.add (k * 2)) = some (K l[k].1) ∧ w.cell? ⟨(ad.add (k * 2)).block, (ad.add (k * 2)).off + 1, none⟩ = some (.bool l[k].2) := by
  obtain ⟨ad, e, hb, h0⟩ := h _ _ (flatB_at l k hk).1
  obtain ⟨ad', e', _, h1⟩ := h _ _ (flatB_at l k hk).2
  rw [e] at e'
  cases e'
  exact ⟨ad, e, hb, h0, by rw [← add_one_is, add_add]; exact h1⟩
set_option maxHeartbeats 1000000 in
theorem refWrong (o : Nat) (h1 : 1 ≤ o) (h7 : o ≤ 7) (key : BitVec 64) (A : Option Addr) (n c : Nat) (l : List Bnd) (hl : l.length = n) (hn : n ≤ 2000) (w : World) (B : Nat) (hr : Row w B A (flatB l)) :
    Calls Tryd.prog 46 #[.int .u8 o, K key, .slice A n c] w fun e w' => e = .returned (.bool (wrongB o key l)) ∧ w = w' := by
  have hr' := Lib.hid hr
  have hl' := Lib.hid hl
  clear hr hl
  go_enter Tryd.func46, Tryd.ntmps46
  go_wp2
  go_loop [7] (fun i => ∃ m : Nat, m ≤ n ∧ i = .int .i64 m ∧ ∀ j (h : j < l.length), j < m → okB o key l[j]) (fun i => n - (intOf i).toNat)
  case atStart => exact ⟨0, Nat.zero_le _, rfl, fun j _ h => by omega⟩
  case round =>
    obtain ⟨m, hm, rfl, hR⟩ := hrel
    have hR' := Lib.hid hR
    clear hR
    by_cases hlt : m < n
    · have hkl : m < l.length := by rw [hl'.out]; exact hlt
      obtain ⟨ad, rfl, hb2, g1, g2⟩ := bound_at hr'.out m hkl
      have hnext : Hid (okB o key l[m] → ∀ j (h : j < l.length), j < m + 1 → okB o key l[j]) := fun h j hj hjm => by
        rcases Nat.lt_or_ge j m with h' | h'
        · exact hR'.out j hj h'
        · have : j = m := by omega
          subst this; exact h
      have hbad : Hid (¬ okB o key l[m] → wrongB o key l = true) := fun h => decide_eq_true ⟨l[m], List.getElem_mem hkl, h⟩
      obtain ⟨x, hx⟩ : ∃ x, l[m] = x := ⟨_, rfl⟩
      rw [hx] at hnext hbad g1 g2
      clear hx
      obtain ⟨xk, xb⟩ := x
      have hc := Lib.hid fun W => refCompare_at o h1 h7 xk key W
      have hs1 : ltK o xk key ↔ Ordm.stand o xk key < 0 := ltK_stand
      have hs2 : ltK o key xk ↔ 0 < Ordm.stand o xk key := gtK_stand
      obtain ⟨s, hss⟩ : ∃ s, Ordm.stand o xk key = s := ⟨_, rfl⟩
      rw [hss] at hc hs1 hs2
      have d1 : decide ((m : Int) < (n : Int)) = true := decide_eq_true (by omega)
      clear hss
      cases xb with
      | true =>
        have hok : Hid (okB o key (xk, true) ↔ s < 0) := by show _ ↔ _; rw [← hs1]; simp [okB]
        clear hs1 hs2
        by_cases hs : s < 0
        · have d0 : decide ((0 : Int) ≤ s) = false := decide_eq_false (by omega)
          have hn' := Lib.hid (hnext.out (hok.out.2 hs))
          clear hs
          go_wp2_with (go_at_call 49; refine (hc.out _).mono ?_; rintro e w' ⟨rfl, rfl⟩)
          go_round
          case rel => exact ⟨m + 1, by omega, by go_num, hn'.out⟩
          case measure => simp [intOf]; omega
        · have d0 : decide ((0 : Int) ≤ s) = true := decide_eq_true (by omega)
          have hb' := Lib.hid (hbad.out (fun h => hs (hok.out.1 h)))
          clear hs
          go_wp2_with (go_at_call 49; refine (hc.out _).mono ?_; rintro e w' ⟨rfl, rfl⟩)
          go_ret
          exact ⟨by rw [hb'.out]; rfl, rfl⟩
      | false =>
        have hok : Hid (okB o key (xk, false) ↔ 0 < s) := by show _ ↔ _; rw [← hs2]; simp [okB]
        clear hs1 hs2
        by_cases hs : 0 < s
        · have d0 : decide (s ≤ (0 : Int)) = false := decide_eq_false (by omega)
          have hn' := Lib.hid (hnext.out (hok.out.2 hs))
          clear hs
          go_wp2_with (go_at_call 49; refine (hc.out _).mono ?_; rintro e w' ⟨rfl, rfl⟩)
          go_round
          case rel => exact ⟨m + 1, by omega, by go_num, hn'.out⟩
          case measure => simp [intOf]; omega
        · have d0 : decide (s ≤ (0 : Int)) = true := decide_eq_true (by omega)
          have hb' := Lib.hid (hbad.out (fun h => hs (hok.out.1 h)))
          clear hs
          go_wp2_with (go_at_call 49; refine (hc.out _).mono ?_; rintro e w' ⟨rfl, rfl⟩)
          go_ret
          exact ⟨by rw [hb'.out]; rfl, rfl⟩
    · have d1 : decide ((m : Int) < (n : Int)) = false := decide_eq_false (by omega)
      have hm : Hid (wrongB o key l = false) := wrong_no.2 fun b hb => by
        obtain ⟨j, hj, rfl⟩ := List.getElem_of_mem hb
        exact hR'.out j hj (by rw [hl'.out] at hj; omega)
      go_wp2
      go_ret
      exact ⟨by rw [hm.out]; rfl, rfl⟩
end Go.Proofs.YtfndaeocdgcaeaaDoor
/- The document's own answers of layer 12 (gen/layer12first.py): the first node that is wrong. -/
namespace Go.Proofs.YtfndaeocdgcaeaaDoor
open Go.RowKit Go.Proofs.Treem

theorem info_bound : (Tryd.prog.info? 89).map (fun i => (i.zero, i.size, i.bytes)) = some (some (.agg #[.int .i64 0, .bool false]), 2, 16) := by kernel_rfl
/-- bounds that lie there -/
structure LieK (W : World) (B : Nat) (A : Option Addr) (n c : Nat) (l : List Bnd) : Prop where
  len : l.length = n
  cap : n ≤ c
  max : c ≤ maxLen
  nil : A = none → c = 0
  row : Row W B A (flatB l)
theorem LieK.next {W W' : World} {B : Nat} {A : Option Addr} {n c : Nat} {l : List Bnd} (h : LieK W B A n c l) (hb : Below B W W') : LieK W' B A n c l := ⟨h.len, h.cap, h.max, h.nil, h.row.below hb⟩
theorem LieK.of_own {W : World} {base n : Nat} {v : Value} {l : List Bnd} (hl : l.length = n) (h : W.ownsRow base 89 2 v n (flatB l)) : ∃ A c, v = .slice A n c ∧ LieK W W.heap.size A n c l := by
  obtain ⟨A', c', rfl, k1, k2, k3⟩ := own_slice h
  exact ⟨_, _, rfl, hl, k1, k2, k3, Row.of_own h⟩
theorem has_grown {W W' : World} {row : Option Nat} {g : Nat} {t : TypeId} {cs : Array Value} (h : W.grownBy W' row) (hh : Has W g t cs) (hn : some g ≠ row) : Has W' g t cs := (h.block g hh.lt hn).trans hh
theorem has_not {w : World} {b : Nat} {t e : TypeId} {cs : Array Value} (h : Has w b t cs) (hte : t ≠ e) {base size k : Nat} {v : Value} {xs : List Value} (hr : w.ownsRow base e size v k xs) : some b ≠ v.ownBlock := by
  rcases hr.2 with ⟨rfl, _⟩ | ⟨g', cap, cur, rfl, _, hgb, _⟩
  · simp [Value.ownBlock]
  · intro e'
    obtain rfl : b = g' := by simpa [Value.ownBlock] using e'
    have := (show w.heap[b]? = _ from h).symm.trans hgb
    simp at this
    exact hte this.2
theorem has_drew12 {w : World} {g : Nat} {t : TypeId} {cs : Array Value} (h : Has w g t cs) : Has w.drew g t cs := h
theorem step_bound {w : World} {ops : Array Oper} {o : Oper} {a : Act} {K : Act → World → Prop} {Q : Exit → Act → World → Prop} {E : Prop} (hgd : o.guard = none) (s x : Operand)
    (ho : o.op = .call { callee := .builtin .append, args := #[s, x], argTypes := #[86, 86] }) (base B : Nat) (v : Value) (n : Nat) (l : List Bnd) (hs : a.eval s = v) (hown : w.ownsRow base 89 2 v n (flatB l))
    (A : Option Addr) (m c : Nat) (l' : List Bnd) (hx : a.eval x = .slice A m c) (hk : LieK w B A m c l') (hn : n + m ≤ 4000) (hb : base ≤ w.heap.size)
    (h : ∀ v' w', w'.ownsRow base 89 2 v' (n + m) (flatB (l ++ l')) → w.grownBy w' v.ownBlock → K (a.put o.dst v') w') : if Region.wanted o (yielded ops a.tmps) = true then Oper.wp Tryd.prog o a w K Q else E := by
  obtain ⟨i0, hin, hz0, hz1, hz2⟩ := info_parts info_bound
  refine step_append_row hgd s x 86 ho base 89 i0 (.agg #[.int .i64 0, .bool false]) 2 16 Tryd.underlying86 hin hz0 hz1 hz2 rfl (by decide) v n (flatB l) hs hown A m c (flatB l') hx hk.nil hk.cap (by rw [flatB_len, hk.len]) B hk.row (flatB_one _) (by unfold maxLen; omega) (by omega) hb (fun v' w' h1 h2 => h v' w' ?_ h2)
  rw [flatB_append]
  exact h1
theorem litK (w : World) (k : BitVec 64) (b : Bool) : LieK (w.alloc (.cells #[K k, .bool b] 89)) (w.alloc (.cells #[K k, .bool b] 89)).heap.size (some ⟨w.heap.size, 0, none⟩) 1 1 [(k, b)] :=
  ⟨rfl, Nat.le_refl _, by unfold maxLen; omega, fun e => (by cases e), (Has.new w 89 #[K k, .bool b]).row⟩
theorem litK_of {w : World} {g : Nat} {k : BitVec 64} {b : Bool} (h : Has w g 89 #[K k, .bool b]) : LieK w w.heap.size (some ⟨g, 0, none⟩) 1 1 [(k, b)] :=
  ⟨rfl, Nat.le_refl _, by unfold maxLen; omega, fun e => (by cases e), h.row⟩
theorem LieK.none_ (w : World) : LieK w w.heap.size none 0 0 [] := ⟨rfl, Nat.le_refl _, Nat.zero_le _, fun _ => rfl, Row.none_ _ _ _⟩
set_option maxHeartbeats 8000000 in
theorem refFirst (o : Nat) (h1 : 1 ≤ o) (h7 : o ≤ 7) : ∀ (t : Tr) (A : Option Addr) (n c B : Nat) (l : List Bd), l.map strip = t.pre → t.size = n → n ≤ 1000 → ∀ (bs : List Bnd) (A' : Option Addr) (m c' B' : Nat) (w : World), B ≤ w.heap.size → B' ≤ w.heap.size → m + n ≤ 2000 → LieB w B A n c l → LieK w B' A' m c' bs →
    Calls Tryd.prog 27 #[.int .u8 o, .slice A n c, .slice A' m c'] w fun e w' => e = .returned (.int .i64 ((firstT o t bs : Nat) : Int)) ∧ Below w.heap.size w w' := by
  intro t
  induction t with
  | e =>
    intro A n c B l hl hn h5 bs A' m c' B' w hB hB' h20 h hk
    obtain rfl : n = 0 := hn.symm
    clear h hk hB hB'
    go_enter Tryd.func27, Tryd.ntmps27
    go_wp2
    go_ret
    exact ⟨rfl, Below.refl _ _⟩
  | n tl k v g tr ihl ihr =>
    intro A n c B l hl hn h5 bs A' m c' B' w hB hB' h20 h hk
    obtain ⟨i0, hin, hz0, hz1, hz2⟩ := info_parts info_bound
    obtain ⟨i, hi⟩ : ∃ i, tl.size = i := ⟨_, rfl⟩
    obtain ⟨j, hj⟩ : ∃ j, tr.size = j := ⟨_, rfl⟩
    have hn2 : n = 1 + i + j := by rw [← hn, Tr.size, hi, hj]
    have hparts := Lib.hid (parts9_any A n c B l tl tr k v g hl w hB h (by omega))
    rw [hi, hj] at hparts
    have hL := Lib.hid (fun A c B la hla bs A' m c' B' w hB hB' h20 h hk => ihl A i c B la hla hi (by omega) bs A' m c' B' w hB hB' h20 h hk)
    have hR := Lib.hid (fun A c B la hla bs A' m c' B' w hB hB' h20 h hk => ihr A j c B la hla hj (by omega) bs A' m c' B' w hB hB' h20 h hk)
    have fl := first_le o tl (bs ++ [(k, false)])
    have fr := first_le o tr (bs ++ [(k, true)])
    rw [hi] at fl
    rw [hj] at fr
    have hFT : Hid (firstT o (.n tl k v g tr) bs = if wrongB o k bs then 0 else if firstT o tl (bs ++ [(k, false)]) < i then 1 + firstT o tl (bs ++ [(k, false)]) else 1 + firstT o tl (bs ++ [(k, false)]) + firstT o tr (bs ++ [(k, true)])) := by show _ = _; rw [firstT, hi]
    obtain ⟨F, hF⟩ : ∃ F, firstT o (.n tl k v g tr) bs = F := ⟨_, rfl⟩
    obtain ⟨fa, hfa⟩ : ∃ f, firstT o tl (bs ++ [(k, false)]) = f := ⟨_, rfl⟩
    obtain ⟨fb, hfb⟩ : ∃ f, firstT o tr (bs ++ [(k, true)]) = f := ⟨_, rfl⟩
    rw [hF]
    rw [hF, hfa, hfb] at hFT
    rw [hfa] at fl
    rw [hfb] at fr
    have hfa' := Lib.hid hfa
    have hfb' := Lib.hid hfb
    have cW : Hid (∀ W, Below w.heap.size w W → Calls Tryd.prog 46 #[.int .u8 o, K k, .slice A' m c'] W fun e w' => e = .returned (.bool (wrongB o k bs)) ∧ W = w') := fun W hW => refWrong o h1 h7 k A' m c' bs hk.len (by omega) W B' (hk.row.below (hW.mono hB'))
    obtain ⟨wr, hwr⟩ : ∃ b, wrongB o k bs = b := ⟨_, rfl⟩
    rw [hwr] at hFT cW
    have hk' := Lib.hid hk
    have d1 : ((n : Int) == 0) = false := by simp; omega
    have hij : i + j ≤ 1000 := by omega
    have mi : m + 1 + i ≤ 2000 := by omega
    have mj : m + 1 + j ≤ 2000 := by omega
    clear h hl ihl ihr hi hj hn hn2 hF hfa hfb hk hwr
    go_enter Tryd.func27, Tryd.ntmps27
    go_wp2_with fail
    refine hparts.out.mono ?_
    rintro e w1 ⟨A1, c1, A2, c2, x, la, lb, rfl, rfl, hx, hla, hlb, K1, K2, hb⟩
    clear hparts
    have hkx : Hid (x.key = k) := congrArg St.key hx
    have b1 := Lib.hid hb
    have hla' := Lib.hid hla
    have hlb' := Lib.hid hlb
    have K1' := Lib.hid K1
    have K2' := Lib.hid K2
    clear hb hx hla hlb K1 K2
    obtain ⟨W2, hW2⟩ : ∃ W2, w1.alloc (.cells #[K x.key, K x.val, K x.sum, K x.size, G64 x.tag, .bool x.left, .bool x.right] 46) = W2 := ⟨_, rfl⟩
    obtain ⟨p, hp⟩ : ∃ p, w1.heap.size = p := ⟨_, rfl⟩
    have gx : Hid (Has W2 p 46 #[K x.key, K x.val, K x.sum, K x.size, G64 x.tag, .bool x.left, .bool x.right]) := hp ▸ hW2 ▸ Has.new w1 _ _
    have b2 : Hid (Below w.heap.size w W2) := hW2 ▸ b1.out.alloc b1.out.size _
    have s2 : Hid (W2.heap.size = p + 1) := by show _ = _; rw [← hW2, World.size_alloc, hp]
    rw [hkx.out] at gx
    obtain ⟨y0, y1, y2, y3, y4, y5, y6⟩ := gx.out.seven
    have HW2 := Lib.hid hW2
    have HP := Lib.hid hp
    clear y1 y2 y3 y4 y5 y6 b1 hW2 hp
    go_upto_region 4 with (fail)
    rw [HW2.out, HP.out]
    go_wp2_with fail
    refine (cW.out W2 b2.out).mono ?_
    rintro e w' ⟨rfl, rfl⟩
    cases wr with
    | true =>
      have hF0 : Hid (F = 0) := by have := hFT.out; rwa [if_pos rfl] at this
      go_wp2_with fail
      go_ret
      exact ⟨by rw [hF0.out]; rfl, b2.out⟩
    | false =>
      have hF1 : Hid (F = if fa < i then 1 + fa else 1 + fa + fb) := by have := hFT.out; rwa [if_neg (by simp)] at this
      go_wp2_with fail
      refine wp_region_held_drew (S := fun u => u.cell? ⟨p, 0, none⟩ = some (K k) ∧ Has u p 46 #[K k, K x.val, K x.sum, K x.size, G64 x.tag, .bool x.left, .bool x.right]) (by kernel_rfl) ⟨y0, has_drew12 gx.out⟩ (fun hS => ?_)
      refine wpAnyH_take (i := 0) (oi := ?dqn10) (v := ?dvn10) ?hin10 (by kernel_rfl) (by kernel_rfl) (by kernel_rfl) ?hQn10 (Or.inl ⟨?hwn10, ?hyn10⟩) hS ?hrn10
      case hin10 => simp only [List.getElem?_toArray, List.getElem?_cons_zero]; rfl
      case hQn10 => exact fun _ _ _ h => h
      case hwn10 => rfl
      case hyn10 => (intro w hSw; (try dsimp only at hSw); go_simp; (try with_reducible rfl))
      simp only [Act.put, List.setIfInBounds_toArray, List.set_cons_zero, List.set_cons_succ]
      refine wpAnyH_take (i := 1) (oi := ?dqn11) (v := ?dvn11) ?hin11 (by kernel_rfl) (by kernel_rfl) (by kernel_rfl) ?hQn11 (Or.inl ⟨?hwn11, ?hyn11⟩) hS ?hrn11
      case hin11 => simp only [List.getElem?_toArray, List.getElem?_cons_succ, List.getElem?_cons_zero]; rfl
      case hQn11 => exact fun _ _ _ h => h
      case hwn11 => rfl
      case hyn11 => (intro w hSw; (try dsimp only at hSw); go_simp; (try with_reducible rfl))
      simp only [Act.put, List.setIfInBounds_toArray, List.set_cons_zero, List.set_cons_succ]
      refine wpAnyH_take (i := 2) (oi := ?dqn12) (v := ?dvn12) ?hin12 (by kernel_rfl) (by kernel_rfl) (by kernel_rfl) ?hQn12 (Or.inl ⟨?hwn12, ?hyn12⟩) hS ?hrn12
      case hin12 => simp only [List.getElem?_toArray, List.getElem?_cons_succ, List.getElem?_cons_zero]; rfl
      case hQn12 => exact fun _ _ _ h => h
      case hwn12 => rfl
      case hyn12 => (intro w hSw; (try dsimp only at hSw); go_simp; (try with_reducible rfl))
      simp only [Act.put, List.setIfInBounds_toArray, List.set_cons_zero, List.set_cons_succ]
      refine wpAnyH_take (i := 4) (oi := ?dqn14) (v := ?dvn14) ?hin14 (by kernel_rfl) (by kernel_rfl) (by kernel_rfl) ?hQn14 (Or.inl ⟨?hwn14, ?hyn14⟩) hS ?hrn14
      case hin14 => simp only [List.getElem?_toArray, List.getElem?_cons_succ, List.getElem?_cons_zero]; rfl
      case hQn14 => exact fun _ _ _ h => h
      case hwn14 => rfl
      case hyn14 => (intro w hSw; (try dsimp only at hSw); go_simp; (try with_reducible rfl))
      simp only [Act.put, List.setIfInBounds_toArray, List.set_cons_zero, List.set_cons_succ]
      refine wpAnyH_take (i := 5) (oi := ?dqn15) (v := ?dvn15) ?hin15 (by kernel_rfl) (by kernel_rfl) (by kernel_rfl) ?hQn15 (Or.inl ⟨?hwn15, ?hyn15⟩) hS ?hrn15
      case hin15 => simp only [List.getElem?_toArray, List.getElem?_cons_succ, List.getElem?_cons_zero]; rfl
      case hQn15 => exact fun _ _ _ h => h
      case hwn15 => rfl
      case hyn15 => (intro w hSw; (try dsimp only at hSw); go_simp; (try with_reducible rfl))
      simp only [Act.put, List.setIfInBounds_toArray, List.set_cons_zero, List.set_cons_succ]
      refine wpAnyH_take (i := 6) (oi := ?dqn16) (v := ?dvn16) ?hin16 (by kernel_rfl) (by kernel_rfl) (by kernel_rfl) ?hQn16 (Or.inl ⟨?hwn16, ?hyn16⟩) hS ?hrn16
      case hin16 => simp only [List.getElem?_toArray, List.getElem?_cons_succ, List.getElem?_cons_zero]; rfl
      case hQn16 => exact fun _ _ _ h => h
      case hwn16 => rfl
      case hyn16 => (intro w hSw; (try dsimp only at hSw); go_simp; (try with_reducible rfl))
      simp only [Act.put, List.setIfInBounds_toArray, List.set_cons_zero, List.set_cons_succ]
      refine wpAnyH_ready (rs := [3, 7]) (by kernel_rfl) (by simp) (AllReadyH.cons (o := ?dqn13) ?hin13 (fun K_ hK => ?ccn13) (AllReadyH.cons (o := ?dqn17) ?hin17 (fun K_ hK => ?ccn17) AllReadyH.nil))
      case hin13 => simp only [List.getElem?_toArray, List.getElem?_cons_succ, List.getElem?_cons_zero]; rfl
      case hin17 => simp only [List.getElem?_toArray, List.getElem?_cons_succ, List.getElem?_cons_zero]; rfl
      case ccn13 =>
        have ra_ := Lib.hid (hk'.out.next (b2.out.drew.mono hB'))
        have sa_ := Lib.hid (b2.out.drew.size)
        have na_ := Lib.hid (show 0 + m ≤ 4000 by omega)
        refine step_bound (by rfl) _ _ (by rfl) w.heap.size B' (.slice none 0 0) 0 [] (by rfl) (World.ownsRow_nil _ _ _ _) A' m c' bs (by rfl) ra_.out na_.out sa_.out ?_
        intro v1n1 u1n1 ho1 hg1
        have O1 := Lib.hid ho1
        have B1 := Lib.hid (b2.out.drew.grown hg1 sa_.out (fun r e => (by cases e)))
        have G1 := Lib.hid (has_grown hg1 hS.2 (by simp [Value.ownBlock]))
        clear ho1 hg1 ra_ sa_ na_
        have hS2 := (⟨G1.out.cell 0, G1.out⟩ : (u1n1).cell? ⟨p, 0, none⟩ = some (K k) ∧ Has (u1n1) p 46 #[K k, K x.val, K x.sum, K x.size, G64 x.tag, .bool x.left, .bool x.right])
        clear hS
        refine hK.out _ _ hS2 (fun hS => ?_)
        clear hS2 hK K_
        try simp only [Act.put, List.setIfInBounds_toArray, List.set_cons_zero, List.set_cons_succ]
        refine wpAnyH_ready (rs := [7]) (by kernel_rfl) (by simp) (AllReadyH.cons (o := ?dqn1d7) ?hin1d7 (fun K_ hK => ?ccn1d7) AllReadyH.nil)
        case hin1d7 => simp only [List.getElem?_toArray, List.getElem?_cons_succ, List.getElem?_cons_zero]; rfl
        case ccn1d7 =>
          go_simp
          obtain ⟨l1n1d, hl1n1d⟩ : ∃ X, ((u1n1).alloc (.cells #[K k, .bool false] 89)) = X := ⟨_, rfl⟩
          obtain ⟨al1n1d, hal1n1d⟩ : ∃ X, u1n1.heap.size = X := ⟨_, rfl⟩
          have BL : Hid (Below w.heap.size w l1n1d) := hl1n1d ▸ (B1.out.alloc B1.out.size _)
          have GX : Hid (Has l1n1d p 46 #[K k, K x.val, K x.sum, K x.size, G64 x.tag, .bool x.left, .bool x.right]) := hl1n1d ▸ (hS.2.alloc _)
          have GL : Hid (Has l1n1d al1n1d 89 #[K k, .bool false]) := hl1n1d ▸ hal1n1d ▸ (Has.new u1n1 _ _)
          have OL : Hid (l1n1d.ownsRow w.heap.size 89 2 v1n1 (0 + m) (flatB ([] ++ bs))) := hl1n1d ▸ (O1.out.alloc _)
          rw [hl1n1d, hal1n1d]
          have HL := Lib.hid hl1n1d
          have HA := Lib.hid hal1n1d
          clear hl1n1d hal1n1d
          have hS2 := (⟨GX.out.cell 0, GX.out⟩ : (l1n1d).cell? ⟨p, 0, none⟩ = some (K k) ∧ Has (l1n1d) p 46 #[K k, K x.val, K x.sum, K x.size, G64 x.tag, .bool x.left, .bool x.right])
          clear hS
          refine hK.out _ _ hS2 (fun hS => ?_)
          clear hS2 hK K_
          try simp only [Act.put, List.setIfInBounds_toArray, List.set_cons_zero, List.set_cons_succ]
          refine wpAnyH_ready (rs := [8]) (by kernel_rfl) (by simp) (AllReadyH.cons (o := ?dqn1dh8) ?hin1dh8 (fun K_ hK => ?ccn1dh8) AllReadyH.nil)
          case hin1dh8 => simp only [List.getElem?_toArray, List.getElem?_cons_succ, List.getElem?_cons_zero]; rfl
          case ccn1dh8 =>
            have nb_ := Lib.hid (show 0 + m + 1 ≤ 4000 by omega)
            refine step_bound (by rfl) _ _ (by rfl) w.heap.size _ v1n1 (0 + m) ([] ++ bs) (by rfl) OL.out (some ⟨al1n1d, 0, none⟩) 1 1 [(k, false)] (by rfl) (litK_of GL.out) nb_.out BL.out.size ?_
            intro q_ z1n1dh ho2 hg2
            have B2 := Lib.hid (BL.out.grown hg2 BL.out.size (fun r e => (OL.out.lt r e).1))
            have G2 := Lib.hid (has_grown hg2 hS.2 (has_not hS.2 (by decide) OL.out))
            rw [Nat.zero_add, List.nil_append] at ho2
            obtain ⟨A_q, c_q, rfl, kk⟩ := LieK.of_own (n := m + 1) (l := bs ++ [(k, false)]) (by rw [List.length_append, hk'.out.len]; rfl) ho2
            have K2q := Lib.hid kk
            clear ho2 hg2 kk nb_
            have hS2 := (⟨G2.out.cell 0, G2.out⟩ : (z1n1dh).cell? ⟨p, 0, none⟩ = some (K k) ∧ Has (z1n1dh) p 46 #[K k, K x.val, K x.sum, K x.size, G64 x.tag, .bool x.left, .bool x.right])
            clear hS
            refine hK.out _ _ hS2 (fun hS => ?_)
            clear hS2 hK K_
            try simp only [Act.put, List.setIfInBounds_toArray, List.set_cons_zero, List.set_cons_succ]
            refine wpAnyH_ready (rs := [9]) (by kernel_rfl) (by simp) (AllReadyH.cons (o := ?dqn1dhi9) ?hin1dhi9 (fun K_ hK => ?ccn1dhi9) AllReadyH.nil)
            case hin1dhi9 => simp only [List.getElem?_toArray, List.getElem?_cons_succ, List.getElem?_cons_zero]; rfl
            case ccn1dhi9 =>
              go_simp
              go_at_call 27
              refine (hL.out A1 c1 B la hla'.out (bs ++ [(k, false)]) A_q (m + 1) c_q z1n1dh.heap.size z1n1dh (Nat.le_trans hB B2.out.size) (Nat.le_refl _) mi (K1'.out.next (B2.out.mono hB)) K2q.out).mono ?_
              rintro e r1n1dhi ⟨rfl, hb⟩
              have B3 := Lib.hid (B2.out.trans (hb.mono B2.out.size))
              have G3 := Lib.hid (hS.2.next hb)
              clear hb
              have hS2 := (⟨G3.out.cell 0, G3.out⟩ : (r1n1dhi).cell? ⟨p, 0, none⟩ = some (K k) ∧ Has (r1n1dhi) p 46 #[K k, K x.val, K x.sum, K x.size, G64 x.tag, .bool x.left, .bool x.right])
              clear hS
              refine hK.out _ _ hS2 (fun hS => ?_)
              clear hS2 hK K_
              try simp only [Act.put, List.setIfInBounds_toArray, List.set_cons_zero, List.set_cons_succ]
              refine wpAnyH_take (i := 10) (oi := ?dqn1dhij10) (v := ?dvn1dhij10) ?hin1dhij10 (by kernel_rfl) (by kernel_rfl) (by kernel_rfl) ?hQn1dhij10 (Or.inl ⟨?hwn1dhij10, ?hyn1dhij10⟩) hS ?hrn1dhij10
              case hin1dhij10 => simp only [List.getElem?_toArray, List.getElem?_cons_succ, List.getElem?_cons_zero]; rfl
              case hQn1dhij10 => exact fun _ _ _ h => h
              case hwn1dhij10 => rfl
              case hyn1dhij10 => (intro w hSw; (try dsimp only at hSw); go_simp; (try with_reducible rfl))
              simp only [Act.put, List.setIfInBounds_toArray, List.set_cons_zero, List.set_cons_succ]
              refine wpAnyH_done (by kernel_rfl) ?_ _
              rw [hfa'.out]
              have B4 := B3
              have G4 := G3
              have y4 := hS.1
              have e5 : (1 + fa : Nat) ≤ 2000 := by omega
              have hWr : Hid (IntKind.i64.wrap (IntKind.i64.wrap (1 + (fa : Int)) + (fb : Int)) = ((1 + fa + fb : Nat) : Int)) := by show _ = _; rw [IntWalk.i64_in (1 + (fa : Int)) (by omega), IntWalk.i64_in _ (by omega)]; push_cast; rfl
              clear hS y0 G1 B1 B2 G2 B3 G3 O1 GL K2q GX BL HL HA
              by_cases hlt : fa < i
              · have e1 : decide ((fa : Int) < (i : Int)) = true := decide_eq_true (by omega)
                have hF2 : Hid (F = 1 + fa) := by have := hF1.out; rwa [if_pos hlt] at this
                go_wp2_with fail
                go_ret
                exact ⟨by rw [hF2.out]; push_cast; rfl, B4.out⟩
              · have e1 : decide ((fa : Int) < (i : Int)) = false := decide_eq_false (by omega)
                have hF2 : Hid (F = 1 + fa + fb) := by have := hF1.out; rwa [if_neg hlt] at this
                go_wp2_with fail
                refine wp_region_held_drew (S := fun u => u.cell? ⟨p, 0, none⟩ = some (K k) ∧ Has u p 46 #[K k, K x.val, K x.sum, K x.size, G64 x.tag, .bool x.left, .bool x.right]) (by kernel_rfl) ⟨y4, has_drew12 G4.out⟩ (fun hS => ?_)
                refine wpAnyH_take (i := 0) (oi := ?dqn20) (v := ?dvn20) ?hin20 (by kernel_rfl) (by kernel_rfl) (by kernel_rfl) ?hQn20 (Or.inl ⟨?hwn20, ?hyn20⟩) hS ?hrn20
                case hin20 => simp only [List.getElem?_toArray, List.getElem?_cons_zero]; rfl
                case hQn20 => exact fun _ _ _ h => h
                case hwn20 => rfl
                case hyn20 => (intro w hSw; (try dsimp only at hSw); go_simp; (try with_reducible rfl))
                simp only [Act.put, List.setIfInBounds_toArray, List.set_cons_zero, List.set_cons_succ]
                refine wpAnyH_take (i := 1) (oi := ?dqn21) (v := ?dvn21) ?hin21 (by kernel_rfl) (by kernel_rfl) (by kernel_rfl) ?hQn21 (Or.inl ⟨?hwn21, ?hyn21⟩) hS ?hrn21
                case hin21 => simp only [List.getElem?_toArray, List.getElem?_cons_succ, List.getElem?_cons_zero]; rfl
                case hQn21 => exact fun _ _ _ h => h
                case hwn21 => rfl
                case hyn21 => (intro w hSw; (try dsimp only at hSw); go_simp; (try with_reducible rfl))
                simp only [Act.put, List.setIfInBounds_toArray, List.set_cons_zero, List.set_cons_succ]
                refine wpAnyH_take (i := 2) (oi := ?dqn22) (v := ?dvn22) ?hin22 (by kernel_rfl) (by kernel_rfl) (by kernel_rfl) ?hQn22 (Or.inl ⟨?hwn22, ?hyn22⟩) hS ?hrn22
                case hin22 => simp only [List.getElem?_toArray, List.getElem?_cons_succ, List.getElem?_cons_zero]; rfl
                case hQn22 => exact fun _ _ _ h => h
                case hwn22 => rfl
                case hyn22 => (intro w hSw; (try dsimp only at hSw); go_simp; (try with_reducible rfl))
                simp only [Act.put, List.setIfInBounds_toArray, List.set_cons_zero, List.set_cons_succ]
                refine wpAnyH_take (i := 3) (oi := ?dqn23) (v := ?dvn23) ?hin23 (by kernel_rfl) (by kernel_rfl) (by kernel_rfl) ?hQn23 (Or.inl ⟨?hwn23, ?hyn23⟩) hS ?hrn23
                case hin23 => simp only [List.getElem?_toArray, List.getElem?_cons_succ, List.getElem?_cons_zero]; rfl
                case hQn23 => exact fun _ _ _ h => h
                case hwn23 => rfl
                case hyn23 => (intro w hSw; (try dsimp only at hSw); go_simp; (try with_reducible rfl))
                simp only [Act.put, List.setIfInBounds_toArray, List.set_cons_zero, List.set_cons_succ]
                refine wpAnyH_take (i := 4) (oi := ?dqn24) (v := ?dvn24) ?hin24 (by kernel_rfl) (by kernel_rfl) (by kernel_rfl) ?hQn24 (Or.inl ⟨?hwn24, ?hyn24⟩) hS ?hrn24
                case hin24 => simp only [List.getElem?_toArray, List.getElem?_cons_succ, List.getElem?_cons_zero]; rfl
                case hQn24 => exact fun _ _ _ h => h
                case hwn24 => rfl
                case hyn24 => (intro w hSw; (try dsimp only at hSw); go_simp; (try with_reducible rfl))
                simp only [Act.put, List.setIfInBounds_toArray, List.set_cons_zero, List.set_cons_succ]
                refine wpAnyH_take (i := 6) (oi := ?dqn26) (v := ?dvn26) ?hin26 (by kernel_rfl) (by kernel_rfl) (by kernel_rfl) ?hQn26 (Or.inl ⟨?hwn26, ?hyn26⟩) hS ?hrn26
                case hin26 => simp only [List.getElem?_toArray, List.getElem?_cons_succ, List.getElem?_cons_zero]; rfl
                case hQn26 => exact fun _ _ _ h => h
                case hwn26 => rfl
                case hyn26 => (intro w hSw; (try dsimp only at hSw); go_simp; (try with_reducible rfl))
                simp only [Act.put, List.setIfInBounds_toArray, List.set_cons_zero, List.set_cons_succ]
                refine wpAnyH_take (i := 7) (oi := ?dqn27) (v := ?dvn27) ?hin27 (by kernel_rfl) (by kernel_rfl) (by kernel_rfl) ?hQn27 (Or.inl ⟨?hwn27, ?hyn27⟩) hS ?hrn27
                case hin27 => simp only [List.getElem?_toArray, List.getElem?_cons_succ, List.getElem?_cons_zero]; rfl
                case hQn27 => exact fun _ _ _ h => h
                case hwn27 => rfl
                case hyn27 => (intro w hSw; (try dsimp only at hSw); go_simp; (try with_reducible rfl))
                simp only [Act.put, List.setIfInBounds_toArray, List.set_cons_zero, List.set_cons_succ]
                refine wpAnyH_take (i := 8) (oi := ?dqn28) (v := ?dvn28) ?hin28 (by kernel_rfl) (by kernel_rfl) (by kernel_rfl) ?hQn28 (Or.inl ⟨?hwn28, ?hyn28⟩) hS ?hrn28
                case hin28 => simp only [List.getElem?_toArray, List.getElem?_cons_succ, List.getElem?_cons_zero]; rfl
                case hQn28 => exact fun _ _ _ h => h
                case hwn28 => rfl
                case hyn28 => (intro w hSw; (try dsimp only at hSw); go_simp; (try with_reducible rfl))
                simp only [Act.put, List.setIfInBounds_toArray, List.set_cons_zero, List.set_cons_succ]
                refine wpAnyH_ready (rs := [5, 9]) (by kernel_rfl) (by simp) (AllReadyH.cons (o := ?dqn25) ?hin25 (fun K_ hK => ?ccn25) (AllReadyH.cons (o := ?dqn29) ?hin29 (fun K_ hK => ?ccn29) AllReadyH.nil))
                case hin25 => simp only [List.getElem?_toArray, List.getElem?_cons_succ, List.getElem?_cons_zero]; rfl
                case hin29 => simp only [List.getElem?_toArray, List.getElem?_cons_succ, List.getElem?_cons_zero]; rfl
                case ccn25 =>
                  have ra_ := Lib.hid (hk'.out.next (B4.out.drew.mono hB'))
                  have sa_ := Lib.hid (B4.out.drew.size)
                  have na_ := Lib.hid (show 0 + m ≤ 4000 by omega)
                  refine step_bound (by rfl) _ _ (by rfl) w.heap.size B' (.slice none 0 0) 0 [] (by rfl) (World.ownsRow_nil _ _ _ _) A' m c' bs (by rfl) ra_.out na_.out sa_.out ?_
                  intro v2n2 u2n2 ho1 hg1
                  have O1 := Lib.hid ho1
                  have B1 := Lib.hid (B4.out.drew.grown hg1 sa_.out (fun r e => (by cases e)))
                  have G1 := Lib.hid (has_grown hg1 hS.2 (by simp [Value.ownBlock]))
                  clear ho1 hg1 ra_ sa_ na_
                  have hS2 := (⟨G1.out.cell 0, G1.out⟩ : (u2n2).cell? ⟨p, 0, none⟩ = some (K k) ∧ Has (u2n2) p 46 #[K k, K x.val, K x.sum, K x.size, G64 x.tag, .bool x.left, .bool x.right])
                  clear hS
                  refine hK.out _ _ hS2 (fun hS => ?_)
                  clear hS2 hK K_
                  try simp only [Act.put, List.setIfInBounds_toArray, List.set_cons_zero, List.set_cons_succ]
                  refine wpAnyH_ready (rs := [9]) (by kernel_rfl) (by simp) (AllReadyH.cons (o := ?dqn2f9) ?hin2f9 (fun K_ hK => ?ccn2f9) AllReadyH.nil)
                  case hin2f9 => simp only [List.getElem?_toArray, List.getElem?_cons_succ, List.getElem?_cons_zero]; rfl
                  case ccn2f9 =>
                    go_simp
                    obtain ⟨l2n2f, hl2n2f⟩ : ∃ X, ((u2n2).alloc (.cells #[K k, .bool true] 89)) = X := ⟨_, rfl⟩
                    obtain ⟨al2n2f, hal2n2f⟩ : ∃ X, u2n2.heap.size = X := ⟨_, rfl⟩
                    have BL : Hid (Below w.heap.size w l2n2f) := hl2n2f ▸ (B1.out.alloc B1.out.size _)
                    have GX : Hid (Has l2n2f p 46 #[K k, K x.val, K x.sum, K x.size, G64 x.tag, .bool x.left, .bool x.right]) := hl2n2f ▸ (hS.2.alloc _)
                    have GL : Hid (Has l2n2f al2n2f 89 #[K k, .bool true]) := hl2n2f ▸ hal2n2f ▸ (Has.new u2n2 _ _)
                    have OL : Hid (l2n2f.ownsRow w.heap.size 89 2 v2n2 (0 + m) (flatB ([] ++ bs))) := hl2n2f ▸ (O1.out.alloc _)
                    rw [hl2n2f, hal2n2f]
                    have HL := Lib.hid hl2n2f
                    have HA := Lib.hid hal2n2f
                    clear hl2n2f hal2n2f
                    have hS2 := (⟨GX.out.cell 0, GX.out⟩ : (l2n2f).cell? ⟨p, 0, none⟩ = some (K k) ∧ Has (l2n2f) p 46 #[K k, K x.val, K x.sum, K x.size, G64 x.tag, .bool x.left, .bool x.right])
                    clear hS
                    refine hK.out _ _ hS2 (fun hS => ?_)
                    clear hS2 hK K_
                    try simp only [Act.put, List.setIfInBounds_toArray, List.set_cons_zero, List.set_cons_succ]
                    refine wpAnyH_ready (rs := [10]) (by kernel_rfl) (by simp) (AllReadyH.cons (o := ?dqn2fj10) ?hin2fj10 (fun K_ hK => ?ccn2fj10) AllReadyH.nil)
                    case hin2fj10 => simp only [List.getElem?_toArray, List.getElem?_cons_succ, List.getElem?_cons_zero]; rfl
                    case ccn2fj10 =>
                      have nb_ := Lib.hid (show 0 + m + 1 ≤ 4000 by omega)
                      refine step_bound (by rfl) _ _ (by rfl) w.heap.size _ v2n2 (0 + m) ([] ++ bs) (by rfl) OL.out (some ⟨al2n2f, 0, none⟩) 1 1 [(k, true)] (by rfl) (litK_of GL.out) nb_.out BL.out.size ?_
                      intro q_ z2n2fj ho2 hg2
                      have B2 := Lib.hid (BL.out.grown hg2 BL.out.size (fun r e => (OL.out.lt r e).1))
                      have G2 := Lib.hid (has_grown hg2 hS.2 (has_not hS.2 (by decide) OL.out))
                      rw [Nat.zero_add, List.nil_append] at ho2
                      obtain ⟨A_q, c_q, rfl, kk⟩ := LieK.of_own (n := m + 1) (l := bs ++ [(k, true)]) (by rw [List.length_append, hk'.out.len]; rfl) ho2
                      have K2q := Lib.hid kk
                      clear ho2 hg2 kk nb_
                      have hS2 := (⟨G2.out.cell 0, G2.out⟩ : (z2n2fj).cell? ⟨p, 0, none⟩ = some (K k) ∧ Has (z2n2fj) p 46 #[K k, K x.val, K x.sum, K x.size, G64 x.tag, .bool x.left, .bool x.right])
                      clear hS
                      refine hK.out _ _ hS2 (fun hS => ?_)
                      clear hS2 hK K_
                      try simp only [Act.put, List.setIfInBounds_toArray, List.set_cons_zero, List.set_cons_succ]
                      refine wpAnyH_ready (rs := [11]) (by kernel_rfl) (by simp) (AllReadyH.cons (o := ?dqn2fjk11) ?hin2fjk11 (fun K_ hK => ?ccn2fjk11) AllReadyH.nil)
                      case hin2fjk11 => simp only [List.getElem?_toArray, List.getElem?_cons_succ, List.getElem?_cons_zero]; rfl
                      case ccn2fjk11 =>
                        go_simp
                        go_at_call 27
                        refine (hR.out A2 c2 B lb hlb'.out (bs ++ [(k, true)]) A_q (m + 1) c_q z2n2fj.heap.size z2n2fj (Nat.le_trans hB B2.out.size) (Nat.le_refl _) mj (K2'.out.next (B2.out.mono hB)) K2q.out).mono ?_
                        rintro e r2n2fjk ⟨rfl, hb⟩
                        have B3 := Lib.hid (B2.out.trans (hb.mono B2.out.size))
                        have G3 := Lib.hid (hS.2.next hb)
                        clear hb
                        have hS2 := (⟨G3.out.cell 0, G3.out⟩ : (r2n2fjk).cell? ⟨p, 0, none⟩ = some (K k) ∧ Has (r2n2fjk) p 46 #[K k, K x.val, K x.sum, K x.size, G64 x.tag, .bool x.left, .bool x.right])
                        clear hS
                        refine hK.out _ _ hS2 (fun hS => ?_)
                        clear hS2 hK K_
                        try simp only [Act.put, List.setIfInBounds_toArray, List.set_cons_zero, List.set_cons_succ]
                        refine wpAnyH_take (i := 12) (oi := ?dqn2fjkl12) (v := ?dvn2fjkl12) ?hin2fjkl12 (by kernel_rfl) (by kernel_rfl) (by kernel_rfl) ?hQn2fjkl12 (Or.inl ⟨?hwn2fjkl12, ?hyn2fjkl12⟩) hS ?hrn2fjkl12
                        case hin2fjkl12 => simp only [List.getElem?_toArray, List.getElem?_cons_succ, List.getElem?_cons_zero]; rfl
                        case hQn2fjkl12 => exact fun _ _ _ h => h
                        case hwn2fjkl12 => rfl
                        case hyn2fjkl12 => (intro w hSw; (try dsimp only at hSw); go_simp; (try with_reducible rfl))
                        simp only [Act.put, List.setIfInBounds_toArray, List.set_cons_zero, List.set_cons_succ]
                        refine wpAnyH_take (i := 13) (oi := ?dqn2fjkl13) (v := ?dvn2fjkl13) ?hin2fjkl13 (by kernel_rfl) (by kernel_rfl) (by kernel_rfl) ?hQn2fjkl13 (Or.inl ⟨?hwn2fjkl13, ?hyn2fjkl13⟩) hS ?hrn2fjkl13
                        case hin2fjkl13 => simp only [List.getElem?_toArray, List.getElem?_cons_succ, List.getElem?_cons_zero]; rfl
                        case hQn2fjkl13 => exact fun _ _ _ h => h
                        case hwn2fjkl13 => rfl
                        case hyn2fjkl13 => (intro w hSw; (try dsimp only at hSw); go_simp; (try with_reducible rfl))
                        simp only [Act.put, List.setIfInBounds_toArray, List.set_cons_zero, List.set_cons_succ]
                        refine wpAnyH_done (by kernel_rfl) ?_ _
                        rw [hfb'.out]
                        clear hS
                        go_wp2_with fail
                        go_ret
                        exact ⟨by rw [hF2.out, ← hWr.out]; rfl, B3.out⟩
                case ccn29 =>
                  go_simp
                  obtain ⟨l2n2, hl2n2⟩ : ∃ X, ((r1n1dhi).alloc (.cells #[K k, .bool true] 89)).drew = X := ⟨_, rfl⟩
                  obtain ⟨al2n2, hal2n2⟩ : ∃ X, r1n1dhi.heap.size = X := ⟨_, rfl⟩
                  have BL : Hid (Below w.heap.size w l2n2) := hl2n2 ▸ ((B4.out).alloc B4.out.size _).drew
                  have GX : Hid (Has l2n2 p 46 #[K k, K x.val, K x.sum, K x.size, G64 x.tag, .bool x.left, .bool x.right]) := hl2n2 ▸ has_drew12 (G4.out.alloc _)
                  have GL : Hid (Has l2n2 al2n2 89 #[K k, .bool true]) := hl2n2 ▸ hal2n2 ▸ has_drew12 (Has.new (r1n1dhi) _ _)
                  rw [hl2n2, hal2n2]
                  have HL := Lib.hid hl2n2
                  have HA := Lib.hid hal2n2
                  clear hl2n2 hal2n2
                  have hS2 := (⟨GX.out.cell 0, GX.out⟩ : (l2n2).cell? ⟨p, 0, none⟩ = some (K k) ∧ Has (l2n2) p 46 #[K k, K x.val, K x.sum, K x.size, G64 x.tag, .bool x.left, .bool x.right])
                  clear hS
                  refine hK.out _ _ hS2 (fun hS => ?_)
                  clear hS2 hK K_
                  try simp only [Act.put, List.setIfInBounds_toArray, List.set_cons_zero, List.set_cons_succ]
                  refine wpAnyH_ready (rs := [5]) (by kernel_rfl) (by simp) (AllReadyH.cons (o := ?dqn2j5) ?hin2j5 (fun K_ hK => ?ccn2j5) AllReadyH.nil)
                  case hin2j5 => simp only [List.getElem?_toArray, List.getElem?_cons_succ, List.getElem?_cons_zero]; rfl
                  case ccn2j5 =>
                    have ra_ := Lib.hid (hk'.out.next (BL.out.mono hB'))
                    have sa_ := Lib.hid (BL.out.size)
                    have na_ := Lib.hid (show 0 + m ≤ 4000 by omega)
                    refine step_bound (by rfl) _ _ (by rfl) w.heap.size B' (.slice none 0 0) 0 [] (by rfl) (World.ownsRow_nil _ _ _ _) A' m c' bs (by rfl) ra_.out na_.out sa_.out ?_
                    intro v2n2j u2n2j ho1 hg1
                    have O1 := Lib.hid ho1
                    have B1 := Lib.hid (BL.out.grown hg1 sa_.out (fun r e => (by cases e)))
                    have G1 := Lib.hid (has_grown hg1 hS.2 (by simp [Value.ownBlock]))
                    have GL := Lib.hid (has_grown hg1 GL.out (by simp [Value.ownBlock]))
                    clear ho1 hg1 ra_ sa_ na_
                    have hS2 := (⟨G1.out.cell 0, G1.out⟩ : (u2n2j).cell? ⟨p, 0, none⟩ = some (K k) ∧ Has (u2n2j) p 46 #[K k, K x.val, K x.sum, K x.size, G64 x.tag, .bool x.left, .bool x.right])
                    clear hS
                    refine hK.out _ _ hS2 (fun hS => ?_)
                    clear hS2 hK K_
                    try simp only [Act.put, List.setIfInBounds_toArray, List.set_cons_zero, List.set_cons_succ]
                    refine wpAnyH_ready (rs := [10]) (by kernel_rfl) (by simp) (AllReadyH.cons (o := ?dqn2jf10) ?hin2jf10 (fun K_ hK => ?ccn2jf10) AllReadyH.nil)
                    case hin2jf10 => simp only [List.getElem?_toArray, List.getElem?_cons_succ, List.getElem?_cons_zero]; rfl
                    case ccn2jf10 =>
                      have nb_ := Lib.hid (show 0 + m + 1 ≤ 4000 by omega)
                      refine step_bound (by rfl) _ _ (by rfl) w.heap.size _ v2n2j (0 + m) ([] ++ bs) (by rfl) O1.out (some ⟨al2n2, 0, none⟩) 1 1 [(k, true)] (by rfl) (litK_of GL.out) nb_.out B1.out.size ?_
                      intro q_ z2n2jf ho2 hg2
                      have B2 := Lib.hid (B1.out.grown hg2 B1.out.size (fun r e => (O1.out.lt r e).1))
                      have G2 := Lib.hid (has_grown hg2 hS.2 (has_not hS.2 (by decide) O1.out))
                      rw [Nat.zero_add, List.nil_append] at ho2
                      obtain ⟨A_q, c_q, rfl, kk⟩ := LieK.of_own (n := m + 1) (l := bs ++ [(k, true)]) (by rw [List.length_append, hk'.out.len]; rfl) ho2
                      have K2q := Lib.hid kk
                      clear ho2 hg2 kk nb_
                      have hS2 := (⟨G2.out.cell 0, G2.out⟩ : (z2n2jf).cell? ⟨p, 0, none⟩ = some (K k) ∧ Has (z2n2jf) p 46 #[K k, K x.val, K x.sum, K x.size, G64 x.tag, .bool x.left, .bool x.right])
                      clear hS
                      refine hK.out _ _ hS2 (fun hS => ?_)
                      clear hS2 hK K_
                      try simp only [Act.put, List.setIfInBounds_toArray, List.set_cons_zero, List.set_cons_succ]
                      refine wpAnyH_ready (rs := [11]) (by kernel_rfl) (by simp) (AllReadyH.cons (o := ?dqn2jfk11) ?hin2jfk11 (fun K_ hK => ?ccn2jfk11) AllReadyH.nil)
                      case hin2jfk11 => simp only [List.getElem?_toArray, List.getElem?_cons_succ, List.getElem?_cons_zero]; rfl
                      case ccn2jfk11 =>
                        go_simp
                        go_at_call 27
                        refine (hR.out A2 c2 B lb hlb'.out (bs ++ [(k, true)]) A_q (m + 1) c_q z2n2jf.heap.size z2n2jf (Nat.le_trans hB B2.out.size) (Nat.le_refl _) mj (K2'.out.next (B2.out.mono hB)) K2q.out).mono ?_
                        rintro e r2n2jfk ⟨rfl, hb⟩
                        have B3 := Lib.hid (B2.out.trans (hb.mono B2.out.size))
                        have G3 := Lib.hid (hS.2.next hb)
                        clear hb
                        have hS2 := (⟨G3.out.cell 0, G3.out⟩ : (r2n2jfk).cell? ⟨p, 0, none⟩ = some (K k) ∧ Has (r2n2jfk) p 46 #[K k, K x.val, K x.sum, K x.size, G64 x.tag, .bool x.left, .bool x.right])
                        clear hS
                        refine hK.out _ _ hS2 (fun hS => ?_)
                        clear hS2 hK K_
                        try simp only [Act.put, List.setIfInBounds_toArray, List.set_cons_zero, List.set_cons_succ]
                        refine wpAnyH_take (i := 12) (oi := ?dqn2jfkl12) (v := ?dvn2jfkl12) ?hin2jfkl12 (by kernel_rfl) (by kernel_rfl) (by kernel_rfl) ?hQn2jfkl12 (Or.inl ⟨?hwn2jfkl12, ?hyn2jfkl12⟩) hS ?hrn2jfkl12
                        case hin2jfkl12 => simp only [List.getElem?_toArray, List.getElem?_cons_succ, List.getElem?_cons_zero]; rfl
                        case hQn2jfkl12 => exact fun _ _ _ h => h
                        case hwn2jfkl12 => rfl
                        case hyn2jfkl12 => (intro w hSw; (try dsimp only at hSw); go_simp; (try with_reducible rfl))
                        simp only [Act.put, List.setIfInBounds_toArray, List.set_cons_zero, List.set_cons_succ]
                        refine wpAnyH_take (i := 13) (oi := ?dqn2jfkl13) (v := ?dvn2jfkl13) ?hin2jfkl13 (by kernel_rfl) (by kernel_rfl) (by kernel_rfl) ?hQn2jfkl13 (Or.inl ⟨?hwn2jfkl13, ?hyn2jfkl13⟩) hS ?hrn2jfkl13
                        case hin2jfkl13 => simp only [List.getElem?_toArray, List.getElem?_cons_succ, List.getElem?_cons_zero]; rfl
                        case hQn2jfkl13 => exact fun _ _ _ h => h
                        case hwn2jfkl13 => rfl
                        case hyn2jfkl13 => (intro w hSw; (try dsimp only at hSw); go_simp; (try with_reducible rfl))
                        simp only [Act.put, List.setIfInBounds_toArray, List.set_cons_zero, List.set_cons_succ]
                        refine wpAnyH_done (by kernel_rfl) ?_ _
                        rw [hfb'.out]
                        clear hS
                        go_wp2_with fail
                        go_ret
                        exact ⟨by rw [hF2.out, ← hWr.out]; rfl, B3.out⟩
      case ccn17 =>
        go_simp
        obtain ⟨l1n1, hl1n1⟩ : ∃ X, ((W2).alloc (.cells #[K k, .bool false] 89)).drew = X := ⟨_, rfl⟩
        obtain ⟨al1n1, hal1n1⟩ : ∃ X, W2.heap.size = X := ⟨_, rfl⟩
        have BL : Hid (Below w.heap.size w l1n1) := hl1n1 ▸ ((b2.out).alloc b2.out.size _).drew
        have GX : Hid (Has l1n1 p 46 #[K k, K x.val, K x.sum, K x.size, G64 x.tag, .bool x.left, .bool x.right]) := hl1n1 ▸ has_drew12 (gx.out.alloc _)
        have GL : Hid (Has l1n1 al1n1 89 #[K k, .bool false]) := hl1n1 ▸ hal1n1 ▸ has_drew12 (Has.new (W2) _ _)
        rw [hl1n1, hal1n1]
        have HL := Lib.hid hl1n1
        have HA := Lib.hid hal1n1
        clear hl1n1 hal1n1
        have hS2 := (⟨GX.out.cell 0, GX.out⟩ : (l1n1).cell? ⟨p, 0, none⟩ = some (K k) ∧ Has (l1n1) p 46 #[K k, K x.val, K x.sum, K x.size, G64 x.tag, .bool x.left, .bool x.right])
        clear hS
        refine hK.out _ _ hS2 (fun hS => ?_)
        clear hS2 hK K_
        try simp only [Act.put, List.setIfInBounds_toArray, List.set_cons_zero, List.set_cons_succ]
        refine wpAnyH_ready (rs := [3]) (by kernel_rfl) (by simp) (AllReadyH.cons (o := ?dqn1h3) ?hin1h3 (fun K_ hK => ?ccn1h3) AllReadyH.nil)
        case hin1h3 => simp only [List.getElem?_toArray, List.getElem?_cons_succ, List.getElem?_cons_zero]; rfl
        case ccn1h3 =>
          have ra_ := Lib.hid (hk'.out.next (BL.out.mono hB'))
          have sa_ := Lib.hid (BL.out.size)
          have na_ := Lib.hid (show 0 + m ≤ 4000 by omega)
          refine step_bound (by rfl) _ _ (by rfl) w.heap.size B' (.slice none 0 0) 0 [] (by rfl) (World.ownsRow_nil _ _ _ _) A' m c' bs (by rfl) ra_.out na_.out sa_.out ?_
          intro v1n1h u1n1h ho1 hg1
          have O1 := Lib.hid ho1
          have B1 := Lib.hid (BL.out.grown hg1 sa_.out (fun r e => (by cases e)))
          have G1 := Lib.hid (has_grown hg1 hS.2 (by simp [Value.ownBlock]))
          have GL := Lib.hid (has_grown hg1 GL.out (by simp [Value.ownBlock]))
          clear ho1 hg1 ra_ sa_ na_
          have hS2 := (⟨G1.out.cell 0, G1.out⟩ : (u1n1h).cell? ⟨p, 0, none⟩ = some (K k) ∧ Has (u1n1h) p 46 #[K k, K x.val, K x.sum, K x.size, G64 x.tag, .bool x.left, .bool x.right])
          clear hS
          refine hK.out _ _ hS2 (fun hS => ?_)
          clear hS2 hK K_
          try simp only [Act.put, List.setIfInBounds_toArray, List.set_cons_zero, List.set_cons_succ]
          refine wpAnyH_ready (rs := [8]) (by kernel_rfl) (by simp) (AllReadyH.cons (o := ?dqn1hd8) ?hin1hd8 (fun K_ hK => ?ccn1hd8) AllReadyH.nil)
          case hin1hd8 => simp only [List.getElem?_toArray, List.getElem?_cons_succ, List.getElem?_cons_zero]; rfl
          case ccn1hd8 =>
            have nb_ := Lib.hid (show 0 + m + 1 ≤ 4000 by omega)
            refine step_bound (by rfl) _ _ (by rfl) w.heap.size _ v1n1h (0 + m) ([] ++ bs) (by rfl) O1.out (some ⟨al1n1, 0, none⟩) 1 1 [(k, false)] (by rfl) (litK_of GL.out) nb_.out B1.out.size ?_
            intro q_ z1n1hd ho2 hg2
            have B2 := Lib.hid (B1.out.grown hg2 B1.out.size (fun r e => (O1.out.lt r e).1))
            have G2 := Lib.hid (has_grown hg2 hS.2 (has_not hS.2 (by decide) O1.out))
            rw [Nat.zero_add, List.nil_append] at ho2
            obtain ⟨A_q, c_q, rfl, kk⟩ := LieK.of_own (n := m + 1) (l := bs ++ [(k, false)]) (by rw [List.length_append, hk'.out.len]; rfl) ho2
            have K2q := Lib.hid kk
            clear ho2 hg2 kk nb_
            have hS2 := (⟨G2.out.cell 0, G2.out⟩ : (z1n1hd).cell? ⟨p, 0, none⟩ = some (K k) ∧ Has (z1n1hd) p 46 #[K k, K x.val, K x.sum, K x.size, G64 x.tag, .bool x.left, .bool x.right])
            clear hS
            refine hK.out _ _ hS2 (fun hS => ?_)
            clear hS2 hK K_
            try simp only [Act.put, List.setIfInBounds_toArray, List.set_cons_zero, List.set_cons_succ]
            refine wpAnyH_ready (rs := [9]) (by kernel_rfl) (by simp) (AllReadyH.cons (o := ?dqn1hdi9) ?hin1hdi9 (fun K_ hK => ?ccn1hdi9) AllReadyH.nil)
            case hin1hdi9 => simp only [List.getElem?_toArray, List.getElem?_cons_succ, List.getElem?_cons_zero]; rfl
            case ccn1hdi9 =>
              go_simp
              go_at_call 27
              refine (hL.out A1 c1 B la hla'.out (bs ++ [(k, false)]) A_q (m + 1) c_q z1n1hd.heap.size z1n1hd (Nat.le_trans hB B2.out.size) (Nat.le_refl _) mi (K1'.out.next (B2.out.mono hB)) K2q.out).mono ?_
              rintro e r1n1hdi ⟨rfl, hb⟩
              have B3 := Lib.hid (B2.out.trans (hb.mono B2.out.size))
              have G3 := Lib.hid (hS.2.next hb)
              clear hb
              have hS2 := (⟨G3.out.cell 0, G3.out⟩ : (r1n1hdi).cell? ⟨p, 0, none⟩ = some (K k) ∧ Has (r1n1hdi) p 46 #[K k, K x.val, K x.sum, K x.size, G64 x.tag, .bool x.left, .bool x.right])
              clear hS
              refine hK.out _ _ hS2 (fun hS => ?_)
              clear hS2 hK K_
              try simp only [Act.put, List.setIfInBounds_toArray, List.set_cons_zero, List.set_cons_succ]
              refine wpAnyH_take (i := 10) (oi := ?dqn1hdij10) (v := ?dvn1hdij10) ?hin1hdij10 (by kernel_rfl) (by kernel_rfl) (by kernel_rfl) ?hQn1hdij10 (Or.inl ⟨?hwn1hdij10, ?hyn1hdij10⟩) hS ?hrn1hdij10
              case hin1hdij10 => simp only [List.getElem?_toArray, List.getElem?_cons_succ, List.getElem?_cons_zero]; rfl
              case hQn1hdij10 => exact fun _ _ _ h => h
              case hwn1hdij10 => rfl
              case hyn1hdij10 => (intro w hSw; (try dsimp only at hSw); go_simp; (try with_reducible rfl))
              simp only [Act.put, List.setIfInBounds_toArray, List.set_cons_zero, List.set_cons_succ]
              refine wpAnyH_done (by kernel_rfl) ?_ _
              rw [hfa'.out]
              have B4 := B3
              have G4 := G3
              have y4 := hS.1
              have e5 : (1 + fa : Nat) ≤ 2000 := by omega
              have hWr : Hid (IntKind.i64.wrap (IntKind.i64.wrap (1 + (fa : Int)) + (fb : Int)) = ((1 + fa + fb : Nat) : Int)) := by show _ = _; rw [IntWalk.i64_in (1 + (fa : Int)) (by omega), IntWalk.i64_in _ (by omega)]; push_cast; rfl
              clear hS y0 G1 B1 B2 G2 B3 G3 O1 GL K2q GX BL HL HA
              by_cases hlt : fa < i
              · have e1 : decide ((fa : Int) < (i : Int)) = true := decide_eq_true (by omega)
                have hF2 : Hid (F = 1 + fa) := by have := hF1.out; rwa [if_pos hlt] at this
                go_wp2_with fail
                go_ret
                exact ⟨by rw [hF2.out]; push_cast; rfl, B4.out⟩
              · have e1 : decide ((fa : Int) < (i : Int)) = false := decide_eq_false (by omega)
                have hF2 : Hid (F = 1 + fa + fb) := by have := hF1.out; rwa [if_neg hlt] at this
                go_wp2_with fail
                refine wp_region_held_drew (S := fun u => u.cell? ⟨p, 0, none⟩ = some (K k) ∧ Has u p 46 #[K k, K x.val, K x.sum, K x.size, G64 x.tag, .bool x.left, .bool x.right]) (by kernel_rfl) ⟨y4, has_drew12 G4.out⟩ (fun hS => ?_)
                refine wpAnyH_take (i := 0) (oi := ?dqn30) (v := ?dvn30) ?hin30 (by kernel_rfl) (by kernel_rfl) (by kernel_rfl) ?hQn30 (Or.inl ⟨?hwn30, ?hyn30⟩) hS ?hrn30
                case hin30 => simp only [List.getElem?_toArray, List.getElem?_cons_zero]; rfl
                case hQn30 => exact fun _ _ _ h => h
                case hwn30 => rfl
                case hyn30 => (intro w hSw; (try dsimp only at hSw); go_simp; (try with_reducible rfl))
                simp only [Act.put, List.setIfInBounds_toArray, List.set_cons_zero, List.set_cons_succ]
                refine wpAnyH_take (i := 1) (oi := ?dqn31) (v := ?dvn31) ?hin31 (by kernel_rfl) (by kernel_rfl) (by kernel_rfl) ?hQn31 (Or.inl ⟨?hwn31, ?hyn31⟩) hS ?hrn31
                case hin31 => simp only [List.getElem?_toArray, List.getElem?_cons_succ, List.getElem?_cons_zero]; rfl
                case hQn31 => exact fun _ _ _ h => h
                case hwn31 => rfl
                case hyn31 => (intro w hSw; (try dsimp only at hSw); go_simp; (try with_reducible rfl))
                simp only [Act.put, List.setIfInBounds_toArray, List.set_cons_zero, List.set_cons_succ]
                refine wpAnyH_take (i := 2) (oi := ?dqn32) (v := ?dvn32) ?hin32 (by kernel_rfl) (by kernel_rfl) (by kernel_rfl) ?hQn32 (Or.inl ⟨?hwn32, ?hyn32⟩) hS ?hrn32
                case hin32 => simp only [List.getElem?_toArray, List.getElem?_cons_succ, List.getElem?_cons_zero]; rfl
                case hQn32 => exact fun _ _ _ h => h
                case hwn32 => rfl
                case hyn32 => (intro w hSw; (try dsimp only at hSw); go_simp; (try with_reducible rfl))
                simp only [Act.put, List.setIfInBounds_toArray, List.set_cons_zero, List.set_cons_succ]
                refine wpAnyH_take (i := 3) (oi := ?dqn33) (v := ?dvn33) ?hin33 (by kernel_rfl) (by kernel_rfl) (by kernel_rfl) ?hQn33 (Or.inl ⟨?hwn33, ?hyn33⟩) hS ?hrn33
                case hin33 => simp only [List.getElem?_toArray, List.getElem?_cons_succ, List.getElem?_cons_zero]; rfl
                case hQn33 => exact fun _ _ _ h => h
                case hwn33 => rfl
                case hyn33 => (intro w hSw; (try dsimp only at hSw); go_simp; (try with_reducible rfl))
                simp only [Act.put, List.setIfInBounds_toArray, List.set_cons_zero, List.set_cons_succ]
                refine wpAnyH_take (i := 4) (oi := ?dqn34) (v := ?dvn34) ?hin34 (by kernel_rfl) (by kernel_rfl) (by kernel_rfl) ?hQn34 (Or.inl ⟨?hwn34, ?hyn34⟩) hS ?hrn34
                case hin34 => simp only [List.getElem?_toArray, List.getElem?_cons_succ, List.getElem?_cons_zero]; rfl
                case hQn34 => exact fun _ _ _ h => h
                case hwn34 => rfl
                case hyn34 => (intro w hSw; (try dsimp only at hSw); go_simp; (try with_reducible rfl))
                simp only [Act.put, List.setIfInBounds_toArray, List.set_cons_zero, List.set_cons_succ]
                refine wpAnyH_take (i := 6) (oi := ?dqn36) (v := ?dvn36) ?hin36 (by kernel_rfl) (by kernel_rfl) (by kernel_rfl) ?hQn36 (Or.inl ⟨?hwn36, ?hyn36⟩) hS ?hrn36
                case hin36 => simp only [List.getElem?_toArray, List.getElem?_cons_succ, List.getElem?_cons_zero]; rfl
                case hQn36 => exact fun _ _ _ h => h
                case hwn36 => rfl
                case hyn36 => (intro w hSw; (try dsimp only at hSw); go_simp; (try with_reducible rfl))
                simp only [Act.put, List.setIfInBounds_toArray, List.set_cons_zero, List.set_cons_succ]
                refine wpAnyH_take (i := 7) (oi := ?dqn37) (v := ?dvn37) ?hin37 (by kernel_rfl) (by kernel_rfl) (by kernel_rfl) ?hQn37 (Or.inl ⟨?hwn37, ?hyn37⟩) hS ?hrn37
                case hin37 => simp only [List.getElem?_toArray, List.getElem?_cons_succ, List.getElem?_cons_zero]; rfl
                case hQn37 => exact fun _ _ _ h => h
                case hwn37 => rfl
                case hyn37 => (intro w hSw; (try dsimp only at hSw); go_simp; (try with_reducible rfl))
                simp only [Act.put, List.setIfInBounds_toArray, List.set_cons_zero, List.set_cons_succ]
                refine wpAnyH_take (i := 8) (oi := ?dqn38) (v := ?dvn38) ?hin38 (by kernel_rfl) (by kernel_rfl) (by kernel_rfl) ?hQn38 (Or.inl ⟨?hwn38, ?hyn38⟩) hS ?hrn38
                case hin38 => simp only [List.getElem?_toArray, List.getElem?_cons_succ, List.getElem?_cons_zero]; rfl
                case hQn38 => exact fun _ _ _ h => h
                case hwn38 => rfl
                case hyn38 => (intro w hSw; (try dsimp only at hSw); go_simp; (try with_reducible rfl))
                simp only [Act.put, List.setIfInBounds_toArray, List.set_cons_zero, List.set_cons_succ]
                refine wpAnyH_ready (rs := [5, 9]) (by kernel_rfl) (by simp) (AllReadyH.cons (o := ?dqn35) ?hin35 (fun K_ hK => ?ccn35) (AllReadyH.cons (o := ?dqn39) ?hin39 (fun K_ hK => ?ccn39) AllReadyH.nil))
                case hin35 => simp only [List.getElem?_toArray, List.getElem?_cons_succ, List.getElem?_cons_zero]; rfl
                case hin39 => simp only [List.getElem?_toArray, List.getElem?_cons_succ, List.getElem?_cons_zero]; rfl
                case ccn35 =>
                  have ra_ := Lib.hid (hk'.out.next (B4.out.drew.mono hB'))
                  have sa_ := Lib.hid (B4.out.drew.size)
                  have na_ := Lib.hid (show 0 + m ≤ 4000 by omega)
                  refine step_bound (by rfl) _ _ (by rfl) w.heap.size B' (.slice none 0 0) 0 [] (by rfl) (World.ownsRow_nil _ _ _ _) A' m c' bs (by rfl) ra_.out na_.out sa_.out ?_
                  intro v3n3 u3n3 ho1 hg1
                  have O1 := Lib.hid ho1
                  have B1 := Lib.hid (B4.out.drew.grown hg1 sa_.out (fun r e => (by cases e)))
                  have G1 := Lib.hid (has_grown hg1 hS.2 (by simp [Value.ownBlock]))
                  clear ho1 hg1 ra_ sa_ na_
                  have hS2 := (⟨G1.out.cell 0, G1.out⟩ : (u3n3).cell? ⟨p, 0, none⟩ = some (K k) ∧ Has (u3n3) p 46 #[K k, K x.val, K x.sum, K x.size, G64 x.tag, .bool x.left, .bool x.right])
                  clear hS
                  refine hK.out _ _ hS2 (fun hS => ?_)
                  clear hS2 hK K_
                  try simp only [Act.put, List.setIfInBounds_toArray, List.set_cons_zero, List.set_cons_succ]
                  refine wpAnyH_ready (rs := [9]) (by kernel_rfl) (by simp) (AllReadyH.cons (o := ?dqn3f9) ?hin3f9 (fun K_ hK => ?ccn3f9) AllReadyH.nil)
                  case hin3f9 => simp only [List.getElem?_toArray, List.getElem?_cons_succ, List.getElem?_cons_zero]; rfl
                  case ccn3f9 =>
                    go_simp
                    obtain ⟨l3n3f, hl3n3f⟩ : ∃ X, ((u3n3).alloc (.cells #[K k, .bool true] 89)) = X := ⟨_, rfl⟩
                    obtain ⟨al3n3f, hal3n3f⟩ : ∃ X, u3n3.heap.size = X := ⟨_, rfl⟩
                    have BL : Hid (Below w.heap.size w l3n3f) := hl3n3f ▸ (B1.out.alloc B1.out.size _)
                    have GX : Hid (Has l3n3f p 46 #[K k, K x.val, K x.sum, K x.size, G64 x.tag, .bool x.left, .bool x.right]) := hl3n3f ▸ (hS.2.alloc _)
                    have GL : Hid (Has l3n3f al3n3f 89 #[K k, .bool true]) := hl3n3f ▸ hal3n3f ▸ (Has.new u3n3 _ _)
                    have OL : Hid (l3n3f.ownsRow w.heap.size 89 2 v3n3 (0 + m) (flatB ([] ++ bs))) := hl3n3f ▸ (O1.out.alloc _)
                    rw [hl3n3f, hal3n3f]
                    have HL := Lib.hid hl3n3f
                    have HA := Lib.hid hal3n3f
                    clear hl3n3f hal3n3f
                    have hS2 := (⟨GX.out.cell 0, GX.out⟩ : (l3n3f).cell? ⟨p, 0, none⟩ = some (K k) ∧ Has (l3n3f) p 46 #[K k, K x.val, K x.sum, K x.size, G64 x.tag, .bool x.left, .bool x.right])
                    clear hS
                    refine hK.out _ _ hS2 (fun hS => ?_)
                    clear hS2 hK K_
                    try simp only [Act.put, List.setIfInBounds_toArray, List.set_cons_zero, List.set_cons_succ]
                    refine wpAnyH_ready (rs := [10]) (by kernel_rfl) (by simp) (AllReadyH.cons (o := ?dqn3fj10) ?hin3fj10 (fun K_ hK => ?ccn3fj10) AllReadyH.nil)
                    case hin3fj10 => simp only [List.getElem?_toArray, List.getElem?_cons_succ, List.getElem?_cons_zero]; rfl
                    case ccn3fj10 =>
                      have nb_ := Lib.hid (show 0 + m + 1 ≤ 4000 by omega)
                      refine step_bound (by rfl) _ _ (by rfl) w.heap.size _ v3n3 (0 + m) ([] ++ bs) (by rfl) OL.out (some ⟨al3n3f, 0, none⟩) 1 1 [(k, true)] (by rfl) (litK_of GL.out) nb_.out BL.out.size ?_
                      intro q_ z3n3fj ho2 hg2
                      have B2 := Lib.hid (BL.out.grown hg2 BL.out.size (fun r e => (OL.out.lt r e).1))
                      have G2 := Lib.hid (has_grown hg2 hS.2 (has_not hS.2 (by decide) OL.out))
                      rw [Nat.zero_add, List.nil_append] at ho2
                      obtain ⟨A_q, c_q, rfl, kk⟩ := LieK.of_own (n := m + 1) (l := bs ++ [(k, true)]) (by rw [List.length_append, hk'.out.len]; rfl) ho2
                      have K2q := Lib.hid kk
                      clear ho2 hg2 kk nb_
                      have hS2 := (⟨G2.out.cell 0, G2.out⟩ : (z3n3fj).cell? ⟨p, 0, none⟩ = some (K k) ∧ Has (z3n3fj) p 46 #[K k, K x.val, K x.sum, K x.size, G64 x.tag, .bool x.left, .bool x.right])
                      clear hS
                      refine hK.out _ _ hS2 (fun hS => ?_)
                      clear hS2 hK K_
                      try simp only [Act.put, List.setIfInBounds_toArray, List.set_cons_zero, List.set_cons_succ]
                      refine wpAnyH_ready (rs := [11]) (by kernel_rfl) (by simp) (AllReadyH.cons (o := ?dqn3fjk11) ?hin3fjk11 (fun K_ hK => ?ccn3fjk11) AllReadyH.nil)
                      case hin3fjk11 => simp only [List.getElem?_toArray, List.getElem?_cons_succ, List.getElem?_cons_zero]; rfl
                      case ccn3fjk11 =>
                        go_simp
                        go_at_call 27
                        refine (hR.out A2 c2 B lb hlb'.out (bs ++ [(k, true)]) A_q (m + 1) c_q z3n3fj.heap.size z3n3fj (Nat.le_trans hB B2.out.size) (Nat.le_refl _) mj (K2'.out.next (B2.out.mono hB)) K2q.out).mono ?_
                        rintro e r3n3fjk ⟨rfl, hb⟩
                        have B3 := Lib.hid (B2.out.trans (hb.mono B2.out.size))
                        have G3 := Lib.hid (hS.2.next hb)
                        clear hb
                        have hS2 := (⟨G3.out.cell 0, G3.out⟩ : (r3n3fjk).cell? ⟨p, 0, none⟩ = some (K k) ∧ Has (r3n3fjk) p 46 #[K k, K x.val, K x.sum, K x.size, G64 x.tag, .bool x.left, .bool x.right])
                        clear hS
                        refine hK.out _ _ hS2 (fun hS => ?_)
                        clear hS2 hK K_
                        try simp only [Act.put, List.setIfInBounds_toArray, List.set_cons_zero, List.set_cons_succ]
                        refine wpAnyH_take (i := 12) (oi := ?dqn3fjkl12) (v := ?dvn3fjkl12) ?hin3fjkl12 (by kernel_rfl) (by kernel_rfl) (by kernel_rfl) ?hQn3fjkl12 (Or.inl ⟨?hwn3fjkl12, ?hyn3fjkl12⟩) hS ?hrn3fjkl12
                        case hin3fjkl12 => simp only [List.getElem?_toArray, List.getElem?_cons_succ, List.getElem?_cons_zero]; rfl
                        case hQn3fjkl12 => exact fun _ _ _ h => h
                        case hwn3fjkl12 => rfl
                        case hyn3fjkl12 => (intro w hSw; (try dsimp only at hSw); go_simp; (try with_reducible rfl))
                        simp only [Act.put, List.setIfInBounds_toArray, List.set_cons_zero, List.set_cons_succ]
                        refine wpAnyH_take (i := 13) (oi := ?dqn3fjkl13) (v := ?dvn3fjkl13) ?hin3fjkl13 (by kernel_rfl) (by kernel_rfl) (by kernel_rfl) ?hQn3fjkl13 (Or.inl ⟨?hwn3fjkl13, ?hyn3fjkl13⟩) hS ?hrn3fjkl13
                        case hin3fjkl13 => simp only [List.getElem?_toArray, List.getElem?_cons_succ, List.getElem?_cons_zero]; rfl
                        case hQn3fjkl13 => exact fun _ _ _ h => h
                        case hwn3fjkl13 => rfl
                        case hyn3fjkl13 => (intro w hSw; (try dsimp only at hSw); go_simp; (try with_reducible rfl))
                        simp only [Act.put, List.setIfInBounds_toArray, List.set_cons_zero, List.set_cons_succ]
                        refine wpAnyH_done (by kernel_rfl) ?_ _
                        rw [hfb'.out]
                        clear hS
                        go_wp2_with fail
                        go_ret
                        exact ⟨by rw [hF2.out, ← hWr.out]; rfl, B3.out⟩
                case ccn39 =>
                  go_simp
                  obtain ⟨l3n3, hl3n3⟩ : ∃ X, ((r1n1hdi).alloc (.cells #[K k, .bool true] 89)).drew = X := ⟨_, rfl⟩
                  obtain ⟨al3n3, hal3n3⟩ : ∃ X, r1n1hdi.heap.size = X := ⟨_, rfl⟩
                  have BL : Hid (Below w.heap.size w l3n3) := hl3n3 ▸ ((B4.out).alloc B4.out.size _).drew
                  have GX : Hid (Has l3n3 p 46 #[K k, K x.val, K x.sum, K x.size, G64 x.tag, .bool x.left, .bool x.right]) := hl3n3 ▸ has_drew12 (G4.out.alloc _)
                  have GL : Hid (Has l3n3 al3n3 89 #[K k, .bool true]) := hl3n3 ▸ hal3n3 ▸ has_drew12 (Has.new (r1n1hdi) _ _)
                  rw [hl3n3, hal3n3]
                  have HL := Lib.hid hl3n3
                  have HA := Lib.hid hal3n3
                  clear hl3n3 hal3n3
                  have hS2 := (⟨GX.out.cell 0, GX.out⟩ : (l3n3).cell? ⟨p, 0, none⟩ = some (K k) ∧ Has (l3n3) p 46 #[K k, K x.val, K x.sum, K x.size, G64 x.tag, .bool x.left, .bool x.right])
                  clear hS
                  refine hK.out _ _ hS2 (fun hS => ?_)
                  clear hS2 hK K_
                  try simp only [Act.put, List.setIfInBounds_toArray, List.set_cons_zero, List.set_cons_succ]
                  refine wpAnyH_ready (rs := [5]) (by kernel_rfl) (by simp) (AllReadyH.cons (o := ?dqn3j5) ?hin3j5 (fun K_ hK => ?ccn3j5) AllReadyH.nil)
                  case hin3j5 => simp only [List.getElem?_toArray, List.getElem?_cons_succ, List.getElem?_cons_zero]; rfl
                  case ccn3j5 =>
                    have ra_ := Lib.hid (hk'.out.next (BL.out.mono hB'))
                    have sa_ := Lib.hid (BL.out.size)
                    have na_ := Lib.hid (show 0 + m ≤ 4000 by omega)
                    refine step_bound (by rfl) _ _ (by rfl) w.heap.size B' (.slice none 0 0) 0 [] (by rfl) (World.ownsRow_nil _ _ _ _) A' m c' bs (by rfl) ra_.out na_.out sa_.out ?_
                    intro v3n3j u3n3j ho1 hg1
                    have O1 := Lib.hid ho1
                    have B1 := Lib.hid (BL.out.grown hg1 sa_.out (fun r e => (by cases e)))
                    have G1 := Lib.hid (has_grown hg1 hS.2 (by simp [Value.ownBlock]))
                    have GL := Lib.hid (has_grown hg1 GL.out (by simp [Value.ownBlock]))
                    clear ho1 hg1 ra_ sa_ na_
                    have hS2 := (⟨G1.out.cell 0, G1.out⟩ : (u3n3j).cell? ⟨p, 0, none⟩ = some (K k) ∧ Has (u3n3j) p 46 #[K k, K x.val, K x.sum, K x.size, G64 x.tag, .bool x.left, .bool x.right])
                    clear hS
                    refine hK.out _ _ hS2 (fun hS => ?_)
                    clear hS2 hK K_
                    try simp only [Act.put, List.setIfInBounds_toArray, List.set_cons_zero, List.set_cons_succ]
                    refine wpAnyH_ready (rs := [10]) (by kernel_rfl) (by simp) (AllReadyH.cons (o := ?dqn3jf10) ?hin3jf10 (fun K_ hK => ?ccn3jf10) AllReadyH.nil)
                    case hin3jf10 => simp only [List.getElem?_toArray, List.getElem?_cons_succ, List.getElem?_cons_zero]; rfl
                    case ccn3jf10 =>
                      have nb_ := Lib.hid (show 0 + m + 1 ≤ 4000 by omega)
                      refine step_bound (by rfl) _ _ (by rfl) w.heap.size _ v3n3j (0 + m) ([] ++ bs) (by rfl) O1.out (some ⟨al3n3, 0, none⟩) 1 1 [(k, true)] (by rfl) (litK_of GL.out) nb_.out B1.out.size ?_
                      intro q_ z3n3jf ho2 hg2
                      have B2 := Lib.hid (B1.out.grown hg2 B1.out.size (fun r e => (O1.out.lt r e).1))
                      have G2 := Lib.hid (has_grown hg2 hS.2 (has_not hS.2 (by decide) O1.out))
                      rw [Nat.zero_add, List.nil_append] at ho2
                      obtain ⟨A_q, c_q, rfl, kk⟩ := LieK.of_own (n := m + 1) (l := bs ++ [(k, true)]) (by rw [List.length_append, hk'.out.len]; rfl) ho2
                      have K2q := Lib.hid kk
                      clear ho2 hg2 kk nb_
                      have hS2 := (⟨G2.out.cell 0, G2.out⟩ : (z3n3jf).cell? ⟨p, 0, none⟩ = some (K k) ∧ Has (z3n3jf) p 46 #[K k, K x.val, K x.sum, K x.size, G64 x.tag, .bool x.left, .bool x.right])
                      clear hS
                      refine hK.out _ _ hS2 (fun hS => ?_)
                      clear hS2 hK K_
                      try simp only [Act.put, List.setIfInBounds_toArray, List.set_cons_zero, List.set_cons_succ]
                      refine wpAnyH_ready (rs := [11]) (by kernel_rfl) (by simp) (AllReadyH.cons (o := ?dqn3jfk11) ?hin3jfk11 (fun K_ hK => ?ccn3jfk11) AllReadyH.nil)
                      case hin3jfk11 => simp only [List.getElem?_toArray, List.getElem?_cons_succ, List.getElem?_cons_zero]; rfl
                      case ccn3jfk11 =>
                        go_simp
                        go_at_call 27
                        refine (hR.out A2 c2 B lb hlb'.out (bs ++ [(k, true)]) A_q (m + 1) c_q z3n3jf.heap.size z3n3jf (Nat.le_trans hB B2.out.size) (Nat.le_refl _) mj (K2'.out.next (B2.out.mono hB)) K2q.out).mono ?_
                        rintro e r3n3jfk ⟨rfl, hb⟩
                        have B3 := Lib.hid (B2.out.trans (hb.mono B2.out.size))
                        have G3 := Lib.hid (hS.2.next hb)
                        clear hb
                        have hS2 := (⟨G3.out.cell 0, G3.out⟩ : (r3n3jfk).cell? ⟨p, 0, none⟩ = some (K k) ∧ Has (r3n3jfk) p 46 #[K k, K x.val, K x.sum, K x.size, G64 x.tag, .bool x.left, .bool x.right])
                        clear hS
                        refine hK.out _ _ hS2 (fun hS => ?_)
                        clear hS2 hK K_
                        try simp only [Act.put, List.setIfInBounds_toArray, List.set_cons_zero, List.set_cons_succ]
                        refine wpAnyH_take (i := 12) (oi := ?dqn3jfkl12) (v := ?dvn3jfkl12) ?hin3jfkl12 (by kernel_rfl) (by kernel_rfl) (by kernel_rfl) ?hQn3jfkl12 (Or.inl ⟨?hwn3jfkl12, ?hyn3jfkl12⟩) hS ?hrn3jfkl12
                        case hin3jfkl12 => simp only [List.getElem?_toArray, List.getElem?_cons_succ, List.getElem?_cons_zero]; rfl
                        case hQn3jfkl12 => exact fun _ _ _ h => h
                        case hwn3jfkl12 => rfl
                        case hyn3jfkl12 => (intro w hSw; (try dsimp only at hSw); go_simp; (try with_reducible rfl))
                        simp only [Act.put, List.setIfInBounds_toArray, List.set_cons_zero, List.set_cons_succ]
                        refine wpAnyH_take (i := 13) (oi := ?dqn3jfkl13) (v := ?dvn3jfkl13) ?hin3jfkl13 (by kernel_rfl) (by kernel_rfl) (by kernel_rfl) ?hQn3jfkl13 (Or.inl ⟨?hwn3jfkl13, ?hyn3jfkl13⟩) hS ?hrn3jfkl13
                        case hin3jfkl13 => simp only [List.getElem?_toArray, List.getElem?_cons_succ, List.getElem?_cons_zero]; rfl
                        case hQn3jfkl13 => exact fun _ _ _ h => h
                        case hwn3jfkl13 => rfl
                        case hyn3jfkl13 => (intro w hSw; (try dsimp only at hSw); go_simp; (try with_reducible rfl))
                        simp only [Act.put, List.setIfInBounds_toArray, List.set_cons_zero, List.set_cons_succ]
                        refine wpAnyH_done (by kernel_rfl) ?_ _
                        rw [hfb'.out]
                        clear hS
                        go_wp2_with fail
                        go_ret
                        exact ⟨by rw [hF2.out, ← hWr.out]; rfl, B3.out⟩
end Go.Proofs.YtfndaeocdgcaeaaDoor
/- An append that is guarded, where the guard says yes. -/
namespace Go.Proofs.YtfndaeocdgcaeaaDoor
open Go.RowKit

/-- an append that is guarded, where the guard says yes: at a step of a region that draws its order -/
theorem step_append_row_if {P : Program} {w : World} {ops : Array Oper} {o : Oper} {a : Act} {K : Act → World → Prop} {Q : Exit → Act → World → Prop} {E : Prop} (hw : Region.wanted o (yielded ops a.tmps) = true) (s x : Operand) (t : TypeId)
    (ho : o.op = .call { callee := .builtin .append, args := #[s, x], argTypes := #[t, t] })
    (base : Nat) (e : TypeId) (i : TypeInfo) (z : Value) (size bytes : Nat) (ht : P.underlying t = some (.slice e)) (hi : P.info? e = some i) (hz : i.zero = some z)
    (hsize : i.size = size) (hby : i.bytes = bytes) (hzs : z.cells.size = size) (hsz : 0 < size)
    (v : Value) (n : Nat) (xs : List Value) (hs : a.eval s = v) (hown : w.ownsRow base e size v n xs)
    (A : Option Addr) (m c : Nat) (news : List Value) (hx : a.eval x = .slice A m c) (hA : A = none → c = 0) (hmc : m ≤ c) (hl : news.length = m * size) (B : Nat) (hr : Row w B A news) (h1 : ∀ u ∈ news, u.oneCell' = true)
    (h63 : n + m ≤ maxLen) (hbytes : (n + m) * bytes ≤ 140737488355328) (hbase : base ≤ w.heap.size)
    (h : ∀ v' w', w'.ownsRow base e size v' (n + m) (xs ++ news) → w.grownBy w' v.ownBlock → K (a.put o.dst v') w') :
    if Region.wanted o (yielded ops a.tmps) = true then Oper.wp P o a w K Q else E := by
  rw [if_pos hw]
  cases A with
  | none =>
    obtain rfl : c = 0 := hA rfl
    obtain rfl : m = 0 := by omega
    obtain rfl : news = [] := List.eq_nil_of_length_eq_zero (by simpa using hl)
    have hrun := run_append_owned_none (P := P) (w := w) base t o.type e i size ht hi v n xs hown
    unfold Oper.wp execOp
    simp only [ho, resolve, invoke, builtin, Sem.run_bind, Sem.run_pure, Result.andThen_ok, List.map_toArray, List.map_cons, List.map_nil, hs, hx, hrun]
    exact h v w (by simpa using hown) (World.grownBy.refl _ _)
  | some ad =>
    exact wp_append_own w s x t ho base e i z size bytes ht hi hz hsize hby hzs hsz v n xs hs hown ad m c news hx hl (fun j u hu => (hr.at_ hu).2) h1 h63 hbytes hbase fun v' w' p q _ => h v' w' p q
theorem wpList_append_row_if {P : Program} {w : World} {ops : Array Oper} {rest : List Oper} {o : Oper} {a : Act} {Q : Exit → Act → World → Prop} (hw : Region.wanted o (yielded ops a.tmps) = true) (s x : Operand) (t : TypeId)
    (ho : o.op = .call { callee := .builtin .append, args := #[s, x], argTypes := #[t, t] })
    (base : Nat) (e : TypeId) (i : TypeInfo) (z : Value) (size bytes : Nat) (ht : P.underlying t = some (.slice e)) (hi : P.info? e = some i) (hz : i.zero = some z)
    (hsize : i.size = size) (hby : i.bytes = bytes) (hzs : z.cells.size = size) (hsz : 0 < size)
    (v : Value) (n : Nat) (xs : List Value) (hs : a.eval s = v) (hown : w.ownsRow base e size v n xs)
    (A : Option Addr) (m c : Nat) (news : List Value) (hx : a.eval x = .slice A m c) (hA : A = none → c = 0) (hmc : m ≤ c) (hl : news.length = m * size) (B : Nat) (hr : Row w B A news) (h1 : ∀ u ∈ news, u.oneCell' = true)
    (h63 : n + m ≤ maxLen) (hbytes : (n + m) * bytes ≤ 140737488355328) (hbase : base ≤ w.heap.size)
    (h : ∀ v' w', w'.ownsRow base e size v' (n + m) (xs ++ news) → w.grownBy w' v.ownBlock → wpList P ops Q rest (a.put o.dst v') w') : wpList P ops Q (o :: rest) a w := by
  show if Region.wanted o (yielded ops a.tmps) = true then Oper.wp P o a w (wpList P ops Q rest) Q ∨ _ else _
  rw [if_pos hw]
  have := step_append_row_if (K := wpList P ops Q rest) (Q := Q) (E := True) hw s x t ho base e i z size bytes ht hi hz hsize hby hzs hsz v n xs hs hown A m c news hx hA hmc hl B hr h1 h63 hbytes hbase h
  rw [if_pos hw] at this
  exact .inl this
end Go.Proofs.YtfndaeocdgcaeaaDoor
/- The document's own answers of layer 12: the check of a tree, and whether one stands ahead of another one. -/
namespace Go.Proofs.YtfndaeocdgcaeaaDoor
open Go.RowKit Go.Proofs.Rowm Go.Proofs.Treem

theorem refMay12 (o : Nat) (h1 : 1 ≤ o) (h7 : o ≤ 7) (w : World) : Calls Tryd.prog 26 #[.int .u8 o] w fun e w' => e = .returned (.bool true) ∧ w = w' := by
  have c0 := Lib.hid (refIs_yes o h1 h7 w)
  go_enter Tryd.func26, Tryd.ntmps26
  go_wp2_with (go_at_call 45; refine c0.out.mono ?_; rintro e w' ⟨rfl, rfl⟩)
  go_ret
  exact ⟨rfl, rfl⟩
theorem refMay12_no (o : Int) (h : ¬ (1 ≤ o ∧ o ≤ 7)) (w : World) : Calls Tryd.prog 26 #[.int .u8 o] w fun e w' => e = .returned (.bool false) ∧ w = w' := by
  have c0 := Lib.hid (refIs_no o h w)
  clear h
  go_enter Tryd.func26, Tryd.ntmps26
  go_wp2_with (go_at_call 45; refine c0.out.mono ?_; rintro e w' ⟨rfl, rfl⟩)
  go_ret
  exact ⟨rfl, rfl⟩
/-- what the check of a tree answers: how many nodes are not wrong, and the error's number -/
def chkV (o : Nat) (t : Tr) : Value := .tuple #[.int .i64 ((firstT o t [] : Nat) : Int), .int .i64 (if firstT o t [] < t.size then 120 else 0)]
theorem refCheck_no (o : Int) (h : ¬ (1 ≤ o ∧ o ≤ 7)) (A : Option Addr) (n c : Nat) (w : World) : Calls Tryd.prog 10 #[.int .u8 o, .slice A n c] w fun e w' => e = .returned (.tuple #[.int .i64 0, .int .i64 2]) ∧ w = w' := by
  have c0 := Lib.hid (refMay12_no o h w)
  clear h
  go_enter Tryd.func10, Tryd.ntmps10
  go_wp2_with (go_at_call 26; refine c0.out.mono ?_; rintro e w' ⟨rfl, rfl⟩)
  refine bodyPost_ret (v := .tuple #[.int .i64 0, .int .i64 2]) (by simp [results, Tryd.results10, go_sem]) rfl ⟨rfl, rfl⟩
set_option maxHeartbeats 1000000 in
theorem refCheck_yes (o : Nat) (h1 : 1 ≤ o) (h7 : o ≤ 7) (t : Tr) (A : Option Addr) (n c B : Nat) (l : List Bd) (hl : l.map strip = t.pre) (hn : t.size = n) (h5 : n ≤ 1000) (w : World) (hB : B ≤ w.heap.size) (h : LieB w B A n c l) :
    Calls Tryd.prog 10 #[.int .u8 o, .slice A n c] w fun e w' => e = .returned (chkV o t) ∧ Below w.heap.size w w' := by
  have c0 := Lib.hid (refMay12 o h1 h7 w)
  have c1 := Lib.hid (refFirst o h1 h7 t A n c B l hl hn h5 [] none 0 0 w.heap.size w hB (Nat.le_refl _) (by omega) h (LieK.none_ w))
  have hle := first_le o t []
  unfold chkV
  rw [hn] at hle ⊢
  obtain ⟨f, hf⟩ : ∃ f, firstT o t [] = f := ⟨_, rfl⟩
  rw [hf] at c1 hle ⊢
  obtain ⟨E, hE⟩ : ∃ E : Int, (if f < n then 120 else 0) = E := ⟨_, rfl⟩
  rw [hE]
  have hE' := Lib.hid hE
  clear h hl hn hf hE hB
  go_enter Tryd.func10, Tryd.ntmps10
  go_wp2_with (first
    | (go_at_call 26; (with_reducible refine c0.out.mono ?_); rintro e w' ⟨rfl, rfl⟩)
    | fail)
  refine c1.out.mono ?_
  rintro e w1 ⟨rfl, hb⟩
  have b1 := Lib.hid hb
  clear hb
  by_cases hlt : f < n
  · have e1 : decide (f < n) = true := decide_eq_true hlt
    have hE2 := Lib.hid (hE'.out.symm.trans (if_pos hlt))
    clear hlt
    go_wp2_with fail
    refine bodyPost_ret (v := .tuple #[.int .i64 (f : Int), .int .i64 120]) (by simp [results, Tryd.results10, go_sem]) rfl ⟨by rw [hE2.out], b1.out⟩
  · have e1 : decide (f < n) = false := decide_eq_false hlt
    have hE2 := Lib.hid (hE'.out.symm.trans (if_neg hlt))
    clear hlt
    go_wp2_with fail
    refine bodyPost_ret (v := .tuple #[.int .i64 (f : Int), .int .i64 0]) (by simp [results, Tryd.results10, go_sem]) rfl ⟨by rw [hE2.out], b1.out⟩
theorem refAhead_no (o : Int) (h : ¬ (1 ≤ o ∧ o ≤ 7)) (A A' : Option Addr) (n c n' c' : Nat) (w : World) : Calls Tryd.prog 13 #[.int .u8 o, .slice A n c, .slice A' n' c'] w fun e w' => e = .returned (.bool false) ∧ w = w' := by
  have c0 := Lib.hid (refMay12_no o h w)
  clear h
  go_enter Tryd.func13, Tryd.ntmps13
  go_wp2_with (go_at_call 26; refine c0.out.mono ?_; rintro e w' ⟨rfl, rfl⟩)
  go_ret
  exact ⟨rfl, rfl⟩
set_option maxHeartbeats 2000000 in
theorem refAhead_yes (o : Nat) (h1 : 1 ≤ o) (h7 : o ≤ 7) (t u : Tr) (A A' : Option Addr) (n c m c' B B' : Nat) (l k : List Bd) (hl : l.map strip = t.pre) (hn : t.size = n) (h5 : n ≤ 1000) (hk : k.map strip = u.pre) (hm : u.size = m) (h6 : m ≤ 1000) (w : World) (hB : B ≤ w.heap.size) (h : LieB w B A n c l) (hB' : B' ≤ w.heap.size) (h' : LieB w B' A' m c' k) :
    Calls Tryd.prog 13 #[.int .u8 o, .slice A n c, .slice A' m c'] w fun e w' => e = .returned (.bool (aheadT o t u)) ∧ Below w.heap.size w w' := by
  obtain ⟨i0, hin, hz0, hz1, hz2⟩ := info_parts info_pair
  have c0 := Lib.hid (refMay12 o h1 h7 w)
  have c1 := Lib.hid (refPairs9 t A n c B l hl hn h5 w hB h)
  have c2 := Lib.hid (fun W (hb : Below w.heap.size w W) => refPairs9 u A' m c' B' k hk hm h6 W (Nat.le_trans hB' hb.size) (h'.next (hb.mono hB')))
  have hlt : Hid (t.pairs.length = n) := by show _ = _; rw [pairs_len, hn]
  have hlu : Hid (u.pairs.length = m) := by show _ = _; rw [pairs_len, hm]
  have hlf : Hid ((flat u.pairs).length = m * 2) := by show _ = _; rw [flat_length, hlu.out]
  have c3 := Lib.hid (fun A c W h => refRises o h1 h7 A (n + m) c (t.pairs ++ u.pairs) (by rw [List.length_append, hlt.out, hlu.out]) (by omega) W h)
  obtain ⟨an, han⟩ : ∃ b, aheadT o t u = b := ⟨_, rfl⟩
  rw [show risesK o ((t.pairs ++ u.pairs).map (·.1)) = an by rw [← han, aheadT, Tr.keys, Tr.keys, List.map_append]] at c3
  rw [han]
  have m1 := Lib.hid (show n + m ≤ maxLen by unfold maxLen; omega)
  have m2 := Lib.hid (show (n + m) * 16 ≤ 140737488355328 by omega)
  clear h hl hn hB h' hk hm hB' han h5 h6
  go_enter Tryd.func13, Tryd.ntmps13
  go_wp2_with (first
    | (go_at_call 26; (with_reducible refine c0.out.mono ?_); rintro e w' ⟨rfl, rfl⟩)
    | fail)
  refine c1.out.mono ?_
  rintro e w1 ⟨v1, rfl, ho1, hb1⟩
  have o1 := Lib.hid ho1
  have b1 := Lib.hid hb1
  clear ho1 hb1
  go_wp2_with fail
  refine (c2.out w1 b1.out).mono ?_
  rintro e w2 ⟨v2, rfl, ho2, hb2⟩
  obtain ⟨A2, q2, rfl, k1, k2, k3⟩ := own_slice ho2
  have o2 := Lib.hid ho2
  have b2 := Lib.hid (Below.after b1.out hb2)
  have o3 := Lib.hid (owned_next o1.out hb2)
  clear ho2 hb2
  go_wp2_with (at_builtin; refine wpList_append_row_if (by rfl) _ _ 67 rfl w.heap.size 94 i0 (.agg #[.int .i64 0, .int .i64 0]) 2 16 Tryd.underlying67 hin hz0 hz1 hz2 rfl (by decide) v1 n (flat t.pairs) rfl o3.out A2 m q2 (flat u.pairs) rfl k3 k1 hlf.out _ (Row.of_own o2.out) (flat_one _) m1.out m2.out b2.out.size ?_)
  intro v4 w4 ho4 hg4
  rw [← flat_append] at ho4
  obtain ⟨A4, q4, rfl, j1, j2, j3⟩ := own_slice ho4
  have r4 := Lib.hid (Row.of_own ho4)
  have b4 := Lib.hid (b2.out.grown hg4 b2.out.size (fun r e => (o3.out.lt r e).1))
  clear ho4 hg4
  go_wp2_with fail
  refine (c3.out A4 q4 w4 r4.out).mono ?_
  rintro e w5 ⟨rfl, hb5⟩
  have b5 := Lib.hid (Below.after b4.out hb5)
  clear hb5
  cases an
  all_goals
    go_wp2
    go_ret
    exact ⟨rfl, b5.out⟩
end Go.Proofs.YtfndaeocdgcaeaaDoor
namespace Go.Proofs.YtfndaeocdgcaeaaDoor
open Go.RowKit Go.Proofs.Treem
set_option maxRecDepth 100000
variable {Nd : NdP} {T : World → Prop}

/-- what package order has to answer, over a condition on the world -/
structure OrdSays (T : World → Prop) : Prop where
  next : ∀ {W W' : World}, T W → Below W.heap.size W W' → T W'
  code : ∀ (w : World) (o : Nat) (a : BitVec 64), 1 ≤ o → o ≤ 7 → T w → Calls Tryd.prog 23 #[.int .u8 o, K a] w fun e w' => e = .returned (.tuple #[V (Ordm.code o a), .int .i64 0]) ∧ Below w.heap.size w w'
  codeNo : ∀ (w : World) (o : Nat) (a : BitVec 64), ¬ (1 ≤ o ∧ o ≤ 7) → Calls Tryd.prog 23 #[.int .u8 o, K a] w fun e w' => e = .returned (.tuple #[.int .u64 0, .int .i64 2]) ∧ Below w.heap.size w w'
  cmp : ∀ (w : World) (o : Nat) (a b : BitVec 64), 1 ≤ o → o ≤ 7 → T w → Calls Tryd.prog 15 #[.int .u8 o, K a, K b] w fun e w' => e = .returned (.int .i64 (Ordm.stand o a b)) ∧ Below w.heap.size w w'
/-- the check's answers, in any order -/
def chkN (o : Nat) (t : Tr) : Nat := if 1 ≤ o ∧ o ≤ 7 then firstT o t [] else 0
def chkE (o : Nat) (t : Tr) : Int := if 1 ≤ o ∧ o ≤ 7 then (if firstT o t [] < t.size then 120 else 0) else 2
def ahd (o : Nat) (t u : Tr) : Bool := decide (1 ≤ o ∧ o ≤ 7) && aheadT o t u
abbrev Checked (o : Nat) (t : Tr) (w : World) (e : Ending) (w' : World) : Prop := e = .returned (.tuple #[.int .i64 ((chkN o t : Nat) : Int), .int .i64 (chkE o t)]) ∧ Below w.heap.size w w'
/-- what the functions of package sound have to answer -/
structure SoundSays (Nd : NdP) (T : World → Prop) : Prop where
  check : ∀ (w : World) (o : Nat) (t : Tr) (p : Option Addr), T w → TreeAt Nd w w.heap.size t p → t.size ≤ 5000 → Calls Tryd.prog 9 #[.int .u8 o, .pointer p] w (Checked o t w)
  exact : ∀ (w : World) (t : Tr) (p : Option Addr), TreeAt Nd w w.heap.size t p → t.size ≤ 5000 → Calls Tryd.prog 11 #[.pointer p] w fun e w' => e = .returned (.bool true) ∧ Below w.heap.size w w'
  ahead : ∀ (w : World) (o : Nat) (t u : Tr) (p q : Option Addr), T w → TreeAt Nd w w.heap.size t p → TreeAt Nd w w.heap.size u q → t.size ≤ 5000 → u.size ≤ 5000 →
    Calls Tryd.prog 12 #[.int .u8 o, .pointer p, .pointer q] w fun e w' => e = .returned (.bool (ahd o t u)) ∧ Below w.heap.size w w'
/-- the document's own answers, in any order -/
theorem refCheck_any (o : Nat) (t : Tr) (A : Option Addr) (n c B : Nat) (l : List Bd) (hl : l.map strip = t.pre) (hn : t.size = n) (h5 : n ≤ 1000) (w : World) (hB : B ≤ w.heap.size) (h : LieB w B A n c l) : Calls Tryd.prog 10 #[.int .u8 o, .slice A n c] w (Checked o t w) := by
  by_cases ho : 1 ≤ o ∧ o ≤ 7
  · unfold Checked chkN chkE
    rw [if_pos ho, if_pos ho]
    exact refCheck_yes o ho.1 ho.2 t A n c B l hl hn h5 w hB h
  · refine (refCheck_no o (by omega) A n c w).mono ?_
    rintro e w' ⟨rfl, rfl⟩
    unfold Checked chkN chkE
    rw [if_neg ho, if_neg ho]
    exact ⟨rfl, Below.refl _ _⟩
theorem refAhead_any (o : Nat) (t u : Tr) (A A' : Option Addr) (n c m c' B B' : Nat) (l k : List Bd) (hl : l.map strip = t.pre) (hn : t.size = n) (h5 : n ≤ 1000) (hk : k.map strip = u.pre) (hm : u.size = m) (h6 : m ≤ 1000) (w : World) (hB : B ≤ w.heap.size) (h : LieB w B A n c l) (hB' : B' ≤ w.heap.size) (h' : LieB w B' A' m c' k) :
    Calls Tryd.prog 13 #[.int .u8 o, .slice A n c, .slice A' m c'] w fun e w' => e = .returned (.bool (ahd o t u)) ∧ Below w.heap.size w w' := by
  by_cases ho : 1 ≤ o ∧ o ≤ 7
  · unfold ahd
    rw [decide_eq_true ho, Bool.true_and]
    exact refAhead_yes o ho.1 ho.2 t u A A' n c m c' B B' l k hl hn h5 hk hm h6 w hB h hB' h'
  · refine (refAhead_no o (by omega) A A' n c m c' w).mono ?_
    rintro e w' ⟨rfl, rfl⟩
    unfold ahd
    rw [decide_eq_false ho, Bool.false_and]
    exact ⟨rfl, Below.refl _ _⟩
theorem chkE_ok (o : Nat) (t : Tr) (h1 : 1 ≤ o) (h7 : o ≤ 7) : (chkE o t == 0) = risesK o t.keys := by
  unfold chkE
  rw [if_pos ⟨h1, h7⟩]
  have h := sound_rises o t
  have hle := first_le o t []
  cases hr : risesK o t.keys with
  | true => rw [if_neg (by rw [h.2 hr]; omega)]; rfl
  | false =>
    have : firstT o t [] ≠ t.size := fun e => by rw [h.1 e] at hr; cases hr
    rw [if_pos (by omega)]; rfl
/-- a tree is none, or a node of two -/
theorem TreeAt.parts {W : World} {B : Nat} : ∀ {t : Tr} {p : Option Addr}, TreeAt Nd W B t p → (p = none ∧ t = .e) ∨ ∃ a pl pr l k v g r S M, p = some a ∧ t = .n l k v g r ∧ Nd W B a ⟨pl, pr, k, v, g, S, M⟩ ∧ TreeAt Nd W B l pl ∧ TreeAt Nd W B r pr
  | .e, _, h => .inl ⟨h, rfl⟩
  | .n .., _, ⟨a, pl, pr, h1, h2, h3, h4⟩ => .inr ⟨a, pl, pr, _, _, _, _, _, _, _, h1, rfl, h2, h3, h4⟩
abbrev tr3 : Tr := .n .e 3#64 0#64 0#64 .e
abbrev tr23 : Tr := .n tr3 2#64 0#64 0#64 .e
set_option maxHeartbeats 4000000 in
theorem alive12_any (hN : NodeSays Nd) (hS : SoundSays Nd T) (hO : OrdSays T) (w : World) (hT : T w) : Calls Tryd.prog 7 #[] w fun e w' => e = .returned (.bool true) ∧ Below w.heap.size w w' := by
  have c1 : Hid (∀ W, Calls Tryd.prog 20 #[.pointer none, .int .i64 3, .int .i64 0, .int .u64 0, .pointer none] W (Stood Nd W none none .e .e 3#64 0#64 0#64)) := fun W => new9 hN W none none .e .e 3#64 0#64 0#64 rfl rfl
  have c2 : Hid (∀ W p, TreeAt Nd W W.heap.size tr3 p → Calls Tryd.prog 20 #[.pointer p, .int .i64 2, .int .i64 0, .int .u64 0, .pointer none] W (Stood Nd W p none tr3 .e 2#64 0#64 0#64)) := fun W p h => new9 hN W p none tr3 .e 2#64 0#64 0#64 h rfl
  have c3 : Hid (∀ W p, Below w.heap.size w W → TreeAt Nd W W.heap.size tr23 p → Calls Tryd.prog 9 #[.int .u8 1, .pointer p] W fun e w' => e = .returned (.tuple #[.int .i64 1, .int .i64 120]) ∧ Below W.heap.size W w') := fun W p hb h => by
    have h1 : chkN 1 tr23 = 1 := by decide
    have h2 : chkE 1 tr23 = 120 := by decide
    have := hS.check W 1 tr23 p (hO.next hT hb) h (by decide)
    unfold Checked at this
    rw [h1, h2] at this
    exact this
  have c4 : Hid (∀ W p, Below w.heap.size w W → TreeAt Nd W W.heap.size tr23 p → Calls Tryd.prog 9 #[.int .u8 2, .pointer p] W fun e w' => e = .returned (.tuple #[.int .i64 2, .int .i64 0]) ∧ Below W.heap.size W w') := fun W p hb h => by
    have h1 : chkN 2 tr23 = 2 := by decide
    have h2 : chkE 2 tr23 = 0 := by decide
    have := hS.check W 2 tr23 p (hO.next hT hb) h (by decide)
    unfold Checked at this
    rw [h1, h2] at this
    exact this
  have c5 : Hid (∀ W p, Below w.heap.size w W → TreeAt Nd W W.heap.size tr23 p → Calls Tryd.prog 9 #[.int .u8 0, .pointer p] W fun e w' => e = .returned (.tuple #[.int .i64 0, .int .i64 2]) ∧ Below W.heap.size W w') := fun W p hb h => by
    have h1 : chkN 0 tr23 = 0 := by decide
    have h2 : chkE 0 tr23 = 2 := by decide
    have := hS.check W 0 tr23 p (hO.next hT hb) h (by decide)
    unfold Checked at this
    rw [h1, h2] at this
    exact this
  have c6 : Hid (∀ W p, TreeAt Nd W W.heap.size tr23 p → Calls Tryd.prog 11 #[.pointer p] W fun e w' => e = .returned (.bool true) ∧ Below W.heap.size W w') := fun W p h => hS.exact W tr23 p h (by decide)
  have hN' := Lib.hid hN
  clear hN hS hO hT
  go_enter Tryd.func7, Tryd.ntmps7
  go_wp2_with fail
  refine (c1.out w).mono ?_
  rintro e w1 ⟨a1, rfl, -, -, ht, hb⟩
  have t1 := Lib.hid ht
  have b1 := Lib.hid hb
  clear ht hb c1
  go_wp2_with fail
  refine (c2.out w1 _ t1.out).mono ?_
  rintro e w2 ⟨a2, rfl, -, -, ht, hb⟩
  have t2 := Lib.hid ht
  have b2 := Lib.hid (Below.after b1.out hb)
  clear ht hb c2 t1 b1
  go_wp2_with fail
  refine (c3.out w2 _ b2.out t2.out).mono ?_
  rintro e w3 ⟨rfl, hb⟩
  have t3 := Lib.hid (t2.out.after hN'.out hb)
  have b3 := Lib.hid (Below.after b2.out hb)
  clear hb c3 t2 b2
  go_wp2_with fail
  refine (c4.out w3 _ b3.out t3.out).mono ?_
  rintro e w4 ⟨rfl, hb⟩
  have t4 := Lib.hid (t3.out.after hN'.out hb)
  have b4 := Lib.hid (Below.after b3.out hb)
  clear hb c4 t3 b3
  go_wp2_with fail
  refine (c5.out w4 _ b4.out t4.out).mono ?_
  rintro e w5 ⟨rfl, hb⟩
  have t5 := Lib.hid (t4.out.after hN'.out hb)
  have b5 := Lib.hid (Below.after b4.out hb)
  clear hb c5 t4 b4
  go_wp2_with fail
  refine (c6.out w5 _ t5.out).mono ?_
  rintro e w6 ⟨rfl, hb⟩
  have b6 := Lib.hid (Below.after b5.out hb)
  clear hb c6 t5 b5
  go_wp2
  go_ret
  exact ⟨rfl, b6.out⟩
end Go.Proofs.YtfndaeocdgcaeaaDoor
