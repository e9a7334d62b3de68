/- Package draw, as it landed: a draws is a block that holds a closure, whose box holds the slice of what was not taken. New, Left, Next, Copy. -/
import Derived.Test.YtmjlabnjgdiakaaDoorL8Steps
import Derived.Lib.LazyBuf
namespace Go.Proofs.YtmjlabnjgdiakaaDoor
open Go.RowKit Go.Proofs.Mixm
set_option maxRecDepth 100000

/-- the closure over the box q -/
abbrev tellV (q : Nat) : Value := .func (.func 21) #[] #[.pointer (some ⟨q, 0, none⟩)]
/-- a draws in memory -/
def NDr : DrP := fun W S a l => ∃ g q A n c, a = ⟨g, 0, none⟩ ∧ S g ∧ S q ∧ (∀ i, S i → i < W.heap.size) ∧ Has W g 44 #[tellV q] ∧ Has W q 22 #[.slice A n c] ∧ l.length = n ∧ n ≤ c ∧ c ≤ maxLen ∧ (A = none → c = 0) ∧ (∀ ad, A = some ad → S ad.block ∧ ad.block ≠ q) ∧ Row W W.heap.size A (l.map V)
theorem ndr_keep {W W' : World} {S : Nat → Prop} {a : Addr} {l : List (BitVec 64)} (h : NDr W S a l) (hb : ∀ i, S i → W'.heap[i]? = W.heap[i]?) : NDr W' S a l := by
  obtain ⟨g, q, A, n, c, rfl, hg, hq, hlt, h1, h2, hn, hnc, hc, hA, hS, hr⟩ := h
  have hlt' : ∀ i, S i → i < W'.heap.size := fun i hi => by
    have := hb i hi
    rw [Array.getElem?_eq_getElem (hlt i hi)] at this
    exact (Array.getElem?_eq_some_iff.1 this).1
  refine ⟨g, q, A, n, c, rfl, hg, hq, hlt', (hb g hg).trans h1, (hb q hq).trans h2, hn, hnc, hc, hA, hS, fun j u hu => ?_⟩
  obtain ⟨ad, rfl, _, hcell⟩ := hr j u hu
  exact ⟨ad, rfl, hlt' _ (hS ad rfl).1, (cell_block (W := W) (W' := W') (a := ad.add j) (by rw [add_block]; exact hb _ (hS ad rfl).1)).trans hcell⟩
theorem ndr_apart {W : World} {g q : Nat} {A : Option Addr} {n c : Nat} (h1 : Has W g 44 #[tellV q]) (h2 : Has W q 22 #[.slice A n c]) : g ≠ q := fun e => by
  subst e
  unfold Has at h1 h2
  rw [h1] at h2
  injection h2 with h2
  injection h2 with _ h3
  cases h3
/-- what was not taken is told, and nothing is taken -/
theorem none_slice (A : Option Addr) (n c : Nat) (hA : A = none → c = 0) (hnc : n ≤ c) (W : World) : (Instr.slice 22 (.slice A n c) (some (.int .i64 0)) none none).run Tryd.prog W = .ok (.slice A n c) W := by
  have hsz := size_u64
  cases A with
  | none =>
    obtain rfl := hA rfl
    obtain rfl : n = 0 := by omega
    simp [Instr.slice, run_underlying Tryd.underlying22, Instr.sliceBounds, run_sliceBound, hsz, Result.andThen]
  | some ad =>
    by_cases h1 : c = 0
    · subst h1
      obtain rfl : n = 0 := by omega
      simp [Instr.slice, run_underlying Tryd.underlying22, Instr.sliceBounds, run_sliceBound, hsz, Result.andThen]
    · simp [Instr.slice, run_underlying Tryd.underlying22, Instr.sliceBounds, run_sliceBound, hsz, Result.andThen, h1, Addr.add]

set_option maxHeartbeats 1000000 in
theorem told_none (q : Nat) (A : Option Addr) (n c : Nat) (w : World) (hA : A = none → c = 0) (hnc : n ≤ c) (h2 : Has w q 22 #[.slice A n c]) :
    Calls Tryd.prog 21 #[.int .i64 0, .pointer (some ⟨q, 0, none⟩)] w fun e w' => e = .returned (.slice A n c) ∧ Below w.heap.size w w' := by
  have c0 : w.cell? ⟨q, 0, none⟩ = some (.slice A n c) := h2.cell 0
  have f0 : w.frozen? ⟨q, 0, none⟩ = false := h2.free 0
  have hq := none_slice A n c hA hnc
  have h2' := Lib.hid h2
  clear h2
  go_enter Tryd.func21, Tryd.ntmps21
  go_wp2
  go_ret
  refine ⟨rfl, ⟨rfl, rfl, rfl, by simp, fun i hi => ?_⟩⟩
  by_cases e : i = q
  · subst e
    have h3 := h2'.out.set 0 (.slice A n c)
    exact h3.trans h2'.out.symm
  · exact Below.heap_setCell w ⟨q, 0, none⟩ _ i e
set_option maxHeartbeats 1000000 in
theorem told_one (q : Nat) (ad b : Addr) (n c : Nat) (w : World) (hb : ∀ W, (Instr.slice 22 (.slice (some ad) n c) (some (.int .i64 1)) none none).run Tryd.prog W = .ok (.slice (some b) (n - 1) (c - 1)) W) (h2 : Has w q 22 #[.slice (some ad) n c]) :
    Calls Tryd.prog 21 #[.int .i64 1, .pointer (some ⟨q, 0, none⟩)] w fun e w' => e = .returned (.slice (some ad) n c) ∧ w' = w.setCell ⟨q, 0, none⟩ (.slice (some b) (n - 1) (c - 1)) := by
  have c0 : w.cell? ⟨q, 0, none⟩ = some (.slice (some ad) n c) := h2.cell 0
  have f0 : w.frozen? ⟨q, 0, none⟩ = false := h2.free 0
  clear h2
  go_enter Tryd.func21, Tryd.ntmps21
  go_wp2
  go_ret
  exact ⟨rfl, rfl⟩

set_option maxHeartbeats 1000000 in
theorem left_some (w : World) (S : Nat → Prop) (a : Addr) (l : List (BitVec 64)) (hd : NDr w S a l) : Calls Tryd.prog 11 #[.pointer (some a)] w fun e w' => e = .returned (.int .i64 (l.length : Int)) ∧ Below w.heap.size w w' := by
  obtain ⟨g, q, A, n, c, rfl, hg, hq, hlt, h1, h2, hn, hnc, hc, hA, hS, hr⟩ := hd
  have c0 : w.cell? ⟨g, 0, none⟩ = some (tellV q) := h1.cell 0
  have hT := Lib.hid (told_none q A n c w hA hnc h2)
  have hn' := Lib.hid hn
  clear hg hq hlt h1 h2 hn hA hS hr
  go_enter Tryd.func11, Tryd.ntmps11
  go_wp2_with fail
  refine hT.out.mono ?_
  rintro e w1 ⟨rfl, hb⟩
  have b1 := Lib.hid hb
  clear hb
  go_wp2
  go_ret
  exact ⟨by show Ending.returned (.int .i64 (n : Int)) = _; rw [hn'.out], b1.out⟩
set_option maxHeartbeats 1000000 in
theorem left_none (w : World) : Calls Tryd.prog 11 #[.pointer none] w fun e w' => e = .returned (.int .i64 0) ∧ Below w.heap.size w w' := by
  go_enter Tryd.func11, Tryd.ntmps11
  go_wp2
  go_ret
  exact ⟨rfl, Below.refl _ _⟩

set_option maxHeartbeats 1000000 in
theorem next_nil (w : World) (k : BitVec 64) (h0 : 0 < w.heap.size) (hs : Steps w) : Calls Tryd.prog 9 #[.pointer none, K k] w fun e w' => e = .returned (V (Drawm.own k)) ∧ Below w.heap.size w w' := by
  have hL := Lib.hid (left_none w)
  have hO := Lib.hid (fun W (hW : Below w.heap.size w W) => of_key k h0 (Nat.le_refl _) hs hW)
  clear hs
  go_enter Tryd.func9, Tryd.ntmps9
  go_wp2_with fail
  refine hL.out.mono ?_
  rintro e w1 ⟨rfl, hb⟩
  have b1 := Lib.hid hb
  clear hb
  go_wp2_with fail
  refine (hO.out w1 b1.out).mono ?_
  rintro e w2 ⟨rfl, hb⟩
  have b2 := Lib.hid (Below.after b1.out hb)
  clear hb
  go_wp2
  go_ret
  exact ⟨rfl, b2.out⟩
set_option maxHeartbeats 1000000 in
theorem next_empty (w : World) (S : Nat → Prop) (a : Addr) (k : BitVec 64) (h0 : 0 < w.heap.size) (hs : Steps w) (hd : NDr w S a []) : Calls Tryd.prog 9 #[.pointer (some a), K k] w fun e w' => e = .returned (V (Drawm.own k)) ∧ Below w.heap.size w w' := by
  have hL := Lib.hid (left_some w S a [] hd)
  have hO := Lib.hid (fun W (hW : Below w.heap.size w W) => of_key k h0 (Nat.le_refl _) hs hW)
  clear hs hd
  go_enter Tryd.func9, Tryd.ntmps9
  go_wp2_with fail
  refine hL.out.mono ?_
  rintro e w1 ⟨rfl, hb⟩
  have b1 := Lib.hid hb
  clear hb
  go_wp2_with fail
  refine (hO.out w1 b1.out).mono ?_
  rintro e w2 ⟨rfl, hb⟩
  have b2 := Lib.hid (Below.after b1.out hb)
  clear hb
  go_wp2
  go_ret
  exact ⟨rfl, b2.out⟩
set_option maxHeartbeats 2000000 in
theorem next_some (w : World) (S : Nat → Prop) (a : Addr) (k x : BitVec 64) (l : List (BitVec 64)) (hd : NDr w S a (x :: l)) : Calls Tryd.prog 9 #[.pointer (some a), K k] w fun e w' => e = .returned (V x) ∧ NDr w' S a l ∧ But S w w' := by
  have hL := Lib.hid (left_some w S a (x :: l) hd)
  obtain ⟨g, q, A, n, c, rfl, hg, hq, hlt, h1, h2, hn, hnc, hc, hA, hS, hr⟩ := hd
  have hgq := ndr_apart h1 h2
  rw [List.length_cons] at hn hL
  rw [hn] at hL
  obtain ⟨ad, rfl, hb, hx⟩ := hr 0 (V x) rfl
  rw [show ad.add 0 = ad by simp [Addr.add]] at hx
  obtain ⟨b, hbb, hcut, hrow⟩ := tail_slice ad n c (by omega) hnc
  obtain ⟨hS1, hS2⟩ := hS ad rfl
  have d1 : ((n : Int) == 0) = false := by simp; omega
  have n1 : 0 < n := by omega
  have n2 : (0 : Int) < (n : Int) := by omega
  have hbody : Hid (∀ W, Below w.heap.size w W → W.cell? ⟨g, 0, none⟩ = some (tellV q) ∧ Has W q 22 #[.slice (some ad) n c] ∧ Has W g 44 #[tellV q] ∧ Row W W.heap.size (some ad) ((x :: l).map V) ∧ (W.setCell ⟨q, 0, none⟩ (.slice (some b) (n - 1) (c - 1))).cell? ad = some (V x)) := by
    intro W hW
    have g1 := h1.next hW
    have g2 := h2.next hW
    have r2 := hr.next hW
    refine ⟨g1.cell 0, g2, g1, r2, ?_⟩
    rw [World.cell?_setCell_other W ⟨q, 0, none⟩ ad _ (fun e => hS2 (by rw [← e]))]
    exact keep_cell hW hx
  have hTo := Lib.hid (fun W (h : Has W q 22 #[.slice (some ad) n c]) => told_one q ad b n c W hcut h)
  have hn' := Lib.hid hn
  have hlt' := Lib.hid hlt
  have hrow' := Lib.hid hrow
  have hbb' := Lib.hid hbb
  have hg' := Lib.hid hg
  have hq' := Lib.hid hq
  have hS1' := Lib.hid hS1
  have hS2' := Lib.hid hS2
  clear h1 h2 hr hS hA hb hx hcut hrow hbb hlt hn hg hq hS1 hS2
  go_enter Tryd.func9, Tryd.ntmps9
  go_wp2_with fail
  refine hL.out.mono ?_
  rintro e w1 ⟨rfl, hb⟩
  have b1 := Lib.hid hb
  clear hb hL
  obtain ⟨c0, g2, g1, r2, c1⟩ := hbody.out w1 b1.out
  have g1' := Lib.hid g1
  have g2' := Lib.hid g2
  have r2' := Lib.hid r2
  clear g1 g2 r2 hbody
  go_wp2_with fail
  refine (hTo.out w1 g2'.out).mono ?_
  rintro e w2 ⟨rfl, rfl⟩
  clear hTo c0
  go_wp2
  go_ret
  have hfar : ∀ i, i ≠ q → (w1.setCell ⟨q, 0, none⟩ (.slice (some b) (n - 1) (c - 1))).heap[i]? = w1.heap[i]? := fun i hi => Below.heap_setCell w1 ⟨q, 0, none⟩ _ i hi
  have hsz : (w1.setCell ⟨q, 0, none⟩ (.slice (some b) (n - 1) (c - 1))).heap.size = w1.heap.size := by simp
  have hbq : b.block ≠ q := by rw [hbb'.out]; exact hS2'.out
  have hl1 : ∀ i, S i → i < w1.heap.size := fun i hi => Nat.lt_of_lt_of_le (hlt'.out i hi) b1.out.size
  refine ⟨rfl, ⟨g, q, some b, n - 1, c - 1, rfl, hg'.out, hq'.out, fun i hi => by rw [hsz]; exact hl1 i hi, (hfar g hgq).trans g1'.out, g2'.out.set 0 (.slice (some b) (n - 1) (c - 1)), by have := hn'.out; omega, by omega, by omega, (fun e => by cases e), fun ad2 e2 => ?_, ?_⟩, ?_⟩
  · cases e2
    exact ⟨by rw [hbb'.out]; exact hS1'.out, hbq⟩
  · refine row_block (hrow'.out w1 _ _ r2'.out (by rw [List.length_map, List.length_cons]; have := hn'.out; omega)) (hfar _ hbq) ?_
    rw [hsz, hbb'.out]; exact hl1 _ hS1'.out
  · have hbt := But.of_below (S := S) b1.out
    exact ⟨hbt.os, hbt.tape, hbt.output, by rw [hsz]; exact hbt.size, fun i hi hn => by
      rw [hfar i (fun e => hn (e ▸ hq'.out))]; exact hbt.block i hi hn⟩

set_option maxHeartbeats 1000000 in
theorem clone8 (A : Option Addr) (n c : Nat) (l : List (BitVec 64)) (w : World) (h : LieU w w.heap.size A n c (l.map V)) : Calls Tryd.prog 18 #[.slice A n c] w fun e w' => ∃ v, e = .returned v ∧ w'.ownsRow w.heap.size 30 1 v n (l.map V) ∧ Below w.heap.size w w' := by
  obtain ⟨i0, hi, hz0, hz1, hz2⟩ := info8
  have hf := h.few
  cases A with
  | none =>
    obtain rfl := h.nil rfl
    obtain rfl : n = 0 := by have := h.cap; omega
    have hl : l.map V = [] := List.eq_nil_of_length_eq_zero h.len
    rw [hl]
    have hnil : ∀ W, (binOp .eql 22 (.slice none 0 0) (.slice none 0 0)).run Tryd.prog W = .ok (.bool true) W := fun W => Go.run_eql_slice_nil (P := Tryd.prog) W 22 30 none 0 0 Tryd.underlying22
    clear h hl
    go_enter Tryd.func18, Tryd.ntmps18
    go_wp2
    go_ret
    exact ⟨_, rfl, World.ownsRow_nil _ _ _ _, Below.refl _ _⟩
  | some ad =>
    have h' := Lib.hid h
    have hnil : ∀ W, (binOp .eql 22 (.slice (some ad) n c) (.slice none 0 0)).run Tryd.prog W = .ok (.bool false) W := fun W => Go.run_eql_slice_nil (P := Tryd.prog) W 22 30 (some ad) n c Tryd.underlying22
    have hE : Hid ((w.alloc (.cells #[] 30)).ownsRow w.heap.size 30 1 (.slice (some ⟨w.heap.size, 0, none⟩) 0 0) 0 []) := ⟨rfl, .inr ⟨w.heap.size, 0, #[], rfl, Nat.le_refl _, Has.new w 30 #[], Nat.le_refl _, Nat.zero_le _, rfl, rfl⟩⟩
    have hb0 := Lib.hid ((Below.refl w.heap.size w).alloc (Nat.le_refl _) (.cells #[] 30))
    have hr := Lib.hid (h'.out.next hb0.out)
    clear h
    go_enter Tryd.func18, Tryd.ntmps18
    go_wp2_with (at_builtin; refine wpList_append_row rfl _ _ 22 rfl w.heap.size 30 i0 (.int .u64 0) 1 8 Tryd.underlying22 hi hz0 hz1 hz2 rfl (by decide) _ 0 [] rfl hE.out (some ad) n c (l.map V) rfl hr.out.nil hr.out.cap ?c1 _ hr.out.row (nums_one l) (by unfold maxLen; omega) (by omega) hb0.out.size ?_)
    case c1 => rw [hr.out.len, Nat.mul_one]
    intro v w1 hown hgrow
    have o1 : w1.ownsRow w.heap.size 30 1 v n (l.map V) := by simpa using hown
    have o2 := Lib.hid o1
    have b1 := Lib.hid (hb0.out.grown hgrow hb0.out.size (fun r e => (hE.out.lt r e).1))
    clear hown hgrow o1
    go_wp2
    go_ret
    exact ⟨_, rfl, o2.out, b1.out⟩
set_option maxHeartbeats 1000000 in
theorem teller_any (A : Option Addr) (n c : Nat) (w : World) : Calls Tryd.prog 17 #[.slice A n c] w fun e w' => e = .returned (tellV w.heap.size) ∧ w' = w.alloc (.cells #[.slice A n c] 22) := by
  go_enter Tryd.func17, Tryd.ntmps17
  go_wp2
  go_ret
  exact ⟨rfl, rfl⟩
set_option maxHeartbeats 2000000 in
theorem new_any (w : World) (A : Option Addr) (n c : Nat) (l : List (BitVec 64)) (h : LieU w w.heap.size A n c (l.map V)) : Calls Tryd.prog 6 #[.slice A n c] w (DrawBorn NDr w l) := by
  have hC := Lib.hid (clone8 A n c l w h)
  have hln : Hid (l.length = n) := by have := h.len; rwa [List.length_map] at this
  clear h
  go_enter Tryd.func6, Tryd.ntmps6
  go_wp2_with fail
  refine hC.out.mono ?_
  rintro e w1 ⟨v, rfl, ho, hb⟩
  obtain ⟨A1, c1, rfl, k1, k2, k3⟩ := own_slice ho
  have o1 := Lib.hid ho
  have b1 := Lib.hid hb
  have k3' := Lib.hid k3
  clear ho hb hC k3
  go_wp2_with fail
  refine (teller_any A1 n c1 w1).mono ?_
  rintro e w2 ⟨rfl, rfl⟩
  go_wp2
  go_ret
  have hsz := b1.out.size
  have b2 := b1.out.alloc hsz (.cells #[.slice A1 n c1] 22)
  have b3 := b2.alloc b2.size (.cells #[tellV w1.heap.size] 44)
  have hq := (Has.new w1 22 #[.slice A1 n c1]).alloc (.cells #[tellV w1.heap.size] 44)
  have hg := Has.new (w1.alloc (.cells #[.slice A1 n c1] 22)) 44 #[tellV w1.heap.size]
  rw [World.size_alloc] at hg
  refine ⟨_, fun i => w.heap.size ≤ i ∧ i < w1.heap.size + 2, rfl, fun i hi => hi.1, by show w.heap.size ≤ w1.heap.size + 1; omega, ⟨w1.heap.size + 1, w1.heap.size, A1, n, c1, rfl, ⟨by omega, by omega⟩, ⟨hsz, by omega⟩, fun i hi => by rw [World.size_alloc, World.size_alloc]; exact hi.2, hg, hq, hln.out, k1, k2, k3'.out, fun ad e => ?_, ?_⟩, b3⟩
  · have := o1.out.lt ad.block (by rw [e]; rfl)
    exact ⟨⟨this.1, by omega⟩, by omega⟩
  · exact ((Row.of_own o1.out).next ((Below.refl _ w1).alloc (Nat.le_refl _) _)).next ((Below.refl _ _).alloc (Nat.le_refl _) _)

set_option maxHeartbeats 1000000 in
theorem copy_none (w : World) : Calls Tryd.prog 12 #[.pointer none] w fun e w' => e = .returned (.pointer none) ∧ Below w.heap.size w w' := by
  go_enter Tryd.func12, Tryd.ntmps12
  go_wp2
  go_ret
  exact ⟨rfl, Below.refl _ _⟩
set_option maxHeartbeats 1000000 in
theorem copy_some (w : World) (S : Nat → Prop) (a : Addr) (l : List (BitVec 64)) (hl : l.length ≤ 3000) (hd : NDr w S a l) : Calls Tryd.prog 12 #[.pointer (some a)] w (DrawBorn NDr w l) := by
  obtain ⟨g, q, A, n, c, rfl, hg, hq, hlt, h1, h2, hn, hnc, hc, hA, hS, hr⟩ := hd
  have c0 : w.cell? ⟨g, 0, none⟩ = some (tellV q) := h1.cell 0
  have hT := Lib.hid (told_none q A n c w hA hnc h2)
  have hN := Lib.hid (fun W (hW : Below w.heap.size w W) => new_any W A n c l ⟨by rw [List.length_map]; exact hn, by omega, hnc, hc, hA, hr.next hW⟩)
  clear hg hq hlt h1 h2 hn hA hS hr
  go_enter Tryd.func12, Tryd.ntmps12
  go_wp2_with fail
  refine hT.out.mono ?_
  rintro e w1 ⟨rfl, hb⟩
  have b1 := Lib.hid hb
  clear hb
  go_wp2_with fail
  refine (hN.out w1 b1.out).mono ?_
  rintro e w2 ⟨a2, S2, rfl, hS, ha, hd, hb⟩
  have d2 := Lib.hid hd
  have s2 := Lib.hid hS
  have a2' := Lib.hid ha
  have b2 := Lib.hid hb
  clear hd hS ha hb
  go_wp2
  go_ret
  have hz := b1.out.size
  exact ⟨a2, S2, rfl, fun i hi => Nat.le_trans hz (s2.out i hi), Nat.le_trans hz a2'.out, d2.out, Below.after b1.out b2.out⟩
end Go.Proofs.YtmjlabnjgdiakaaDoor
