/- The document's own answers of layer 8 (package joineryref08): draws, in memory; New, Next; a row of the law's own. -/
import Derived.Test.YtmjlabnjgdiakaaDoorL8Ok
import Derived.Test.YtmjlabnjgdiakaaDoorL1Of
import Derived.Test.YtmjlabnjgdiakaaDoorGCut
import Derived.IntWalk
namespace Go.Proofs.YtmjlabnjgdiakaaDoor
open Go.RowKit Go.Proofs.Mixm

theorem size_u64 (W : World) : (sizeOf 30).run Tryd.prog W = .ok 1 W := by kernel_rfl
theorem info_u64 : (Tryd.prog.info? 30).map (fun i => (i.zero, i.size, i.bytes)) = some (some (.int .u64 0), 1, 8) := by kernel_rfl
theorem nums_one (l : List (BitVec 64)) : ∀ u ∈ l.map V, u.oneCell' = true := fun u hu => by
  simp only [List.mem_map] at hu; obtain ⟨b, _, rfl⟩ := hu; rfl
theorem info8 : ∃ i0, Tryd.prog.info? 30 = some i0 ∧ i0.zero = some (.int .u64 0) ∧ i0.size = 1 ∧ i0.bytes = 8 := by
  have hi0 := info_u64
  cases hh : Tryd.prog.info? 30 with
  | none => rw [hh] at hi0; cases hi0
  | some i0 =>
    rw [hh] at hi0
    have e0 := Option.some.inj hi0
    exact ⟨i0, rfl, congrArg Prod.fst e0, congrArg (fun q => q.2.1) e0, congrArg (fun q => q.2.2) e0⟩
theorem LieU.next {W W' : World} {B : Nat} {A : Option Addr} {n c : Nat} {xs : List Value} (h : LieU W B A n c xs) (hb : Below B W W') : LieU W' B A n c xs := ⟨h.len, h.few, h.cap, h.max, h.nil, h.row.below hb⟩
theorem LieU.more {W : World} {B B' : Nat} {A : Option Addr} {n c : Nat} {xs : List Value} (h : LieU W B A n c xs) (hB : B ≤ B') : LieU W B' A n c xs := ⟨h.len, h.few, h.cap, h.max, h.nil, h.row.more hB⟩

set_option maxHeartbeats 1000000 in
theorem own8_any (A : Option Addr) (n c B : Nat) (l : List (BitVec 64)) (w : World) (h : LieU w B A n c (l.map V)) :
    Calls Tryd.prog 7 #[.slice A n c] w fun e w' => ∃ v, e = .returned v ∧ w'.ownsRow w.heap.size 30 1 v n (l.map V) ∧ Below w.heap.size w w' := by
  obtain ⟨i0, hi, hz0, hz1, hz2⟩ := info8
  have h' := Lib.hid h
  have h3 := h.few
  clear h
  go_enter Tryd.func7, Tryd.ntmps7
  go_wp2_with (at_builtin; refine wpList_append_row rfl _ _ 22 rfl w.heap.size 30 i0 (.int .u64 0) 1 8 Tryd.underlying22 hi hz0 hz1 hz2 rfl (by decide) (.slice none 0 0) 0 [] rfl (World.ownsRow_nil _ _ _ _) A n c (l.map V) rfl h'.out.nil h'.out.cap (by rw [h'.out.len, Nat.mul_one]) B h'.out.row (nums_one l) (by unfold maxLen; omega) (by omega) (Nat.le_refl _) ?_)
  intro v1 w1 hown hgrow
  have o1 := Lib.hid hown
  have b1 := Lib.hid ((Below.refl w.heap.size w).grown hgrow (Nat.le_refl _) (fun r e => by simp [Value.ownBlock] at e))
  clear hown hgrow
  go_wp2
  go_ret
  refine ⟨_, rfl, ?_, b1.out⟩
  have := o1.out
  simpa using this
/-- the reference's draws in memory -/
def RDr : DrP := fun W S a l => ∃ g A n c, a = ⟨g, 0, none⟩ ∧ S g ∧ Has W g 34 #[.slice A n c] ∧ l.length = n ∧ n ≤ c ∧ c ≤ maxLen ∧ (A = none → c = 0) ∧ (∀ ad, A = some ad → S ad.block ∧ ad.block ≠ g) ∧ Row W W.heap.size A (l.map V)
set_option maxHeartbeats 1000000 in
theorem rnext_none (S : Nat → Prop) (a : Addr) (k : BitVec 64) (w : World) (h : RDr w S a []) : Calls Tryd.prog 10 #[.pointer (some a), K k] w fun e w' => e = .returned (V (Drawm.own k)) ∧ w = w' := by
  obtain ⟨g, A, n, c, rfl, _, hh, hn, _⟩ := h
  obtain rfl : n = 0 := hn.symm
  have c0 : w.cell? ⟨g, 0, none⟩ = some (.slice A 0 c) := hh.cell 0
  have cO := Lib.hid (refOf_any k.toInt (k + 0x9e3779b97f4a7c15#64) (by rw [gold, BitVec.ofInt_toInt]) w)
  clear hh hn
  go_enter Tryd.func10, Tryd.ntmps10
  go_wp2_with (go_at_call 19; (with_reducible refine cO.out.mono ?_); rintro e w' ⟨rfl, rfl⟩)
  go_ret
  exact ⟨rfl, rfl⟩
/-- what is left of a slice, behind its first one: in the same block -/
theorem tail_slice (ad : Addr) (n c : Nat) (hn : 1 ≤ n) (hc : n ≤ c) :
    ∃ b : Addr, b.block = ad.block ∧ (∀ W, (Instr.slice 22 (.slice (some ad) n c) (some (.int .i64 1)) none none).run Tryd.prog W = .ok (.slice (some b) (n - 1) (c - 1)) W) ∧ (∀ w B xs, Row w B (some ad) xs → xs.length ≤ n → Row w B (some b) (xs.drop 1)) := by
  have hi' : (1 : Int) ≤ (n : Int) := by omega
  refine ⟨if c = 1 then ad else ad.add 1, by split <;> simp [Addr.add], fun W => ?_, fun w B xs h hl => ?_⟩
  · have hsz := size_u64
    split <;> rename_i h1 <;> simp [Instr.slice, run_underlying Tryd.underlying22, Instr.sliceBounds, run_sliceBound, hsz, hi', Result.andThen, h1]
  · have := Row.drop (i := 1) (size := 1) (c := c) h 1 rfl (by omega)
    by_cases h1 : c = 1
    · rw [if_pos h1] at this ⊢; exact this
    · rw [if_neg h1] at this ⊢; exact this
/-- a cell is told by its block -/
theorem cell_block {W W' : World} {a : Addr} (h : W'.heap[a.block]? = W.heap[a.block]?) : W'.cell? a = W.cell? a := by simp only [World.cell?, h]
theorem row_block {W W' : World} {B B' : Nat} {a : Addr} {xs : List Value} (h : Row W B (some a) xs) (hb : W'.heap[a.block]? = W.heap[a.block]?) (hB : a.block < B') : Row W' B' (some a) xs := fun j u hu => by
  obtain ⟨a', e, _, hc⟩ := h j u hu
  cases e
  exact ⟨a, rfl, hB, (cell_block (W := W) (W' := W') (a := a.add j) (by rw [add_block]; exact hb)).trans hc⟩
set_option maxHeartbeats 2000000 in
theorem rnext_some (S : Nat → Prop) (a : Addr) (k x : BitVec 64) (l : List (BitVec 64)) (h3 : l.length ≤ 3000) (w : World) (h : RDr w S a (x :: l)) : Calls Tryd.prog 10 #[.pointer (some a), K k] w fun e w' => e = .returned (V x) ∧ RDr w' S a l ∧ But S w w' := by
  obtain ⟨g, A, n, c, rfl, hg, hh, hn, hnc, hc, hA, hS, hr⟩ := h
  rw [List.length_cons] at hn
  obtain ⟨ad, rfl, hb, hx⟩ := hr 0 (V x) rfl
  obtain ⟨b, hbb, hq, hrow⟩ := tail_slice ad n c (by omega) hnc
  have hx0 : w.cell? ad = some (V x) := by rw [show ad.add 0 = ad by simp [Addr.add]] at hx; exact hx
  have c0 : w.cell? ⟨g, 0, none⟩ = some (.slice (some ad) n c) := hh.cell 0
  have f0 : w.frozen? ⟨g, 0, none⟩ = false := hh.free 0
  have d1 : ((n : Int) == 0) = false := by simp; omega
  have hn0 : (0 : Int) < (n : Int) := by omega
  have hn1 : 0 < n := by omega
  have hh' := Lib.hid hh
  obtain ⟨hS1, hS2⟩ := hS ad rfl
  have hr2 := Lib.hid (hrow w _ _ hr (by rw [List.length_map, List.length_cons]; omega))
  have hS1' := Lib.hid hS1
  have hS2' := Lib.hid hS2
  have hg' := Lib.hid hg
  have hb' := Lib.hid hb
  have hn' := Lib.hid hn
  have hbb' := Lib.hid hbb
  clear hh hr hS hS1 hS2 hA hrow hg hb hx hn hbb
  go_enter Tryd.func10, Tryd.ntmps10
  go_wp2
  go_ret
  have hh2 := hh'.out.set 0 (.slice (some b) (n - 1) (c - 1))
  have hfar : ∀ i, i ≠ g → (w.setCell ⟨g, 0, none⟩ (.slice (some b) (n - 1) (c - 1))).heap[i]? = w.heap[i]? := fun i hi => Below.heap_setCell w ⟨g, 0, none⟩ _ i hi
  have hsz : (w.setCell ⟨g, 0, none⟩ (.slice (some b) (n - 1) (c - 1))).heap.size = w.heap.size := by simp
  have hbg : b.block ≠ g := by rw [hbb'.out]; exact hS2'.out
  refine ⟨rfl, ⟨g, some b, n - 1, c - 1, rfl, hg'.out, hh2, by have := hn'.out; omega, by omega, by omega, (fun e => by cases e), fun ad2 e2 => ?_, ?_⟩, ⟨rfl, rfl, rfl, by rw [hsz]; exact Nat.le_refl _, fun i _ hn => hfar i fun e => hn (e ▸ hg'.out)⟩⟩
  · cases e2
    exact ⟨by rw [hbb'.out]; exact hS1'.out, hbg⟩
  · exact row_block hr2.out (hfar _ hbg) (by rw [hsz, hbb'.out]; exact hb'.out)
theorem rdr_keep {W W' : World} {S : Nat → Prop} {a : Addr} {l : List (BitVec 64)} (h : RDr W S a l) (hb : ∀ i, S i → W'.heap[i]? = W.heap[i]?) : RDr W' S a l := by
  obtain ⟨g, A, n, c, rfl, hg, hh, hn, hnc, hc, hA, hS, hr⟩ := h
  refine ⟨g, A, n, c, rfl, hg, (hb g hg).trans hh, hn, hnc, hc, hA, hS, fun j u hu => ?_⟩
  obtain ⟨ad, rfl, hlt, hcell⟩ := hr j u hu
  have hbl := hb _ (hS ad rfl).1
  refine ⟨ad, rfl, ?_, (cell_block (W := W) (W' := W') (a := ad.add j) (by rw [add_block]; exact hbl)).trans hcell⟩
  rw [Array.getElem?_eq_getElem hlt] at hbl
  exact (Array.getElem?_eq_some_iff.1 hbl).1
set_option maxHeartbeats 2000000 in
theorem rnew8 (A : Option Addr) (n c B : Nat) (l : List (BitVec 64)) (w : World) (h : LieU w B A n c (l.map V)) :
    Calls Tryd.prog 8 #[.slice A n c] w fun e w' => ∃ a S, e = .returned (.pointer (some a)) ∧ (∀ i, S i → w.heap.size ≤ i ∧ i < w'.heap.size) ∧ RDr w' S a l ∧ Below w.heap.size w w' := by
  obtain ⟨i0, hi, hz0, hz1, hz2⟩ := info8
  have h' := Lib.hid h
  have h3 := h.few
  have hln : Hid (l.length = n) := by have := h.len; rwa [List.length_map] at this
  clear h
  go_enter Tryd.func8, Tryd.ntmps8
  go_wp2_with (at_builtin; refine wpList_append_row rfl _ _ 22 rfl w.heap.size 30 i0 (.int .u64 0) 1 8 Tryd.underlying22 hi hz0 hz1 hz2 rfl (by decide) (.slice none 0 0) 0 [] rfl (World.ownsRow_nil _ _ _ _) A n c (l.map V) rfl h'.out.nil h'.out.cap (by rw [h'.out.len, Nat.mul_one]) B h'.out.row (nums_one l) (by unfold maxLen; omega) (by omega) (Nat.le_refl _) ?_)
  intro v1 w1 hown hgrow
  have ho : w1.ownsRow w.heap.size 30 1 v1 n (l.map V) := by simpa using hown
  obtain ⟨A1, c1, rfl, k1, k2, k3⟩ := own_slice ho
  have o1 := Lib.hid ho
  have b1 := Lib.hid ((Below.refl w.heap.size w).grown hgrow (Nat.le_refl _) (fun r e => by simp [Value.ownBlock] at e))
  clear hown hgrow ho
  go_wp2
  go_ret
  have hb2 := b1.out.alloc b1.out.size (.cells #[.slice A1 n c1] 34)
  have hsz := b1.out.size
  refine ⟨_, fun i => w.heap.size ≤ i ∧ i < w1.heap.size + 1, rfl, fun i hi => ⟨hi.1, by rw [World.size_alloc]; exact hi.2⟩, ⟨_, A1, n, c1, rfl, ⟨hsz, Nat.lt_succ_self _⟩, Has.new w1 _ _, hln.out, k1, k2, k3, fun ad e => ?_, ?_⟩, hb2⟩
  · have := o1.out.lt ad.block (by rw [e]; rfl)
    exact ⟨⟨this.1, by omega⟩, by omega⟩
  · exact (Row.of_own o1.out).next ((Below.refl _ w1).alloc (Nat.le_refl _) _)
end Go.Proofs.YtmjlabnjgdiakaaDoor
