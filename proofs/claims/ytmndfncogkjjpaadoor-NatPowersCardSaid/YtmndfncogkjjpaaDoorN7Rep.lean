/- bytes.Repeat of one byte. -/
import Derived.Test.YtmndfncogkjjpaaDoorN7Fmt
import Derived.Test.YtmndfncogkjjpaaDoorN7Prod
import Derived.Shelf.Bits.Mul64
import Derived.Lib.MakeNoZero
import Derived.Laws.CopyOwn
namespace Go.Proofs.YtmndfncogkjjpaaDoor
open Go.RowKit Go.Shelf
set_option maxRecDepth 100000

abbrev B8 (b : UInt8) : Value := .int .u8 (b.toNat : Int)
/-- block g begins with the bytes bs -/
def Starts (W : World) (g : Nat) (bs : List UInt8) : Prop := ∃ cur : List Value, Has W g 5 cur.toArray ∧ ∀ (j : Nat) (b : UInt8), bs[j]? = some b → cur[j]? = some (B8 b)
theorem Starts.next {W W' : World} {g : Nat} {bs : List UInt8} (h : Starts W g bs) (hb : Below W.heap.size W W') : Starts W' g bs := by
  obtain ⟨cur, h1, h2⟩ := h
  exact ⟨cur, h1.next hb, h2⟩
theorem Starts.cell {W : World} {g : Nat} {bs : List UInt8} (h : Starts W g bs) {j : Nat} {b : UInt8} (hj : bs[j]? = some b) : W.cell? ⟨g, j, none⟩ = some (B8 b) := by
  obtain ⟨cur, h1, h2⟩ := h
  rw [h1.cell j]
  simpa using h2 j b hj

theorem splice_get {α : Type} (L : List α) (off : Nat) (cs : List α) (h : off ≤ L.length) (j : Nat) : (splice L off cs)[j]? = if j < off then L[j]? else if j < off + cs.length then cs[j - off]? else L[j]? := by
  unfold splice
  have ht : (L.take off).length = off := by rw [List.length_take]; omega
  by_cases h1 : j < off
  · rw [if_pos h1, List.getElem?_append_left (by omega), List.getElem?_take, if_pos h1]
  · rw [if_neg h1, List.getElem?_append_right (by omega), ht]
    by_cases h2 : j < off + cs.length
    · rw [if_pos h2, List.getElem?_append_left (by omega)]
    · rw [if_neg h2, List.getElem?_append_right (by omega), List.getElem?_drop]
      congr 1
      omega
theorem info_u8 : (Tryd.prog.info? 5).map (·.size) = some 1 := by kernel_rfl
theorem size_u8 (W : World) : (sizeOf 5).run Tryd.prog W = .ok 1 W := by kernel_rfl
theorem b8_one (l : List UInt8) : ∀ u ∈ l.map B8, u.oneCell' = true := fun u hu => by
  simp only [List.mem_map] at hu; obtain ⟨b, _, rfl⟩ := hu; rfl

set_option maxHeartbeats 800000 in
theorem repeat_any (n g0 c0 : Nat) (x : UInt8) (h1 : 1 ≤ n) (hn : n ≤ 8000) (w : World) (hx : w.cell? ⟨g0, 0, none⟩ = some (B8 x)) :
    Calls Tryd.prog 36 #[.slice (some ⟨g0, 0, none⟩) 1 c0, .int .i64 (n : Int)] w fun e w' => ∃ g, e = .returned (.slice (some ⟨g, 0, none⟩) n n) ∧ w.heap.size ≤ g ∧ Starts w' g (List.replicate n x) ∧ Below w.heap.size w w' := by
  have hmul : Hid (Calls Tryd.prog 46 #[.int .u64 1, .int .u64 (n : Int)] w fun e w' => e = .returned (.tuple #[.int .u64 0, .int .u64 (n : Int)]) ∧ w = w') := by
    refine (Any.bits_Mul shelf212 1 n (by omega) (by omega) w).mono fun e w' h => ?_
    rw [Nat.one_mul, Nat.div_eq_of_lt (by omega), Nat.mod_eq_of_lt (by omega)] at h
    exact ⟨h.1, h.2.symm⟩
  obtain ⟨cs, hrunM, hle, hmax⟩ := Lib.run_makeNoZero (P := Tryd.prog) w #[3] 54 5 Tryd.underlying54 n (by omega)
  have hcall : (callFunc 47 #[.int .i64 (n : Int)]).run Tryd.prog w = .ok (.value (.slice (some ⟨w.heap.size, 0, none⟩) n cs.size)) ((w.alloc (.cells cs 5)).drewN 2) := by
    rw [run_callFunc_extern Tryd.func47 (by kernel_rfl) (by kernel_rfl) (by kernel_rfl) (e := Extern.BytealgMakeNoZero.makeNoZero #[3] #[54]) (by kernel_rfl), hrunM]
    rfl
  clear hrunM hmax
  have i1 : (n : Int) ≤ (cs.size : Int) := by omega
  have q0 : ((n : Int) == 0) = false := by simp; omega
  have q1 : decide ((n : Int) < 0) = false := decide_eq_false (by omega)
  have q2 : decide ((8192 : Int) < (n : Int)) = false := decide_eq_false (by omega)
  go_enter Tryd.func36, Tryd.ntmps36
  have hW1 : Hid (Has ((w.alloc (.cells cs 5)).drewN 2) w.heap.size 5 cs) := (Has.new w 5 cs).drewN 2
  have hB1 : Hid (Below w.heap.size w ((w.alloc (.cells cs 5)).drewN 2)) := below_drewN ((Below.refl _ w).alloc (Nat.le_refl _) _) 2
  have hX1 : Hid (((w.alloc (.cells cs 5)).drewN 2).cell? ⟨g0, 0, none⟩ = some (B8 x)) := keep_cell hB1.out hx
  have hW2 : Hid (((w.alloc (.cells cs 5)).drewN 2).heap[w.heap.size]? = some (.cells cs.toList.toArray 5 (0, 0))) := by show _ = _; rw [Array.toArray_toList]; exact hW1.out
  have hfit : 0 + [B8 x].length ≤ cs.toList.length := by show 0 + 1 ≤ cs.toList.length; rw [Array.length_toList]; omega
  have hpos : Hid (∀ (j : Nat) (v : Value), [B8 x][j]? = some v → ((w.alloc (.cells cs 5)).drewN 2).cell? ((⟨g0, 0, none⟩ : Addr).add j) = some v) := fun j v hj => by
    cases j with
    | zero => rw [← (by simpa using hj : B8 x = v)]; exact hX1.out
    | succ j => simp at hj
  have hone : ∀ v ∈ [B8 x], v.oneCell' = true := fun v hv => by rw [List.mem_singleton.1 hv]; rfl
  obtain ⟨M, hM⟩ : ∃ M, cs.size = M := ⟨_, rfl⟩
  rw [hM] at hcall hle i1
  have i0 : (0 : Int) ≤ (n : Int) := by omega
  go_wp2_with (first | (go_at_call 46; refine hmul.out.mono ?_; rintro e w' ⟨rfl, rfl⟩) | ((with_reducible change wpList _ _ _ (⟨some 60, _, _, _, _, _⟩ :: _) _ _); refine wpList_copy_splice rfl (.tmp 58) (.tmp 59) 54 54 rfl 5 Tryd.underlying54 info_u8 (some ⟨w.heap.size, 0, none⟩) (some ⟨g0, 0, none⟩) n n 1 c0 rfl rfl w.heap.size 0 cs.toList 5 hW2.out [B8 x] (Nat.min_eq_left h1).symm (fun _ => ⟨rfl, _, rfl, hpos.out⟩) hfit hone w.heap.size w hB1.out (Nat.le_refl _) ?_))
  intro w3 hg3 hb3
  have g3 := Lib.hid hg3
  have b3 := Lib.hid hb3
  clear hg3 hb3
  have hcl : cs.toList.length = M := by rw [Array.length_toList, hM]
  have h3 : Hid (∃ cur : List Value, cur.length = M ∧ Has w3 w.heap.size 5 cur.toArray ∧ ∀ j, j < 1 → cur[j]? = some (B8 x)) := by
    refine ⟨splice cs.toList 0 [B8 x], ?_, g3.out, fun j hj => ?_⟩
    · rw [length_splice _ _ _ (by rw [hcl]; simp; omega), hcl]
    · rw [splice_get _ _ _ (by omega), if_neg (by omega), if_pos (by simp; omega)]
      obtain rfl : j = 0 := by omega
      rfl
  clear g3 hcl hM hcall hW1 hX1 hW2 hfit hpos hone hB1
  go_wp2
  go_loopw [10] (fun i wr => ∃ k : Nat, 1 ≤ k ∧ k ≤ n ∧ i = .int .i64 k ∧ (∃ cur : List Value, cur.length = M ∧ Has wr w.heap.size 5 cur.toArray ∧ ∀ j, j < k → cur[j]? = some (B8 x)) ∧ Below w.heap.size w wr) (fun i _ => n - (intOf i).toNat)
  case atStart => exact ⟨1, Nat.le_refl _, h1, rfl, h3.out, b3.out⟩
  case round =>
    obtain ⟨k, hk1, hkn, rfl, ⟨cur, hcl, hg, hcur⟩, hb⟩ := hrel
    have g0 := Lib.hid hg
    have b0 := Lib.hid hb
    have c0' := Lib.hid hcur
    have hl := Lib.hid hcl
    clear hg hb hcur hcl
    by_cases hlt : k < n
    · obtain ⟨r, hr⟩ : ∃ r, n - k = r := ⟨_, rfl⟩
      have hr1 : 1 ≤ r := by omega
      have hc1 := cut_block (P := Tryd.prog) Tryd.underlying54 size_u8 w.heap.size n k r hlt hr
      have hc2 := cut_to (P := Tryd.prog) Tryd.underlying54 size_u8 (some ⟨w.heap.size, 0, none⟩) n n k (k : Int) rfl hkn
      obtain ⟨m, hm⟩ : ∃ m, Nat.min k r = m := ⟨_, rfl⟩
      have hm1 : m ≤ k ∧ m ≤ r ∧ 1 ≤ m := by rw [← hm]; exact ⟨Nat.min_le_left _ _, Nat.min_le_right _ _, Nat.le_min.2 ⟨hk1, hr1⟩⟩
      obtain ⟨news, hnews⟩ : ∃ news, List.replicate m (B8 x) = news := ⟨_, rfl⟩
      have nl : news.length = m := by rw [← hnews, List.length_replicate]
      have nl' : Hid (news.length = Nat.min k r) := nl.trans hm.symm
      have hfit : k + news.length ≤ cur.length := by rw [hl.out, nl]; omega
      have hone : ∀ v ∈ news, v.oneCell' = true := fun v hv => by rw [← hnews] at hv; rw [List.eq_of_mem_replicate hv]; rfl
      have hsrc : Hid (∀ (j : Nat) (v : Value), news[j]? = some v → wr.drew.cell? ((⟨w.heap.size, 0, none⟩ : Addr).add j) = some v) := fun j v hj => by
        have hjm : j < m := by rw [← nl]; exact (List.getElem?_eq_some_iff.1 hj).1
        rw [← hnews, List.getElem?_replicate, if_pos hjm] at hj
        rw [add_none, Nat.zero_add]
        show wr.cell? _ = _
        rw [g0.out.cell j, ← hj]
        simpa using c0'.out j (by omega)
      have hgd : Hid (wr.drew.heap[w.heap.size]? = some (.cells cur.toArray 5 (0, 0))) := g0.out
      have b1 := Lib.hid b0.out.drew
      have hkk : (k : Int) < (n : Int) := by omega
      have hnxt : Hid (∃ cur2 : List Value, cur2 = splice cur k news ∧ cur2.length = M ∧ ∀ j, j < k + m → cur2[j]? = some (B8 x)) := ⟨_, rfl, (length_splice _ _ _ hfit).trans hl.out, fun j hj => by
        rw [splice_get _ _ _ (by omega), nl]
        by_cases h5 : j < k
        · rw [if_pos h5]; exact c0'.out j h5
        · rw [if_neg h5, if_pos hj, ← hnews, List.getElem?_replicate, if_pos (by omega)]⟩
      have nl2 := Lib.hid nl
      have hkm2 : k + m ≤ n := by omega
      have hkm3 : k < k + m := by omega
      have hnn : news.length ≤ n := by rw [nl]; omega
      have hmin : min (k : Int) (n : Int) = (k : Int) := by omega
      clear hm hr hnews nl
      go_wp2
      go_region_law ((with_reducible change (if Region.wanted (Oper.mk (some 74) _ _ _ _ _) _ = true then _ else _)); refine step_copy_splice rfl (.tmp 70) (.tmp 73) 54 54 rfl 5 Tryd.underlying54 info_u8 (some ⟨w.heap.size, k, none⟩) (some ⟨w.heap.size, 0, none⟩) r r k n (by go_simp) (by go_simp) w.heap.size k cur 5 hgd.out news nl'.out (fun _ => ⟨rfl, _, rfl, hsrc.out⟩) hfit hone w.heap.size w b1.out (Nat.le_refl _) ?_; intro w4 hg4 hb4; have g4 := Lib.hid hg4; have b4 := Lib.hid hb4; clear hg4 hb4)
      have nlI : (k : Int) + (news.length : Int) = ((k + m : Nat) : Int) := by rw [nl2.out]; omega
      obtain ⟨km, hkm⟩ : ∃ km, k + m = km := ⟨_, rfl⟩
      rw [hkm] at nlI hnxt hkm2 hkm3
      clear hkm hmin
      have kmW : IntKind.i64.wrap (km : Int) = (km : Int) := IntWalk.i64_in _ ⟨by omega, by omega⟩
      go_simp
      clear kmW
      go_wp2
      go_roundw
      case rel =>
        refine ⟨km, by omega, hkm2, rfl, ?_, b4.out⟩
        obtain ⟨cur2, he, h6, h7⟩ := hnxt.out
        subst he
        exact ⟨_, h6, g4.out, h7⟩
      case measure => simp [intOf]; omega
    · obtain rfl : k = n := by omega
      go_wp2
      go_ret
      refine ⟨_, rfl, Nat.le_refl _, ⟨cur, g0.out, fun j b hj => ?_⟩, b0.out⟩
      rw [List.getElem?_replicate] at hj
      split at hj
      · rename_i h5
        cases hj
        exact c0'.out j h5
      · cases hj
end Go.Proofs.YtmndfncogkjjpaaDoor
