/- The document's own answers of layer 9: Of. -/
import Derived.Test.YtcnkgddldhkddaaDoorL9Parts
import Derived.Deep.RegionLaw
namespace Go.Proofs.YtcnkgddldhkddaaDoor
open Go.RowKit Go.Proofs.Treem

theorem sum_pre : ∀ (t : Tr) (a : BitVec 64), t.pre.foldl (fun s b => s + b.val) a = a + t.sum
  | .e, a => by simp [Tr.pre, Tr.sum]
  | .n l k v g r, a => by
    simp only [Tr.pre, Tr.sum, List.foldl_cons, List.foldl_append, sum_pre l, sum_pre r]
    ac_rfl
theorem sum_strip {l : List Bd} {t : Tr} (h : l.map strip = t.pre) : sumB l = t.sum := by
  have := sum_pre t 0#64
  rw [← h, List.foldl_map] at this
  rw [sumB]
  exact this.trans (by simp)
theorem size_bits {n : Nat} (h : n ≤ 6000) : (BitVec.ofNat 64 n).toInt = (n : Int) := by
  rw [BitVec.toInt_eq_toNat_of_lt (by rw [BitVec.toNat_ofNat]; omega), BitVec.toNat_ofNat]; omega

theorem Has.seven {w : World} {g : Nat} {t : TypeId} {v0 v1 v2 v3 v4 v5 v6 : Value} (h : Has w g t #[v0, v1, v2, v3, v4, v5, v6]) :
    w.cell? ⟨g, 0, none⟩ = some v0 ∧ w.cell? ⟨g, 1, none⟩ = some v1 ∧ w.cell? ⟨g, 2, none⟩ = some v2 ∧ w.cell? ⟨g, 3, none⟩ = some v3 ∧ w.cell? ⟨g, 4, none⟩ = some v4 ∧ w.cell? ⟨g, 5, none⟩ = some v5 ∧ w.cell? ⟨g, 6, none⟩ = some v6 :=
  ⟨h.cell 0, h.cell 1, h.cell 2, h.cell 3, h.cell 4, h.cell 5, h.cell 6⟩

set_option maxHeartbeats 4000000 in
theorem of9 : ∀ (t : Tr) (A : Option Addr) (n c B : Nat) (l : List Bd), l.map strip = t.pre → t.size = n → n ≤ 5000 → ∀ w : World, B ≤ w.heap.size → LieB w B A n c l →
    Calls Tryd.prog 26 #[.slice A n c] w fun e w' => ∃ v, e = .returned v ∧ w'.ownsRow w.heap.size 52 7 v n (flat7 t.told) ∧ Below w.heap.size w w' := by
  intro t
  induction t with
  | e =>
    intro A n c B l hl hn h5 w hB h
    obtain rfl : n = 0 := hn.symm
    go_enter Tryd.func26, Tryd.ntmps26
    go_wp2
    go_ret
    exact ⟨_, rfl, World.ownsRow_nil _ _ _ _, Below.refl _ _⟩
  | n tl k v g tr ihl ihr =>
    intro A n c B l hl hn h5 w hB h
    have hsum := Lib.hid (sum_strip hl)
    obtain ⟨i, hi⟩ : ∃ i, tl.size = i := ⟨_, rfl⟩
    obtain ⟨j, hj⟩ : ∃ j, tr.size = j := ⟨_, rfl⟩
    have hn2 : n = 1 + i + j := by rw [← hn, Tr.size, hi, hj]
    have hparts := Lib.hid (parts9_any A n c B l tl tr k v g hl w hB h h5)
    rw [hi, hj] at hparts
    have h' := Lib.hid h
    have hL := Lib.hid (fun A c B la hla w hB h => ihl A i c B la hla hi (by omega) w hB h)
    have hR := Lib.hid (fun A c B la hla w hB h => ihr A j c B la hla hj (by omega) w hB h)
    have d1 : ((n : Int) == 0) = false := by simp; omega
    have hn2' := Lib.hid hn2
    have hi' := Lib.hid hi
    have hj' := Lib.hid hj
    have hi5 : i ≤ 5000 := by omega
    have hj5 : j ≤ 5000 := by omega
    clear h hl ihl ihr hi hj hn hn2
    go_enter Tryd.func26, Tryd.ntmps26
    go_wp2_with fail
    refine hparts.out.mono ?_
    rintro e w1 ⟨A1, c1, A2, c2, x, la, lb, rfl, rfl, hx, hla, hlb, K1, K2, hb⟩
    clear hparts
    have b1 := Lib.hid hb
    have hx' := Lib.hid hx
    have hla' := Lib.hid hla
    have hlb' := Lib.hid hlb
    have K1' := Lib.hid K1
    have K2' := Lib.hid K2
    clear hb hx hla hlb K1 K2
    go_wp2_with fail
    refine (refSum9_any A n c B _ _ (h'.out.next ((b1.out.alloc b1.out.size (.cells #[K x.key, K x.val, K x.sum, .int .i64 n, G64 x.tag, .bool x.left, .bool x.right] 52)).mono hB))).mono ?_
    rintro e w' ⟨rfl, rfl⟩
    rw [hsum.out]
    obtain ⟨S, hS⟩ : ∃ S, (Tr.n tl k v g tr).sum = S := ⟨_, rfl⟩
    rw [hS]
    have hS' := Lib.hid hS
    clear hS hsum
    go_wp2_with fail
    obtain ⟨W2, hW2⟩ : ∃ W2, w1.alloc (.cells #[K x.key, K x.val, K S, .int .i64 n, G64 x.tag, .bool x.left, .bool x.right] 52) = W2 := ⟨_, rfl⟩
    have gx : Hid (Has W2 w1.heap.size 52 #[K x.key, K x.val, K S, .int .i64 n, G64 x.tag, .bool x.left, .bool x.right]) := hW2 ▸ Has.new w1 _ _
    have b2 : Hid (Below w.heap.size w W2) := hW2 ▸ b1.out.alloc b1.out.size _
    have s2 : W2.heap.size = w1.heap.size + 1 := hW2 ▸ World.size_alloc _ _
    rw [hW2]
    clear hW2
    obtain ⟨p, hp⟩ : ∃ p, w1.heap.size = p := ⟨_, rfl⟩
    rw [hp] at gx s2 ⊢
    clear hp b1
    have hcall := Lib.hid (fun (W : World) (hW : Below w.heap.size w W) => hL.out A1 c1 B la hla'.out W (Nat.le_trans hB hW.size) (K1'.out.next (hW.mono hB)))
    have hi0 := info_bead
    obtain ⟨i0, hi, e0⟩ : ∃ i0, Tryd.prog.info? 52 = some i0 ∧ (i0.zero, i0.size, i0.bytes) = (some (.agg #[.int .i64 0, .int .i64 0, .int .i64 0, .int .i64 0, .int .u64 0, .bool false, .bool false]), 7, 48) := by
      cases hh : Tryd.prog.info? 52 with
      | none => rw [hh] at hi0; cases hi0
      | some i0 => rw [hh] at hi0; exact ⟨i0, rfl, Option.some.inj hi0⟩
    have hz0 : i0.zero = some (.agg #[.int .i64 0, .int .i64 0, .int .i64 0, .int .i64 0, .int .u64 0, .bool false, .bool false]) := congrArg Prod.fst e0
    have hz1 : i0.size = 7 := congrArg (fun q => q.2.1) e0
    have hz2 : i0.bytes = 48 := congrArg (fun q => q.2.2) e0
    clear hi0 e0
    obtain ⟨y0, y1, y2, y3, y4, y5, y6⟩ := gx.out.seven
    have ltold : (flat7 tl.told).length = i * 7 := by rw [flat7_length, told_len, hi']
    have hcallR := Lib.hid (fun (W : World) (hW : Below w.heap.size w W) => hR.out A2 c2 B lb hlb'.out W (Nat.le_trans hB hW.size) (K2'.out.next (hW.mono hB)))
    have ro1 : Hid ((W2.drew.alloc (.cells #[K x.key, K x.val, K S, .int .i64 n, G64 x.tag, .bool x.left, .bool x.right] 52)).ownsRow w.heap.size 52 7 (.slice (some ⟨p + 1, 0, none⟩) 1 1) 1 [K x.key, K x.val, K S, .int .i64 n, G64 x.tag, .bool x.left, .bool x.right]) := by
      have := World.ownsRow_lit (base := w.heap.size) (e := 52) (size := 7) W2.drew #[K x.key, K x.val, K S, .int .i64 n, G64 x.tag, .bool x.left, .bool x.right] 1 b2.out.size (by decide) rfl
      rw [show W2.drew.heap.size = p + 1 from s2] at this
      exact this
    have ro2 : Hid (∀ w5 : World, w.heap.size ≤ w5.heap.size → (w5.alloc (.cells #[K x.key, K x.val, K S, .int .i64 n, G64 x.tag, .bool x.left, .bool x.right] 52)).ownsRow w.heap.size 52 7 (.slice (some ⟨w5.heap.size, 0, none⟩) 1 1) 1 [K x.key, K x.val, K S, .int .i64 n, G64 x.tag, .bool x.left, .bool x.right]) := fun w5 h5 => World.ownsRow_lit w5 #[K x.key, K x.val, K S, .int .i64 n, G64 x.tag, .bool x.left, .bool x.right] 1 h5 (by decide) rfl
    go_region_law (first
      | (go_simp; go_at_call 26; refine (hcall.out _ (by first | exact b2.out.drew | exact (b2.out.drew).alloc (by simpa using b2.out.size) _)).mono ?_
         rintro e w5 ⟨v5, rfl, ho5, hb5⟩
         obtain ⟨A5, c5, rfl, q5⟩ := LieB.of_own (by rw [told_len, hi'.out]) (by omega) ho5
         have q5' := Lib.hid q5
         have n5 := Lib.hid hb5
         have b5 := Lib.hid (Below.after (by first | exact b2.out.drew | exact (b2.out.drew).alloc (by simpa using b2.out.size) _) hb5)
         have g5 := Lib.hid (Has.next (by first | exact gx.out | exact gx.out.alloc _) hb5)
         obtain ⟨x0, x1, x2, x3, x4, x5, x6⟩ := g5.out.seven
         clear q5 hb5 ho5)
      | (refine step_append_row (by rfl) _ _ 22 (by rfl) w.heap.size 52 i0 (.agg #[.int .i64 0, .int .i64 0, .int .i64 0, .int .i64 0, .int .u64 0, .bool false, .bool false]) 7 48 Tryd.underlying22 hi hz0 hz1 hz2 rfl (by decide) (.slice (some ⟨p + 1, 0, none⟩) 1 1) 1 [K x.key, K x.val, K S, .int .i64 n, G64 x.tag, .bool x.left, .bool x.right] (by rfl) (owned_next ro1.out n5.out) A5 i c5 (flat7 tl.told) (by rfl) q5'.out.nil q5'.out.cap ltold w5.heap.size q5'.out.row (flat7_one _) (by unfold maxLen; omega) (by omega) b5.out.size ?_
         intro v6 w6 hown hgrow
         have o6 := Lib.hid hown
         have b6 := Lib.hid (b5.out.grown hgrow b5.out.size (fun r e => ((owned_next ro1.out n5.out).lt r e).1))
         clear hown hgrow)
      | (refine step_append_row (by rfl) _ _ 22 (by rfl) w.heap.size 52 i0 (.agg #[.int .i64 0, .int .i64 0, .int .i64 0, .int .i64 0, .int .u64 0, .bool false, .bool false]) 7 48 Tryd.underlying22 hi hz0 hz1 hz2 rfl (by decide) (.slice (some ⟨w5.heap.size, 0, none⟩) 1 1) 1 [K x.key, K x.val, K S, .int .i64 n, G64 x.tag, .bool x.left, .bool x.right] (by rfl) (ro2.out w5 b5.out.size) A5 i c5 (flat7 tl.told) (by rfl) q5'.out.nil q5'.out.cap ltold w5.heap.size (q5'.out.row.below ((Below.refl _ w5).alloc (Nat.le_refl _) _)) (flat7_one _) (by unfold maxLen; omega) (by omega) (by have := b5.out.size; simp only [World.size_alloc]; omega) ?_
         intro v6 w6 hown hgrow
         have o6 := Lib.hid hown
         have b6 := Lib.hid ((b5.out.alloc b5.out.size _).grown hgrow (by have := b5.out.size; simp only [World.size_alloc]; omega) (fun r e => ((ro2.out w5 b5.out.size).lt r e).1))
         clear hown hgrow)
      | fail)
    all_goals
      clear hcall ro1 ro2 n5 b5 g5 q5' x0 x1 x2 x3 x4 x5 x6 y0 y1 y2 y3 y4 y5 y6
      go_wp2_with fail
    all_goals
      refine (hcallR.out w6 b6.out).mono ?_
      rintro e w7 ⟨v7, rfl, ho7, hb7⟩
      obtain ⟨A7, c7, rfl, q7⟩ := LieB.of_own (by rw [told_len, hj'.out]) (by omega) ho7
      have q7' := Lib.hid q7
      have o7 := Lib.hid (owned_next o6.out hb7)
      have b7 := Lib.hid (Below.after b6.out hb7)
      have rtold : (flat7 tr.told).length = j * 7 := by rw [flat7_length, told_len, hj'.out]
      clear q7 hb7 ho7 hcallR o6 b6
      go_wp2_with (at_builtin; refine wpList_append_row rfl _ _ 22 rfl w.heap.size 52 i0 (.agg #[.int .i64 0, .int .i64 0, .int .i64 0, .int .i64 0, .int .u64 0, .bool false, .bool false]) 7 48 Tryd.underlying22 hi hz0 hz1 hz2 rfl (by decide) v6 (1 + i) ([K x.key, K x.val, K S, .int .i64 n, G64 x.tag, .bool x.left, .bool x.right] ++ flat7 tl.told) rfl o7.out A7 j c7 (flat7 tr.told) rfl q7'.out.nil q7'.out.cap rtold w7.heap.size q7'.out.row (flat7_one _) (by unfold maxLen; omega) (by omega) b7.out.size ?_)
      intro v8 w8 hown hgrow
      have o8 := Lib.hid hown
      have b8 := Lib.hid (b7.out.grown hgrow b7.out.size (fun r e => (o7.out.lt r e).1))
      clear hown hgrow
      go_wp2
      go_ret
      refine ⟨_, rfl, ?_, b8.out⟩
      have hk : K (BitVec.ofNat 64 n) = .int .i64 n := by show Value.int .i64 _ = _; rw [size_bits (by omega)]
      have e1 : flat7 (Tr.told (.n tl k v g tr)) = [K x.key, K x.val, K S, .int .i64 n, G64 x.tag, .bool x.left, .bool x.right] ++ flat7 tl.told ++ flat7 tr.told := by
        have hx := hx'.out
        simp only [strip, St.mk.injEq] at hx
        obtain ⟨h1, h2, h3, h4, h5⟩ := hx
        have hs := hS'.out
        simp only [Tr.sum] at hs
        simp only [Tr.told, flat7_cons, flat7_append, bdC, hi'.out, hj'.out, ← hn2'.out, hk, hs, h1, h2, h3, h4, h5]
        rfl
      rw [e1, hn2'.out]
      have o8' := o8.out
      rw [hn2'.out] at o8'
      exact o8'
end Go.Proofs.YtcnkgddldhkddaaDoor
