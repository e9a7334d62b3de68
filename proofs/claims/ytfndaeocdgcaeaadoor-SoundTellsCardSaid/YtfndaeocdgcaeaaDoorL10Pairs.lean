/- The document's own answers of layer 10: Pairs (of layer 9's package), Keys. -/
import Derived.Test.YtfndaeocdgcaeaaDoorL10Turn
import Derived.Deep.RegionLaw
namespace Go.Proofs.YtfndaeocdgcaeaaDoor
open Go.RowKit Go.Proofs.Rowm Go.Proofs.Treem

theorem owned_base {w : World} {base base' n : Nat} {e : TypeId} {size : Nat} {v : Value} {xs : List Value} (h : w.ownsRow base' e size v n xs) (hb : base ≤ base') : w.ownsRow base e size v n xs := by
  refine ⟨h.1, ?_⟩
  rcases h.2 with h2 | ⟨g, cap, cur, h1, h2, h3⟩
  · exact .inl h2
  · exact .inr ⟨g, cap, cur, h1, Nat.le_trans hb h2, h3⟩
set_option maxHeartbeats 4000000 in
theorem refPairs9 : ∀ (t : Tr) (A : Option Addr) (n c B : Nat) (l : List Bd), l.map strip = t.pre → t.size = n → n ≤ 1000 → ∀ w : World, B ≤ w.heap.size → LieB w B A n c l →
    Calls Tryd.prog 33 #[.slice A n c] w fun e w' => ∃ v, e = .returned v ∧ w'.ownsRow w.heap.size 94 2 v n (flat t.pairs) ∧ Below w.heap.size w w' := by
  intro t
  induction t with
  | e =>
    intro A n c B l hl hn h5 w hB h
    obtain rfl : n = 0 := hn.symm
    go_enter Tryd.func33, Tryd.ntmps33
    go_wp2
    go_ret
    exact ⟨_, rfl, World.ownsRow_nil _ _ _ _, Below.refl _ _⟩
  | n tl k v g tr ihl ihr =>
    intro A n c B l hl hn h5 w hB h
    obtain ⟨i0, hin, hz0, hz1, hz2⟩ := info_parts info_pair
    obtain ⟨i, hi⟩ : ∃ i, tl.size = i := ⟨_, rfl⟩
    obtain ⟨j, hj⟩ : ∃ j, tr.size = j := ⟨_, rfl⟩
    have hn2 : n = 1 + i + j := by rw [← hn, Tr.size, hi, hj]
    have hparts := Lib.hid (parts9_any A n c B l tl tr k v g hl w hB h (by omega))
    rw [hi, hj] at hparts
    have hL := Lib.hid (fun A c B la hla w hB h => ihl A i c B la hla hi (by omega) w hB h)
    have hR := Lib.hid (fun A c B la hla w hB h => ihr A j c B la hla hj (by omega) w hB h)
    have d1 : ((n : Int) == 0) = false := by simp; omega
    have hn2' := Lib.hid hn2
    have hi' := Lib.hid hi
    have hj' := Lib.hid hj
    have hi5 : i ≤ 1000 := by omega
    have hj5 : j ≤ 1000 := by omega
    have hij : i + j ≤ 1000 := by omega
    clear h hl ihl ihr hi hj hn hn2
    go_enter Tryd.func33, Tryd.ntmps33
    go_wp2_with fail
    refine hparts.out.mono ?_
    rintro e w1 ⟨A1, c1, A2, c2, x, la, lb, rfl, rfl, hx, hla, hlb, K1, K2, hb⟩
    clear hparts
    have hkx : Hid (x.key = k) := congrArg St.key hx
    have hvx : Hid (x.val = v) := congrArg St.val hx
    have b1 := Lib.hid hb
    have hla' := Lib.hid hla
    have hlb' := Lib.hid hlb
    have K1' := Lib.hid K1
    have K2' := Lib.hid K2
    clear hb hx hla hlb K1 K2
    go_wp2_with fail
    obtain ⟨W2, hW2⟩ : ∃ W2, w1.alloc (.cells #[K x.key, K x.val, K x.sum, K x.size, G64 x.tag, .bool x.left, .bool x.right] 46) = W2 := ⟨_, rfl⟩
    have gx : Hid (Has W2 w1.heap.size 46 #[K x.key, K x.val, K x.sum, K x.size, G64 x.tag, .bool x.left, .bool x.right]) := hW2 ▸ Has.new w1 _ _
    have b2 : Hid (Below w.heap.size w W2) := hW2 ▸ b1.out.alloc b1.out.size _
    have s2 : W2.heap.size = w1.heap.size + 1 := hW2 ▸ World.size_alloc _ _
    rw [hW2]
    clear hW2
    obtain ⟨p, hp⟩ : ∃ p, w1.heap.size = p := ⟨_, rfl⟩
    rw [hp] at gx s2 ⊢
    clear hp b1
    rw [hkx.out, hvx.out] at gx
    have hcall := Lib.hid (fun (W : World) (hW : Below w.heap.size w W) => hL.out A1 c1 B la hla'.out W (Nat.le_trans hB hW.size) (K1'.out.next (hW.mono hB)))
    have hcallR := Lib.hid (fun (W : World) (hW : Below w.heap.size w W) => hR.out A2 c2 B lb hlb'.out W (Nat.le_trans hB hW.size) (K2'.out.next (hW.mono hB)))
    obtain ⟨y0, y1, y2, y3, y4, y5, y6⟩ := gx.out.seven
    clear y2 y3 y4 y5 y6
    have ro1 : Hid (Row (W2.drew.alloc (.cells #[K k, K v] 94)) (W2.drew.alloc (.cells #[K k, K v] 94)).heap.size (some ⟨p + 1, 0, none⟩) [K k, K v]) := by
      have := (Has.new W2.drew 94 #[K k, K v]).row
      rw [show W2.drew.heap.size = p + 1 from s2] at this
      exact this
    go_region_law (first
      | (go_simp; go_at_call 33; refine (hcall.out _ (by first | exact b2.out.drew | exact (b2.out.drew).alloc (by simpa using b2.out.size) _)).mono ?_
         rintro e w5 ⟨v5, rfl, ho5, hb5⟩
         have o5 := Lib.hid (owned_base ho5 (base := w.heap.size) (by first | exact b2.out.drew.size | exact ((b2.out.drew).alloc (by simpa using b2.out.size) _).size))
         have n5 := Lib.hid hb5
         have b5 := Lib.hid (Below.after (by first | exact b2.out.drew | exact (b2.out.drew).alloc (by simpa using b2.out.size) _) hb5)
         have g5 := Lib.hid (Has.next (by first | exact gx.out | exact gx.out.alloc _) hb5)
         obtain ⟨x0, x1, x2, x3, x4, x5, x6⟩ := g5.out.seven
         clear x2 x3 x4 x5 x6 hb5 ho5)
      | (refine step_append_row (by rfl) _ _ 67 (by rfl) w.heap.size 94 i0 (.agg #[.int .i64 0, .int .i64 0]) 2 16 Tryd.underlying67 hin hz0 hz1 hz2 rfl (by decide) v5 i (flat tl.pairs) (by rfl) o5.out (some ⟨p + 1, 0, none⟩) 1 1 [K k, K v] (by rfl) (by simp) (Nat.le_refl _) rfl _ (ro1.out.next n5.out) (flat_one [(k, v)]) (by unfold maxLen; omega) (by omega) b5.out.size ?_
         intro v6 w6 hown hgrow
         have o6 := Lib.hid hown
         have b6 := Lib.hid (b5.out.grown hgrow b5.out.size (fun r e => (o5.out.lt r e).1))
         clear hown hgrow)
      | (refine step_append_row (by rfl) _ _ 67 (by rfl) w.heap.size 94 i0 (.agg #[.int .i64 0, .int .i64 0]) 2 16 Tryd.underlying67 hin hz0 hz1 hz2 rfl (by decide) v5 i (flat tl.pairs) (by rfl) (o5.out.alloc _) (some ⟨w5.heap.size, 0, none⟩) 1 1 [K k, K v] (by rfl) (by simp) (Nat.le_refl _) rfl _ (Has.new w5 94 #[K k, K v]).row (flat_one [(k, v)]) (by unfold maxLen; omega) (by omega) (by have := b5.out.size; simp only [World.size_alloc]; omega) ?_
         intro v6 w6 hown hgrow
         have o6 := Lib.hid hown
         have b6 := Lib.hid ((b5.out.alloc b5.out.size _).grown hgrow (by have := b5.out.size; simp only [World.size_alloc]; omega) (fun r e => (o5.out.lt r e).1))
         clear hown hgrow)
      | fail)
    all_goals
      clear hcall ro1 n5 b5 g5 o5 x0 x1 y0 y1
      go_wp2_with fail
    all_goals
      refine (hcallR.out w6 b6.out).mono ?_
      rintro e w7 ⟨v7, rfl, ho7, hb7⟩
      obtain ⟨A7, c7, rfl, q7, -, nz7⟩ := own_slice ho7
      have rw7 := Lib.hid (Row.of_own ho7)
      have o7 := Lib.hid (owned_next o6.out hb7)
      have b7 := Lib.hid (Below.after b6.out hb7)
      have rlen : (flat tr.pairs).length = j * 2 := by rw [flat_length, pairs_len, hj'.out]
      clear hb7 ho7 hcallR o6 b6
      go_wp2_with (at_builtin; refine wpList_append_row rfl _ _ 67 rfl w.heap.size 94 i0 (.agg #[.int .i64 0, .int .i64 0]) 2 16 Tryd.underlying67 hin hz0 hz1 hz2 rfl (by decide) v6 (i + 1) (flat tl.pairs ++ [K k, K v]) rfl o7.out A7 j c7 (flat tr.pairs) rfl nz7 q7 rlen w7.heap.size rw7.out (flat_one _) (by unfold maxLen; omega) (by omega) b7.out.size ?_)
      intro v8 w8 hown hgrow
      have o8 := Lib.hid hown
      have b8 := Lib.hid (b7.out.grown hgrow b7.out.size (fun r e => (o7.out.lt r e).1))
      clear hown hgrow
      go_wp2
      go_ret
      refine ⟨v8, rfl, ?_, b8.out⟩
      have := o8.out
      rw [hn2'.out, show 1 + i + j = i + 1 + j by omega, Tr.pairs, flat_append, flat_cons]
      exact this
end Go.Proofs.YtfndaeocdgcaeaaDoor
