/- The document's own answers of layer 9: Node. -/
import Derived.Test.YtcnkgddldhkddaaDoorL9Of
namespace Go.Proofs.YtcnkgddldhkddaaDoor
open Go.RowKit Go.Proofs.Treem

theorem is_pos (t : Tr) : decide (0 < t.size) = t.is := by
  cases t with
  | e => rfl
  | n l k v g r => exact decide_eq_true (by simp only [Tr.size]; omega)

/-- a row of the call's own, of an elder base -/
theorem own_base {w : World} {base base' n : Nat} {e : TypeId} {size : Nat} {v : Value} {xs : List Value} (h : w.ownsRow base e size v n xs) (hb : base' ≤ base) : w.ownsRow base' e size v n xs := by
  refine ⟨h.1, ?_⟩
  rcases h.2 with hn | ⟨g, cap, cur, h1, h2, h3⟩
  · exact .inl hn
  · exact .inr ⟨g, cap, cur, h1, Nat.le_trans hb h2, h3⟩
set_option maxHeartbeats 4000000 in
theorem node9 (tl tr : Tr) (k v g : BitVec 64) (A A' : Option Addr) (i j c c' : Nat) (la lb : List Bd) (hla : la.map strip = tl.pre) (hlb : lb.map strip = tr.pre) (hi : tl.size = i) (hj : tr.size = j) (h5 : 1 + i + j ≤ 5000) (w : World) (h : LieB w w.heap.size A i c la) (q : LieB w w.heap.size A' j c' lb) :
    Calls Tryd.prog 46 #[.slice A i c, K k, K v, G64 g, .slice A' j c'] w fun e w' => ∃ v', e = .returned v' ∧ w'.ownsRow w.heap.size 52 7 v' (1 + i + j) (flat7 (Tr.told (.n tl k v g tr))) ∧ Below w.heap.size w w' := by
  have hres := Lib.hid (fun A c B l hl w hB h => of9 (.n tl k v g tr) A (1 + i + j) c B l hl (by rw [Tr.size, hi, hj]) h5 w hB h)
  obtain ⟨T, hT⟩ : ∃ T, Tr.told (.n tl k v g tr) = T := ⟨_, rfl⟩
  rw [hT] at hres ⊢
  have hli : decide (0 < i) = tl.is := by rw [← hi]; exact is_pos tl
  have hrj : decide (0 < j) = tr.is := by rw [← hj]; exact is_pos tr
  obtain ⟨lf, hlf⟩ : ∃ b, tl.is = b := ⟨_, rfl⟩
  obtain ⟨rt, hrt⟩ : ∃ b, tr.is = b := ⟨_, rfl⟩
  rw [hlf] at hli
  rw [hrt] at hrj
  obtain ⟨i0, hin, e0⟩ : ∃ i0, Tryd.prog.info? 52 = some i0 ∧ (i0.zero, i0.size, i0.bytes) = (some (.agg #[.int .i64 0, .int .i64 0, .int .i64 0, .int .i64 0, .int .u64 0, .bool false, .bool false]), 7, 48) := by
    have hi0 := info_bead
    cases hh : Tryd.prog.info? 52 with
    | none => rw [hh] at hi0; cases hi0
    | some i0 => rw [hh] at hi0; exact ⟨i0, rfl, Option.some.inj hi0⟩
  have hz0 : i0.zero = some (.agg #[.int .i64 0, .int .i64 0, .int .i64 0, .int .i64 0, .int .u64 0, .bool false, .bool false]) := congrArg Prod.fst e0
  have hz1 : i0.size = 7 := congrArg (fun q => q.2.1) e0
  have hz2 : i0.bytes = 48 := congrArg (fun q => q.2.2) e0
  have la' : (flat7 la).length = i * 7 := by rw [flat7_length, h.len]
  have lb' : (flat7 lb).length = j * 7 := by rw [flat7_length, q.len]
  have h' := Lib.hid h
  have q' := Lib.hid q
  have hlf' := Lib.hid hlf
  have hrt' := Lib.hid hrt
  have hla' := Lib.hid hla
  have hlb' := Lib.hid hlb
  clear e0 h q hla hlb hi hj hT hlf hrt
  go_enter Tryd.func46, Tryd.ntmps46
  have o0 : Hid ((w.alloc (.cells #[K k, K v, .int .i64 0, .int .i64 0, G64 g, .bool lf, .bool rt] 52)).ownsRow w.heap.size 52 7 (.slice (some ⟨w.heap.size, 0, none⟩) 1 1) 1 [K k, K v, .int .i64 0, .int .i64 0, G64 g, .bool lf, .bool rt]) := World.ownsRow_lit w #[K k, K v, .int .i64 0, .int .i64 0, G64 g, .bool lf, .bool rt] 1 (Nat.le_refl _) (by decide) rfl
  have b0 := Lib.hid ((Below.refl w.heap.size w).alloc (Nat.le_refl _) (.cells #[K k, K v, .int .i64 0, .int .i64 0, G64 g, .bool lf, .bool rt] 52))
  go_wp2_with (at_builtin; refine wpList_append_row rfl _ _ 22 rfl w.heap.size 52 i0 (.agg #[.int .i64 0, .int .i64 0, .int .i64 0, .int .i64 0, .int .u64 0, .bool false, .bool false]) 7 48 Tryd.underlying22 hin hz0 hz1 hz2 rfl (by decide) (.slice (some ⟨w.heap.size, 0, none⟩) 1 1) 1 [K k, K v, .int .i64 0, .int .i64 0, G64 g, .bool lf, .bool rt] rfl o0.out A i c (flat7 la) rfl h'.out.nil h'.out.cap la' w.heap.size (h'.out.row.below b0.out) (flat7_one _) (by unfold maxLen; omega) (by omega) b0.out.size ?_)
  intro v1 w1 hown hgrow
  have o1 := Lib.hid hown
  have b1 := Lib.hid (b0.out.grown hgrow b0.out.size (fun r e => (o0.out.lt r e).1))
  clear hown hgrow
  go_wp2_with (at_builtin; refine wpList_append_row rfl _ _ 22 rfl w.heap.size 52 i0 (.agg #[.int .i64 0, .int .i64 0, .int .i64 0, .int .i64 0, .int .u64 0, .bool false, .bool false]) 7 48 Tryd.underlying22 hin hz0 hz1 hz2 rfl (by decide) v1 (1 + i) ([K k, K v, .int .i64 0, .int .i64 0, G64 g, .bool lf, .bool rt] ++ flat7 la) rfl o1.out A' j c' (flat7 lb) rfl q'.out.nil q'.out.cap lb' w.heap.size (q'.out.row.below b1.out) (flat7_one _) (by unfold maxLen; omega) (by omega) b1.out.size ?_)
  intro v2 w2 hown hgrow
  obtain ⟨z, hz⟩ : ∃ z : Bd, z = ⟨k, v, 0#64, 0#64, g, lf, rt⟩ := ⟨_, rfl⟩
  have e3 : [K k, K v, .int .i64 0, .int .i64 0, G64 g, .bool lf, .bool rt] ++ flat7 la ++ flat7 lb = flat7 (z :: (la ++ lb)) := by rw [hz, flat7_cons, flat7_append]; rfl
  replace hown : w2.ownsRow w.heap.size 52 7 v2 (1 + i + j) (flat7 (z :: (la ++ lb))) := by rw [← e3]; exact hown
  have hl3 : (z :: (la ++ lb)).length = 1 + i + j := by rw [List.length_cons, List.length_append, h'.out.len, q'.out.len]; omega
  obtain ⟨A3, c3, rfl, k3⟩ := LieB.of_own hl3 (by omega) hown
  have hs3 : Hid ((z :: (la ++ lb)).map strip = (Tr.n tl k v g tr).pre) := by
    show _ = _
    rw [List.map_cons, List.map_append, hla'.out, hlb'.out, hz, Tr.pre, hlf'.out, hrt'.out]; rfl
  have k3' := Lib.hid k3
  have b2 := Lib.hid (b1.out.grown hgrow b1.out.size (fun r e => (o1.out.lt r e).1))
  clear hown hgrow k3 e3 hl3 hz
  go_wp2_with fail
  refine (hres.out A3 c3 _ _ hs3.out w2 (Nat.le_refl _) k3'.out).mono ?_
  rintro e w3 ⟨v3, rfl, ho3, hb3⟩
  have o3 := Lib.hid ho3
  have b3 := Lib.hid hb3
  clear ho3 hb3
  go_wp2
  go_ret
  exact ⟨_, rfl, own_base o3.out b2.out.size, Below.after b2.out b3.out⟩
end Go.Proofs.YtcnkgddldhkddaaDoor
