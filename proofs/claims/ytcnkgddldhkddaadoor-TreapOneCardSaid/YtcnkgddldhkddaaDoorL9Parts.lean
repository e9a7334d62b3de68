/- The document's own answers of layer 9: Parts. -/
import Derived.Test.YtcnkgddldhkddaaDoorL9Ends
import Derived.BigRegion
import Derived.RegionTactic
namespace Go.Proofs.YtcnkgddldhkddaaDoor
open Go.RowKit Go.Proofs.Treem

/-- beads that are those of a tree that is not empty, in their parts -/
theorem parts_of {l : List Bd} {tl tr : Tr} {k v g : BitVec 64} (h : l.map strip = (Tr.n tl k v g tr).pre) : ∃ x la lb, l = x :: (la ++ lb) ∧ strip x = ⟨k, v, g, tl.is, tr.is⟩ ∧ la.map strip = tl.pre ∧ lb.map strip = tr.pre ∧ la.length = tl.size ∧ lb.length = tr.size := by
  cases l with
  | nil => simp [Tr.pre] at h
  | cons x r =>
    simp only [List.map_cons, Tr.pre, List.cons.injEq] at h
    obtain ⟨h1, h2⟩ := h
    have h3 : (r.take tl.size).map strip = tl.pre := by rw [List.map_take, h2, ← pre_len tl, List.take_left]
    have h4 : (r.drop tl.size).map strip = tr.pre := by rw [List.map_drop, h2, ← pre_len tl, List.drop_left]
    refine ⟨x, r.take tl.size, r.drop tl.size, by rw [List.take_append_drop], h1, h3, h4, ?_, ?_⟩
    · have := congrArg List.length h3; rwa [List.length_map, pre_len] at this
    · have := congrArg List.length h4; rwa [List.length_map, pre_len] at this
/-- the two sides of a row of beads -/
theorem cut_sides {w : World} {B : Nat} {A : Option Addr} {n c : Nat} {x : Bd} {la lb : List Bd} {i j : Nat} (h : LieB w B A n c (x :: (la ++ lb))) (hi : la.length = i) (hj : lb.length = j) :
    ∃ A1 A2, (∀ W, (Instr.slice 22 (.slice A n c) (some (.int .i64 1)) (some (.int .i64 (1 + (i : Int)))) none).run Tryd.prog W = .ok (.slice A1 i (c - 1)) W) ∧
      (∀ W, (Instr.slice 22 (.slice A n c) (some (.int .i64 (1 + (i : Int)))) none none).run Tryd.prog W = .ok (.slice A2 j (c - (1 + i))) W) ∧
      LieB w B A1 i (c - 1) la ∧ LieB w B A2 j (c - (1 + i)) lb := by
  have hl : n = 1 + i + j := by have := h.len; simp only [List.length_cons, List.length_append, hi, hj] at this; omega
  have hcap := h.cap
  have hmax := h.max
  obtain ⟨A1, h1, h2, g1⟩ := cut_mid2 (P := Tryd.prog) Tryd.underlying22 size_bead A n c 1 (1 + i) 1 (1 + (i : Int)) rfl (by omega) (by omega) (by omega) (by omega)
  obtain ⟨A2, h3, h4, g2⟩ := cut_from2 (P := Tryd.prog) Tryd.underlying22 size_bead A n c (1 + i) (1 + (i : Int)) (by omega) (by omega) (by omega)
  have hlen : (flat7 (x :: (la ++ lb))).length ≤ n * 7 := by rw [flat7_length, h.len]; exact Nat.le_refl _
  have r1 := h2 w B _ h.row hlen
  have r2 := h4 w B _ h.row hlen
  rw [← flat7_take, ← flat7_drop] at r1
  rw [← flat7_drop] at r2
  have e1 : (List.take (1 + i) (x :: (la ++ lb))).drop 1 = la := by rw [Nat.add_comm 1 i, List.take_succ_cons, ← hi, List.take_left]; rfl
  have e2 : List.drop (1 + i) (x :: (la ++ lb)) = lb := by rw [Nat.add_comm 1 i, List.drop_succ_cons, ← hi, List.drop_left]
  rw [e1] at r1
  rw [e2] at r2
  have h5 : 1 + i - 1 = i := by omega
  have h6 : n - (1 + i) = j := by omega
  rw [h5] at h1
  rw [h6] at h3
  have hf := h.few
  have e3 : A1 = none → c - 1 = 0 := fun e => by have := h.nil (g1 e); omega
  have e4 : A2 = none → c - (1 + i) = 0 := fun e => by have := h.nil (g2 e); omega
  exact ⟨A1, A2, h1, h3, ⟨hi, by omega, by omega, by omega, e3, r1⟩, ⟨hj, by omega, by omega, by omega, e4, r2⟩⟩

theorem results_row3 {P : Program} {fn : Func} {p u v : Tmp} {ty : TypeId} (h : fn.results = #[.cell p ty, .tmp u, .tmp v]) (tmps : Array Value) (w : World) (g : Nat) (t : TypeId) (cs : Array Value) (fr : Nat × Nat) (d : TypeDesc)
    (hp : tmps.getD p undef = .pointer (some ⟨g, 0, none⟩)) (hg : w.heap[g]? = some (.cells cs t fr))
    (hu : P.underlying ty = some d) (hd : (match d with | .struct _ | .array _ _ => true | _ => false) = true) (hi : (P.info? ty).map (·.size) = some cs.size) :
    (results fn tmps).run P w = .ok (.tuple #[.agg cs, tmps.getD u undef, tmps.getD v undef]) w := by
  have hp' : tmps[p]?.getD undef = .pointer (some ⟨g, 0, none⟩) := by simpa using hp
  simp [results, h, hp', asAddr, run_loadVar_row w g t ty cs fr d hg hu hd hi]
/-- the result's cells, written -/
theorem bead_written {W0 : World} {sz : Nat} {t : TypeId} {v0 v1 v2 v3 v4 v5 v6 : Value} (h : Has W0 sz t #[v0, v1, v2, v3, v4, v5, v6]) (u0 u1 u2 u3 u4 u5 u6 : Value) :
    Has ((((((((W0.setCell ⟨sz, 0, none⟩ u0).setCell ⟨sz, 1, none⟩ u1).setCell ⟨sz, 2, none⟩ u2).setCell ⟨sz, 3, none⟩ u3).setCell ⟨sz, 4, none⟩ u4).setCell ⟨sz, 5, none⟩ u5).setCell ⟨sz, 6, none⟩ u6).drew) sz t #[u0, u1, u2, u3, u4, u5, u6] := by
  have k := ((((((h.set 0 u0).set 1 u1).set 2 u2).set 3 u3).set 4 u4).set 5 u5).set 6 u6
  simp only [List.setIfInBounds_toArray, List.set_cons_zero, List.set_cons_succ] at k
  generalize ((((((W0.setCell ⟨sz, 0, none⟩ u0).setCell ⟨sz, 1, none⟩ u1).setCell ⟨sz, 2, none⟩ u2).setCell ⟨sz, 3, none⟩ u3).setCell ⟨sz, 4, none⟩ u4).setCell ⟨sz, 5, none⟩ u5).setCell ⟨sz, 6, none⟩ u6 = W at k ⊢
  exact k
theorem bead_below {w W0 : World} {sz : Nat} (h : Below sz w W0) (u0 u1 u2 u3 u4 u5 u6 : Value) :
    Below sz w ((((((((W0.setCell ⟨sz, 0, none⟩ u0).setCell ⟨sz, 1, none⟩ u1).setCell ⟨sz, 2, none⟩ u2).setCell ⟨sz, 3, none⟩ u3).setCell ⟨sz, 4, none⟩ u4).setCell ⟨sz, 5, none⟩ u5).setCell ⟨sz, 6, none⟩ u6).drew) :=
  (((((((h.setCell (p := ⟨sz, 0, none⟩) (Nat.le_refl _) u0).setCell (p := ⟨sz, 1, none⟩) (Nat.le_refl _) u1).setCell (p := ⟨sz, 2, none⟩) (Nat.le_refl _) u2).setCell (p := ⟨sz, 3, none⟩) (Nat.le_refl _) u3).setCell (p := ⟨sz, 4, none⟩) (Nat.le_refl _) u4).setCell (p := ⟨sz, 5, none⟩) (Nat.le_refl _) u5).setCell (p := ⟨sz, 6, none⟩) (Nat.le_refl _) u6).drew

set_option maxHeartbeats 4000000 in
theorem parts9_any (A : Option Addr) (n c B : Nat) (l : List Bd) (tl tr : Tr) (k v g : BitVec 64) (hp : l.map strip = (Tr.n tl k v g tr).pre) (w : World) (hB : B ≤ w.heap.size) (h : LieB w B A n c l) (h5 : n ≤ 5000) :
    Calls Tryd.prog 31 #[.slice A n c] w fun e w' => ∃ A1 c1 A2 c2 x la lb, e = .returned (.tuple #[bdV x, .slice A1 tl.size c1, .slice A2 tr.size c2]) ∧ l = x :: (la ++ lb) ∧ strip x = ⟨k, v, g, tl.is, tr.is⟩ ∧ la.map strip = tl.pre ∧ lb.map strip = tr.pre ∧ LieB w B A1 tl.size c1 la ∧ LieB w B A2 tr.size c2 lb ∧ Below w.heap.size w w' := by
  obtain ⟨x, la, lb, rfl, hx, hla, hlb, l1, l2⟩ := parts_of hp
  obtain ⟨i, hi⟩ : ∃ i, tl.size = i := ⟨_, rfl⟩
  obtain ⟨j, hj⟩ : ∃ j, tr.size = j := ⟨_, rfl⟩
  rw [hi] at l1
  rw [hj] at l2
  obtain ⟨A1, A2, q1, q2, k1, k2⟩ := cut_sides h l1 l2
  rw [hi, hj]
  have hn : n = 1 + i + j := by have := h.len; simp only [List.length_cons, List.length_append, l1, l2] at this; omega
  have hends := ends9_any A n c B _ w h h5 n 1 0 (by omega) (by omega) (by omega) 1 0 rfl rfl
  have hdrop : (List.map strip (x :: (la ++ lb))).drop 1 = tl.pre ++ tr.pre := by rw [List.map_cons, List.drop_succ_cons, List.drop_zero, List.map_append, hla, hlb]
  rw [hdrop] at hends
  have hleft : x.left = tl.is := congrArg St.left hx
  have hBW := (Below.refl B w).alloc hB (.cells #[.int .i64 0, .int .i64 0, .int .i64 0, .int .i64 0, .int .u64 0, .bool false, .bool false] 52)
  obtain ⟨ad, rfl, hadB, g0, g1, g2, g3, g4, g5, g6⟩ := bead_at (h.next hBW) 0 (by simp)
  have hends2 := ends9_any (some ad) n c B _ _ (h.next hBW) h5 n 1 0 (by omega) (by omega) (by omega) 1 0 rfl rfl
  rw [hdrop] at hends2
  have hz := Has.new w 52 #[.int .i64 0, .int .i64 0, .int .i64 0, .int .i64 0, .int .u64 0, .bool false, .bool false]
  have e0 : ad.add (0 * 7) = ad := by simp [Addr.add]
  rw [e0] at g0 g1 g2 g3 g4 g5 g6
  simp only [List.getElem_cons_zero] at g0 g1 g2 g3 g4 g5 g6
  have K1 := Lib.hid k1
  have K2 := Lib.hid k2
  have hx' := Lib.hid hx
  have hla' := Lib.hid hla
  have hlb' := Lib.hid hlb
  have hwr : IntKind.i64.wrap (1 + (i : Int)) = 1 + (i : Int) := IntWalk.i64_in _ ⟨by omega, by omega⟩
  have hb0 := Lib.hid ((Below.refl w.heap.size w).alloc (Nat.le_refl _) (.cells #[.int .i64 0, .int .i64 0, .int .i64 0, .int .i64 0, .int .u64 0, .bool false, .bool false] 52))
  have hz' := Lib.hid hz
  have z0 := hz.cell 0
  have z1 := hz.cell 1
  have z2 := hz.cell 2
  have z3 := hz.cell 3
  have z4 := hz.cell 4
  have z5 := hz.cell 5
  have z6 := hz.cell 6
  simp only [List.getElem?_toArray, List.getElem?_cons_zero, List.getElem?_cons_succ] at z0 z1 z2 z3 z4 z5 z6
  have y0 := hz.free 0
  have y1 := hz.free 1
  have y2 := hz.free 2
  have y3 := hz.free 3
  have y4 := hz.free 4
  have y5 := hz.free 5
  have y6 := hz.free 6
  have ht2 : (tl.is = true → Hid (endsL (tl.pre ++ tr.pre) = some i)) := fun ht => by show endsL (tl.pre ++ tr.pre) = some i; rw [← hi]; exact ends_tree tl _ ht
  cases htl : tl.is with
  | false =>
    have htl' := Lib.hid htl
    have e1 := not_is htl
    rw [htl] at hleft
    rw [hleft] at g5
    obtain rfl : i = 0 := by rw [← hi, e1]; rfl
    have hn0 : (0 : Int) < (n : Int) := by omega
    have hn1 : 0 < n := by omega
    have hq1 : ∀ W, (Instr.slice 22 (.slice (some ad) n c) (some (.int .i64 1)) (some (.int .i64 1)) none).run Tryd.prog W = .ok (.slice A1 0 (c - 1)) W := q1
    have hq2 : ∀ W, (Instr.slice 22 (.slice (some ad) n c) (some (.int .i64 1)) none none).run Tryd.prog W = .ok (.slice A2 j (c - 1)) W := q2
    clear hends hends2 hdrop hx hla hlb k1 k2 h hp l1 l2 hi hj e1 ht2 htl hz hBW e0 hn q1 q2 hwr
    go_enter Tryd.func31, Tryd.ntmps31
    go_wp2
    obtain ⟨W0, hW0⟩ : ∃ W, w.alloc (.cells #[.int .i64 0, .int .i64 0, .int .i64 0, .int .i64 0, .int .u64 0, .bool false, .bool false] 52) = W := ⟨_, rfl⟩
    rw [hW0] at g0 g1 g2 g3 g4 g5 g6 hb0 hz' z0 z1 z2 z3 z4 z5 z6 y0 y1 y2 y3 y4 y5 y6 ⊢
    obtain ⟨sz, hsz⟩ : ∃ s, w.heap.size = s := ⟨_, rfl⟩
    rw [hsz] at hb0 hz' z0 z1 z2 z3 z4 z5 z6 y0 y1 y2 y3 y4 y5 y6 ⊢
    have hW0' := Lib.hid hW0
    clear hW0 hB h5 hadB
    have hleft' := Lib.hid hleft
    clear hleft
    have hkey : ∀ b : Bool, b = false → bdV x = bdV x := fun _ _ => rfl
    clear hkey
    go_region
    obtain ⟨W2, hW2⟩ : ∃ W2, ((((((((W0.setCell ⟨sz, 0, none⟩ (K x.key)).setCell ⟨sz, 1, none⟩ (K x.val)).setCell ⟨sz, 2, none⟩ (K x.sum)).setCell ⟨sz, 3, none⟩ (K x.size)).setCell ⟨sz, 4, none⟩ (G64 x.tag)).setCell ⟨sz, 5, none⟩ (.bool false)).setCell ⟨sz, 6, none⟩ (.bool x.right)).drew) = W2 := ⟨_, rfl⟩
    have hH : Has W2 sz 52 #[K x.key, K x.val, K x.sum, K x.size, G64 x.tag, .bool false, .bool x.right] := hW2 ▸ bead_written hz'.out _ _ _ _ _ _ _
    have hb2 : Below sz w W2 := hW2 ▸ bead_below hb0.out _ _ _ _ _ _ _
    rw [hW2]
    have hans : bdV x = .agg #[K x.key, K x.val, K x.sum, K x.size, G64 x.tag, .bool false, .bool x.right] := by rw [← hleft'.out]
    go_wp2
    refine bodyPost_ret (results_row3 rfl _ _ sz _ _ _ _ rfl hH Tryd.underlying52 rfl (by kernel_rfl)) rfl ?_
    refine ⟨A1, c - 1, A2, c - (1 + 0), x, la, lb, ?_, rfl, ?_, hla'.out, hlb'.out, K1.out, K2.out, hsz ▸ hb2⟩
    · rw [hans]; rfl
    · rw [← htl'.out]; exact hx'.out
  | true =>
    have htl' := Lib.hid htl
    rw [htl] at hleft
    rw [hleft] at g5
    rw [(ht2 htl).out] at hends2
    have e1 : ansE (some i) = (i : Int) := rfl
    rw [e1] at hends2
    clear e1
    have hn0 : (0 : Int) < (n : Int) := by omega
    have hn1 : 0 < n := by omega
    have hcall := Lib.hid hends2
    clear hends hends2 hdrop hx hla hlb k1 k2 h hp l1 l2 hi hj ht2 htl hz hBW e0 hn
    go_enter Tryd.func31, Tryd.ntmps31
    go_wp2_with (go_at_call 48; (with_reducible refine hcall.out.mono ?_); rintro e w' ⟨rfl, rfl⟩)
    obtain ⟨W0, hW0⟩ : ∃ W, w.alloc (.cells #[.int .i64 0, .int .i64 0, .int .i64 0, .int .i64 0, .int .u64 0, .bool false, .bool false] 52) = W := ⟨_, rfl⟩
    rw [hW0] at g0 g1 g2 g3 g4 g5 g6 hb0 hz' z0 z1 z2 z3 z4 z5 z6 y0 y1 y2 y3 y4 y5 y6 ⊢
    obtain ⟨sz, hsz⟩ : ∃ s, w.heap.size = s := ⟨_, rfl⟩
    rw [hsz] at hb0 hz' z0 z1 z2 z3 z4 z5 z6 y0 y1 y2 y3 y4 y5 y6 ⊢
    have hW0' := Lib.hid hW0
    clear hW0 hB h5 hadB
    have hleft' := Lib.hid hleft
    clear hleft
    have hkey : ∀ b : Bool, b = false → bdV x = bdV x := fun _ _ => rfl
    clear hkey
    go_region
    obtain ⟨W2, hW2⟩ : ∃ W2, ((((((((W0.setCell ⟨sz, 0, none⟩ (K x.key)).setCell ⟨sz, 1, none⟩ (K x.val)).setCell ⟨sz, 2, none⟩ (K x.sum)).setCell ⟨sz, 3, none⟩ (K x.size)).setCell ⟨sz, 4, none⟩ (G64 x.tag)).setCell ⟨sz, 5, none⟩ (.bool true)).setCell ⟨sz, 6, none⟩ (.bool x.right)).drew) = W2 := ⟨_, rfl⟩
    have hH : Has W2 sz 52 #[K x.key, K x.val, K x.sum, K x.size, G64 x.tag, .bool true, .bool x.right] := hW2 ▸ bead_written hz'.out _ _ _ _ _ _ _
    have hb2 : Below sz w W2 := hW2 ▸ bead_below hb0.out _ _ _ _ _ _ _
    rw [hW2]
    have hans : bdV x = .agg #[K x.key, K x.val, K x.sum, K x.size, G64 x.tag, .bool true, .bool x.right] := by rw [← hleft'.out]
    go_wp2
    refine bodyPost_ret (results_row3 rfl _ _ sz _ _ _ _ rfl hH Tryd.underlying52 rfl (by kernel_rfl)) rfl ?_
    refine ⟨A1, c - 1, A2, c - (1 + i), x, la, lb, ?_, rfl, ?_, hla'.out, hlb'.out, K1.out, K2.out, hsz ▸ hb2⟩
    · rw [hans]; rfl
    · rw [← htl'.out]; exact hx'.out
end Go.Proofs.YtcnkgddldhkddaaDoor
