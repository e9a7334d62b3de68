/- The document's own answers of layer 16: Check, Part, May, Make, Blacken, Rank. Made by wip/gen/layer16ref.py. -/
import Derived.Test.YtifhnaelkjfmdabL16Ref
import Derived.Test.YtifhnaelkjfmdabGApp
namespace Go.Proofs.Ytifhnaelkjfmdab
open Go.RowKit Go.Proofs.Treem
set_option maxRecDepth 100000

theorem refCheck16 (t : Tr) (A : Option Addr) (n c B : Nat) (l : List Bd) (hl : l.map strip = t.pre) (hn : t.size = n) (h5 : n ≤ 5000) (w : World) (hB : B ≤ w.heap.size) (h : LieB w B A n c l) :
    Calls Try.prog 71 #[.slice A n c] w fun e w' => e = .returned (.tuple #[nI (placeR t), nI (errR t)]) ∧ Below w.heap.size w w' := by
  have c1 := Lib.hid (refParts16 t A n c B l hl hn h5 w hB h)
  have c2 := Lib.hid (fun W (hb : Below w.heap.size w W) => refRed16 t A n c B l hl W (h.next (hb.mono hB)))
  unfold placeR errR
  obtain ⟨f, hf⟩ : ∃ x, errF rootR t = x := ⟨_, rfl⟩
  obtain ⟨x, hx⟩ : ∃ x, placeF rootR t = x := ⟨_, rfl⟩
  obtain ⟨r, hr⟩ : ∃ x, redR t = x := ⟨_, rfl⟩
  rw [hf, hx] at c1
  rw [hr] at c2
  rw [hf, hx, hr]
  clear hl hn h5 hB h hf hx hr
  by_cases h0 : f = 0
  · subst h0
    cases r with
    | true =>
      rw [if_pos ⟨rfl, rfl⟩, if_pos ⟨rfl, rfl⟩]
      go_enter Try.func71, Try.ntmps71
      go_wp2_with fail
      refine c1.out.mono ?_
      rintro e w1 ⟨rfl, hb⟩
      have b1 := Lib.hid hb
      clear hb c1
      go_wp2_with fail
      refine (c2.out w1 b1.out).mono ?_
      rintro e w' ⟨rfl, rfl⟩
      go_wp2
      go_ret2
      exact ⟨rfl, b1.out⟩
    | false =>
      rw [if_neg (by simp), if_neg (by simp)]
      go_enter Try.func71, Try.ntmps71
      go_wp2_with fail
      refine c1.out.mono ?_
      rintro e w1 ⟨rfl, hb⟩
      have b1 := Lib.hid hb
      clear hb c1
      go_wp2_with fail
      refine (c2.out w1 b1.out).mono ?_
      rintro e w' ⟨rfl, rfl⟩
      go_wp2
      go_ret2
      exact ⟨rfl, b1.out⟩
  · rw [if_neg (fun h => h0 h.1), if_neg (fun h => h0 h.1)]
    have d1 : ((f : Int) == 0) = false := by rw [beq_eq_false_iff_ne]; omega
    go_enter Try.func71, Try.ntmps71
    go_wp2_with fail
    refine c1.out.mono ?_
    rintro e w1 ⟨rfl, hb⟩
    have b1 := Lib.hid hb
    clear hb c1
    go_wp2
    go_ret2
    exact ⟨rfl, b1.out⟩
theorem refPart16 (t : Tr) (A : Option Addr) (n c B : Nat) (l : List Bd) (hl : l.map strip = t.pre) (hn : t.size = n) (h5 : n ≤ 5000) (w : World) (hB : B ≤ w.heap.size) (h : LieB w B A n c l) :
    Calls Try.prog 53 #[.slice A n c] w fun e w' => e = .returned (.bool (partR t)) ∧ Below w.heap.size w w' := by
  have c1 := Lib.hid (refParts16 t A n c B l hl hn h5 w hB h)
  have hm : Hid (partR t = ((errF rootR t : Int) == 0)) := by
    show _ = _
    unfold partR
    by_cases h : errF rootR t = 0
    · rw [h]; rfl
    · rw [beq_eq_false_iff_ne.2 h, beq_eq_false_iff_ne.2 (show ((errF rootR t : Nat) : Int) ≠ 0 by omega)]
  obtain ⟨f, hf⟩ : ∃ x, errF rootR t = x := ⟨_, rfl⟩
  obtain ⟨x, hx⟩ : ∃ x, placeF rootR t = x := ⟨_, rfl⟩
  rw [hf, hx] at c1
  rw [hf] at hm
  clear hl hn h5 hB h hf hx
  go_enter Try.func53, Try.ntmps53
  go_wp2_with fail
  refine c1.out.mono ?_
  rintro e w1 ⟨rfl, hb⟩
  have b1 := Lib.hid hb
  clear hb c1
  go_wp2
  go_ret
  exact ⟨by rw [hm.out]; rfl, b1.out⟩
theorem refMay16 (t : Tr) (A : Option Addr) (n c B : Nat) (l : List Bd) (hl : l.map strip = t.pre) (hn : t.size = n) (h5 : n ≤ 5000) (w : World) (hB : B ≤ w.heap.size) (h : LieB w B A n c l) :
    Calls Try.prog 57 #[.slice A n c] w fun e w' => e = .returned (.bool (mayR t)) ∧ Below w.heap.size w w' := by
  have c1 := Lib.hid (refCheck16 t A n c B l hl hn h5 w hB h)
  have hm : Hid (mayR t = ((errR t : Int) == 0)) := by
    show _ = _
    unfold mayR
    by_cases h : errR t = 0
    · rw [h]; rfl
    · rw [beq_eq_false_iff_ne.2 h, beq_eq_false_iff_ne.2 (show ((errR t : Nat) : Int) ≠ 0 by omega)]
  obtain ⟨f, hf⟩ : ∃ x, errR t = x := ⟨_, rfl⟩
  obtain ⟨x, hx⟩ : ∃ x, placeR t = x := ⟨_, rfl⟩
  rw [hf, hx] at c1
  rw [hf] at hm
  clear hl hn h5 hB h hf hx
  go_enter Try.func57, Try.ntmps57
  go_wp2_with fail
  refine c1.out.mono ?_
  rintro e w1 ⟨rfl, hb⟩
  have b1 := Lib.hid hb
  clear hb c1
  go_wp2
  go_ret
  exact ⟨by rw [hm.out]; rfl, b1.out⟩
set_option maxHeartbeats 4000000 in
theorem refMake16_true (tl tr : Tr) (k v : BitVec 64) (A A' : Option Addr) (i j c c' : Nat) (la lb : List Bd) (hla : la.map strip = tl.pre) (hlb : lb.map strip = tr.pre) (hi : tl.size = i) (hj : tr.size = j) (n : Nat) (hn : 1 + i + j = n) (h5 : n ≤ 5000) (w : World) (h : LieB w w.heap.size A i c la) (q : LieB w w.heap.size A' j c' lb) :
    Calls Try.prog 13 #[.slice A i c, K k, K v, .bool true, .slice A' j c'] w (MadeB w n (makeR tl k v true tr).told) := by
  have t1 := Lib.hid (refHigh16 tl A i c _ la hla w h)
  have cN := Lib.hid (node9 tl tr k v (tagR tl true) A A' i j c c' la lb hla hlb hi hj (by omega) w h q)
  have hsz : (makeR tl k v true tr).told.length = n := by rw [told_len, makeR, Tr.size, hi, hj, hn]
  rw [hn] at cN
  have hT : Tr.told (.n tl k v (tagR tl true) tr) = (makeR tl k v true tr).told := rfl
  rw [hT] at cN
  have hg : G64 (tagR tl true) = .int .u64 (((2 * highR tl + 1) % 18446744073709551616 : Nat) : Int) := by
    show Value.int .u64 ((BitVec.ofNat 64 (2 * highR tl + 1)).toNat : Int) = _
    rw [BitVec.toNat_ofNat]
  rw [hg] at cN
  have hHl := high_lt tl
  obtain ⟨H, hH⟩ : ∃ b, highR tl = b := ⟨_, rfl⟩
  rw [hH] at t1 cN hHl
  obtain ⟨Z, hZ⟩ : ∃ z : Int, (((2 * H + 1) % 18446744073709551616 : Nat) : Int) = z := ⟨_, rfl⟩
  rw [hZ] at cN
  obtain ⟨Y, hY⟩ : ∃ z : Int, IntKind.u64.wrap (2 * (H : Int) + 2) = z := ⟨_, rfl⟩
  have wr1 : IntKind.u64.wrap (2 * (H : Int)) = 2 * (H : Int) := IntWalk.u64_in _ (by omega)
  have wr2 : IntKind.u64.wrap (2 * (H : Int) + 1) = Z := by rw [← hZ, IntKind.wrap_u64]; omega
  have hsz' := Lib.hid hsz
  clear hg hT hsz h q hla hlb hi hj hn hZ hH hHl
  go_enter Try.func13, Try.ntmps13
  go_wp2_with fail
  refine t1.out.mono ?_
  rintro e w' ⟨rfl, rfl⟩
  go_wp2_with fail
  refine t1.out.mono ?_
  rintro e w' ⟨rfl, rfl⟩
  go_wp2_with fail
  refine cN.out.mono ?_
  rintro e w1 ⟨v', rfl, ho, hb⟩
  obtain ⟨A3, c3, rfl, k3⟩ := LieB.of_own hsz'.out (by omega) ho
  have b1 := Lib.hid hb
  have k3' := Lib.hid k3
  clear hb k3 ho
  go_wp2
  go_ret
  exact ⟨A3, c3, rfl, k3'.out, b1.out⟩
set_option maxHeartbeats 4000000 in
theorem refMake16_false (tl tr : Tr) (k v : BitVec 64) (A A' : Option Addr) (i j c c' : Nat) (la lb : List Bd) (hla : la.map strip = tl.pre) (hlb : lb.map strip = tr.pre) (hi : tl.size = i) (hj : tr.size = j) (n : Nat) (hn : 1 + i + j = n) (h5 : n ≤ 5000) (w : World) (h : LieB w w.heap.size A i c la) (q : LieB w w.heap.size A' j c' lb) :
    Calls Try.prog 13 #[.slice A i c, K k, K v, .bool false, .slice A' j c'] w (MadeB w n (makeR tl k v false tr).told) := by
  have t1 := Lib.hid (refHigh16 tl A i c _ la hla w h)
  have cN := Lib.hid (node9 tl tr k v (tagR tl false) A A' i j c c' la lb hla hlb hi hj (by omega) w h q)
  have hsz : (makeR tl k v false tr).told.length = n := by rw [told_len, makeR, Tr.size, hi, hj, hn]
  rw [hn] at cN
  have hT : Tr.told (.n tl k v (tagR tl false) tr) = (makeR tl k v false tr).told := rfl
  rw [hT] at cN
  have hg : G64 (tagR tl false) = .int .u64 (((2 * highR tl + 2) % 18446744073709551616 : Nat) : Int) := by
    show Value.int .u64 ((BitVec.ofNat 64 (2 * highR tl + 2)).toNat : Int) = _
    rw [BitVec.toNat_ofNat]
  rw [hg] at cN
  have hHl := high_lt tl
  obtain ⟨H, hH⟩ : ∃ b, highR tl = b := ⟨_, rfl⟩
  rw [hH] at t1 cN hHl
  obtain ⟨Z, hZ⟩ : ∃ z : Int, (((2 * H + 2) % 18446744073709551616 : Nat) : Int) = z := ⟨_, rfl⟩
  rw [hZ] at cN
  have wr1 : IntKind.u64.wrap (2 * (H : Int)) = 2 * (H : Int) := IntWalk.u64_in _ (by omega)
  have wr2 : IntKind.u64.wrap (2 * (H : Int) + 2) = Z := by rw [← hZ, IntKind.wrap_u64]; omega
  have hsz' := Lib.hid hsz
  clear hg hT hsz h q hla hlb hi hj hn hZ hH hHl
  go_enter Try.func13, Try.ntmps13
  go_wp2_with fail
  refine t1.out.mono ?_
  rintro e w' ⟨rfl, rfl⟩
  go_wp2_with fail
  refine cN.out.mono ?_
  rintro e w1 ⟨v', rfl, ho, hb⟩
  obtain ⟨A3, c3, rfl, k3⟩ := LieB.of_own hsz'.out (by omega) ho
  have b1 := Lib.hid hb
  have k3' := Lib.hid k3
  clear hb k3 ho
  go_wp2
  go_ret
  exact ⟨A3, c3, rfl, k3'.out, b1.out⟩
theorem refMake16 (red : Bool) (tl tr : Tr) (k v : BitVec 64) (A A' : Option Addr) (i j c c' : Nat) (la lb : List Bd) (hla : la.map strip = tl.pre) (hlb : lb.map strip = tr.pre) (hi : tl.size = i) (hj : tr.size = j) (n : Nat) (hn : 1 + i + j = n) (h5 : n ≤ 5000) (w : World) (h : LieB w w.heap.size A i c la) (q : LieB w w.heap.size A' j c' lb) :
    Calls Try.prog 13 #[.slice A i c, K k, K v, .bool red, .slice A' j c'] w (MadeB w n (makeR tl k v red tr).told) := by
  cases red with
  | true => exact refMake16_true tl tr k v A A' i j c c' la lb hla hlb hi hj n hn h5 w h q
  | false => exact refMake16_false tl tr k v A A' i j c c' la lb hla hlb hi hj n hn h5 w h q
/-- beads of a tree whose root is black, if it was red -/
def upB : List Bd → List Bd
  | [] => []
  | x :: r => { x with tag := x.tag + 1#64 } :: r
def blackB (t : Tr) (l : List Bd) : List Bd := if redR t then upB l else l
theorem blackB_strip (t : Tr) (l : List Bd) (h : l.map strip = t.pre) : (blackB t l).map strip = (blackR t).pre := by
  unfold blackB
  cases hr : redR t with
  | false => rw [black_no hr, if_neg (by decide)]; exact h
  | true =>
    rw [if_pos rfl]
    cases t with
    | e => cases hr
    | n tl k v g tr =>
      rw [black_yes hr]
      cases l with
      | nil => simp [Tr.pre] at h
      | cons x r =>
        rw [List.map_cons, Tr.pre, List.cons.injEq] at h
        rw [upB, List.map_cons, Tr.pre, h.2, List.cons.injEq]
        refine ⟨?_, rfl⟩
        have h1 := h.1
        rw [show strip { x with tag := x.tag + 1#64 } = { strip x with tag := (strip x).tag + 1#64 } from rfl, h1]
theorem blackB_told (t : Tr) : blackB t t.told = (blackR t).told := by
  unfold blackB
  cases hr : redR t with
  | false => rw [black_no hr, if_neg (by decide)]
  | true =>
    rw [if_pos rfl]
    cases t with
    | e => cases hr
    | n tl k v g tr => rw [black_yes hr]; rfl
theorem blackB_len (t : Tr) (l : List Bd) : (blackB t l).length = l.length := by
  unfold blackB
  split
  · cases l <;> rfl
  · rfl
set_option maxHeartbeats 4000000 in
theorem refBlack16 (t : Tr) (A : Option Addr) (n c : Nat) (l : List Bd) (hl : l.map strip = t.pre) (h5 : n ≤ 5000) (w : World) (h : LieB w w.heap.size A n c l) :
    Calls Try.prog 18 #[.slice A n c] w (MadeB w n (blackB t l)) := by
  obtain ⟨i0, hin, e0⟩ : ∃ i0, Try.prog.info? 56 = some i0 ∧ (i0.zero, i0.size, i0.bytes) = (some (.agg #[.int .i64 0, .int .i64 0, .int .i64 0, .int .i64 0, .int .u64 0, .bool false, .bool false]), 7, 48) := by
    have hi0 := info_bead
    cases hh : Try.prog.info? 56 with
    | none => rw [hh] at hi0; cases hi0
    | some i0 => rw [hh] at hi0; exact ⟨i0, rfl, Option.some.inj hi0⟩
  have hz0 : i0.zero = some (.agg #[.int .i64 0, .int .i64 0, .int .i64 0, .int .i64 0, .int .u64 0, .bool false, .bool false]) := congrArg Prod.fst e0
  have hz1 : i0.size = 7 := congrArg (fun q => q.2.1) e0
  have hz2 : i0.bytes = 48 := congrArg (fun q => q.2.2) e0
  have la' : (flat7 l).length = n * 7 := by rw [flat7_length, h.len]
  have cR := Lib.hid (fun W (hb : Below w.heap.size w W) => refRed16 t A n c w.heap.size l hl W (h.next hb))
  have h' := Lib.hid h
  have o0 : Hid (w.ownsRow w.heap.size 56 7 (.slice none 0 0) 0 []) := ⟨rfl, .inl ⟨rfl, rfl⟩⟩
  have hl' := Lib.hid hl
  clear e0 hl h
  go_enter Try.func18, Try.ntmps18
  go_wp2_with (at_builtin; refine wpList_append_row rfl _ _ 22 rfl w.heap.size 56 i0 (.agg #[.int .i64 0, .int .i64 0, .int .i64 0, .int .i64 0, .int .u64 0, .bool false, .bool false]) 7 48 Try.underlying22 hin hz0 hz1 hz2 rfl (by decide) (.slice none 0 0) 0 [] rfl o0.out A n c (flat7 l) rfl h'.out.nil h'.out.cap la' w.heap.size h'.out.row (flat7_one _) (by unfold maxLen; omega) (by omega) (Nat.le_refl _) ?_)
  intro v1 w1 hown hgrow
  have b1 := Lib.hid ((Below.refl w.heap.size w).grown hgrow (Nat.le_refl _) (fun r e => by cases e))
  have o1 := Lib.hid hown
  clear hown hgrow o0
  go_wp2_with fail
  refine (cR.out w1 b1.out).mono ?_
  rintro e w' ⟨rfl, rfl⟩
  clear cR
  cases hr : redR t with
  | false =>
    go_wp2
    go_ret
    have hn := h'.out.len
    obtain ⟨A2, c2, e2, k2⟩ := LieB.of_own hn (by omega) o1.out
    exact ⟨A2, c2, by rw [← e2]; rfl, by unfold blackB; rw [hr]; exact k2, b1.out⟩
  | true =>
    cases t with
    | e => cases hr
    | n tl k v g tr =>
      have hn := h'.out.len
      cases l with
      | nil => exact absurd hl'.out (by simp [Tr.pre])
      | cons x rr =>
        rw [List.length_cons] at hn
        obtain ⟨gg, cc, rfl, hg0, hnc, hcm⟩ := own_full o1.out (by omega)
        obtain ⟨A2, c2, e2, k2⟩ := LieB.of_own h'.out.len (by omega) o1.out
        cases e2
        obtain ⟨ad, e3, hadB, g0, g1, g2, g3, g4, g5, g6⟩ := bead_at k2 0 (by simp)
        cases e3
        have f0 : w1.cell? ⟨gg, 0, none⟩ = some (K x.key) := g0
        have f1 : w1.cell? ⟨gg, 1, none⟩ = some (K x.val) := g1
        have f2 : w1.cell? ⟨gg, 2, none⟩ = some (K x.sum) := g2
        have f3 : w1.cell? ⟨gg, 3, none⟩ = some (K x.size) := g3
        have f4 : w1.cell? ⟨gg, 4, none⟩ = some (.int .u64 (x.tag.toNat : Int)) := g4
        have f5 : w1.cell? ⟨gg, 5, none⟩ = some (.bool x.left) := g5
        have f6 : w1.cell? ⟨gg, 6, none⟩ = some (.bool x.right) := g6
        have d1 : 0 < n := by omega
        clear g0 g1 g2 g3 g4 g5 g6 k2 hin hz0 hz1 hz2 la'
        go_upto_region 4 with (fail)
        obtain ⟨W2, hW2⟩ : ∃ W2, w1.alloc (.cells #[K x.key, K x.val, K x.sum, K x.size, .int .u64 (x.tag.toNat : Int), .bool x.left, .bool x.right] 56) = W2 := ⟨_, rfl⟩
        have gx : Hid (Has W2 w1.heap.size 56 #[K x.key, K x.val, K x.sum, K x.size, .int .u64 (x.tag.toNat : Int), .bool x.left, .bool x.right]) := hW2 ▸ Has.new w1 _ _
        have bb : Below w1.heap.size w1 W2 := hW2 ▸ (Below.refl _ _).alloc (Nat.le_refl _) _
        have bb2 := Lib.hid (Below.after b1.out bb)
        have o2 := Lib.hid (owned_next o1.out bb)
        show Code.wp _ _ _ _ (w1.alloc (.cells #[K x.key, K x.val, K x.sum, K x.size, .int .u64 (x.tag.toNat : Int), .bool x.left, .bool x.right] 56))
        rw [hW2]
        obtain ⟨p, hp⟩ : ∃ p, w1.heap.size = p := ⟨_, rfl⟩
        rw [hp] at gx hadB ⊢
        have hpw : w.heap.size ≤ p := by rw [← hp]; exact b1.out.size
        have hne : gg ≠ p := by omega
        clear hp hW2 bb o1 b1 f0 f1 f2 f3 f4 f5 f6
        obtain ⟨y0, y1, y2, y3, y4, y5, y6⟩ := gx.out.seven
        have z4 := gx.out.free 4
        obtain ⟨tg, htg⟩ : ∃ z : Int, (x.tag.toNat : Int) = z := ⟨_, rfl⟩
        obtain ⟨tu, htu⟩ : ∃ z : Int, ((x.tag + 1#64).toNat : Int) = z := ⟨_, rfl⟩
        have up : IntKind.u64.wrap (tg + 1) = tu := by
          rw [← htg, ← htu, IntKind.wrap_u64, BitVec.toNat_add, show (1#64).toNat = 1 from rfl]
          omega
        rw [htg] at y4 gx
        go_upto_region 5 with (fail)
        obtain ⟨W3, hW3⟩ : ∃ W3, W2.setCell ⟨p, 4, none⟩ (.int .u64 tu) = W3 := ⟨_, rfl⟩
        have gy := gx.out.set 4 (.int .u64 tu)
        rw [hW3] at gy ⊢
        have bb3 : Hid (Below w.heap.size w W3) := hW3 ▸ bb2.out.setCell (by show w.heap.size ≤ p; exact hpw) _
        have o3 : W3.ownsRow w.heap.size 56 7 (.slice (some ⟨gg, 0, none⟩) n cc) n (flat7 (x :: rr)) := hW3 ▸ ownsRow_setCell_other o2.out (by simpa [Value.ownBlock] using hne) _
        clear hW3 bb2 o2 gx y0 y1 y2 y3 y4 y5 y6 z4 up
        have gy : Has W3 p 56 #[K x.key, K x.val, K x.sum, K x.size, .int .u64 tu, .bool x.left, .bool x.right] := gy
        obtain ⟨y0, y1, y2, y3, y4, y5, y6⟩ := gy.seven
        have q0 := o3.frozenAt 0
        have q1 := o3.frozenAt 1
        have q2 := o3.frozenAt 2
        have q3 := o3.frozenAt 3
        have q4 := o3.frozenAt 4
        have q5 := o3.frozenAt 5
        have q6 := o3.frozenAt 6
        have r3 : Row W3 W3.heap.size (some ⟨gg, 0, none⟩) (flat7 (x :: rr)) := Row.of_own o3
        have f0 : W3.cell? ⟨gg, 0, none⟩ = some (K x.key) := (r3.at_ (j := 0) rfl).2
        have f1 : W3.cell? ⟨gg, 1, none⟩ = some (K x.val) := (r3.at_ (j := 1) rfl).2
        have f2 : W3.cell? ⟨gg, 2, none⟩ = some (K x.sum) := (r3.at_ (j := 2) rfl).2
        have f3 : W3.cell? ⟨gg, 3, none⟩ = some (K x.size) := (r3.at_ (j := 3) rfl).2
        have f4 : W3.cell? ⟨gg, 4, none⟩ = some (.int .u64 (x.tag.toNat : Int)) := (r3.at_ (j := 4) rfl).2
        have f5 : W3.cell? ⟨gg, 5, none⟩ = some (.bool x.left) := (r3.at_ (j := 5) rfl).2
        have f6 : W3.cell? ⟨gg, 6, none⟩ = some (.bool x.right) := (r3.at_ (j := 6) rfl).2
        have o3' := Lib.hid o3
        clear o3 gy r3
        go_upto_region 6 with (fail)
        have s0 := o3'.out.stored 0 (K x.key)
        have s1 := s0.1.stored 1 (K x.val)
        have s2 := s1.1.stored 2 (K x.sum)
        have s3 := s2.1.stored 3 (K x.size)
        have s4 := s3.1.stored 4 (.int .u64 tu)
        have s5 := s4.1.stored 5 (.bool x.left)
        have s6 := s5.1.stored 6 (.bool x.right)
        have o4 := Lib.hid s6.1
        have bb4 : Hid (Below w.heap.size w (((((((W3.setCell ⟨gg, 0, none⟩ (K x.key)).setCell ⟨gg, 1, none⟩ (K x.val)).setCell ⟨gg, 2, none⟩ (K x.sum)).setCell ⟨gg, 3, none⟩ (K x.size)).setCell ⟨gg, 4, none⟩ (.int .u64 tu)).setCell ⟨gg, 5, none⟩ (.bool x.left)).setCell ⟨gg, 6, none⟩ (.bool x.right))) := Lib.hid (((((((bb3.out.setCell hg0 _).setCell hg0 _).setCell hg0 _).setCell hg0 _).setCell hg0 _).setCell hg0 _).setCell hg0 _)
        clear s0 s1 s2 s3 s4 s5 s6 o3' bb3 q0 q1 q2 q3 q4 q5 q6 f0 f1 f2 f3 f4 f5 f6 y0 y1 y2 y3 y4 y5 y6
        show Code.wp _ _ _ _ (((((((W3.setCell ⟨gg, 0, none⟩ (K x.key)).setCell ⟨gg, 1, none⟩ (K x.val)).setCell ⟨gg, 2, none⟩ (K x.sum)).setCell ⟨gg, 3, none⟩ (K x.size)).setCell ⟨gg, 4, none⟩ (.int .u64 tu)).setCell ⟨gg, 5, none⟩ (.bool x.left)).setCell ⟨gg, 6, none⟩ (.bool x.right))
        obtain ⟨W4, hW4⟩ : ∃ W4, (((((((W3.setCell ⟨gg, 0, none⟩ (K x.key)).setCell ⟨gg, 1, none⟩ (K x.val)).setCell ⟨gg, 2, none⟩ (K x.sum)).setCell ⟨gg, 3, none⟩ (K x.size)).setCell ⟨gg, 4, none⟩ (.int .u64 tu)).setCell ⟨gg, 5, none⟩ (.bool x.left)).setCell ⟨gg, 6, none⟩ (.bool x.right)) = W4 := ⟨_, rfl⟩
        rw [hW4] at o4 bb4 ⊢
        clear hW4
        go_wp2
        go_ret
        have o5 : W4.ownsRow w.heap.size 56 7 (.slice (some ⟨gg, 0, none⟩) n cc) n (flat7 (blackB (.n tl k v g tr) (x :: rr))) := by
          have := o4.out
          rw [← htu] at this
          unfold blackB
          rw [hr]
          exact this
        obtain ⟨A2, c2, e2, k2⟩ := LieB.of_own (by rw [blackB_len]; exact hn) (by omega) o5
        exact ⟨A2, c2, by rw [← e2]; rfl, k2, bb4.out⟩
theorem refRank16 (t : Tr) (A : Option Addr) (n c : Nat) (l : List Bd) (hl : l.map strip = t.pre) (h5 : n ≤ 5000) (w : World) (h : LieB w w.heap.size A n c l) :
    Calls Try.prog 56 #[.slice A n c] w fun e w' => e = .returned (K (rankR t)) ∧ Below w.heap.size w w' := by
  have cB := Lib.hid (refBlack16 t A n c l hl h5 w h)
  have cH := Lib.hid (fun W A c (h : LieB W W.heap.size A n c (blackB t l)) => refHigh16 (blackR t) A n c W.heap.size (blackB t l) (blackB_strip t l hl) W h)
  have hh := high_lt (blackR t)
  have e1 := i_of_u (rankR t)
  show Calls _ _ _ _ fun e w' => e = .returned (.int .i64 (rankR t).toInt) ∧ _
  obtain ⟨Z, hZ⟩ : ∃ Z, (rankR t).toInt = Z := ⟨_, rfl⟩
  rw [hZ] at e1 ⊢
  rw [rankR, BitVec.toNat_ofNat, Nat.mod_eq_of_lt (by omega)] at e1
  obtain ⟨H, hH⟩ : ∃ b, highR (blackR t) = b := ⟨_, rfl⟩
  rw [hH] at cH hh e1
  have wr1 : IntKind.u64.wrap (2 * (H : Int)) = ((2 * H : Nat) : Int) := by rw [show 2 * (H : Int) = ((2 * H : Nat) : Int) by omega]; exact IntWalk.u64_in _ (by omega)
  obtain ⟨Y, hY⟩ : ∃ z : Int, ((2 * H : Nat) : Int) = z := ⟨_, rfl⟩
  rw [hY] at wr1 e1
  clear hl h5 h hZ hH hh hY
  go_enter Try.func56, Try.ntmps56
  go_wp2_with fail
  refine cB.out.mono ?_
  rintro e w1 ⟨A2, c2, rfl, hl2, hb⟩
  have b1 := Lib.hid hb
  have L1 := Lib.hid hl2
  clear hb hl2 cB
  go_wp2_with fail
  refine (cH.out w1 A2 c2 L1.out).mono ?_
  rintro e w' ⟨rfl, rfl⟩
  go_wp2
  go_ret
  exact ⟨rfl, b1.out⟩
end Go.Proofs.Ytifhnaelkjfmdab
