/- Layer 11, as landed (gen/layer11wline.py): Line. -/
import Derived.Test.YtlhnjgmjkoafpaaDoorN11Text
import Derived.Test.YtlhnjgmjkoafpaaDoorJR
import Derived.Test.YtlhnjgmjkoafpaaDoorL9Says
import Derived.Lib.OthersKept
import Derived.Shelf.Strconv.AppendIntPublic10
import Derived.Test.YtlhnjgmjkoafpaaDoorGOwn
import Derived.Test.YtlhnjgmjkoafpaaDoorGCut
import Derived.Deep.LoopGhost
import Derived.Laws.OwnMore
import Derived.Deep.Cut
/- Layer 11, as landed: rows of bytes; numerals appended. -/
namespace Go.Proofs.YtlhnjgmjkoafpaaDoor
open Go.RowKit Go.Shelf Go.Proofs.Treem
set_option maxRecDepth 100000

/-- a row of bytes of the call's own -/
def Ln (B : Nat) (w : World) (v : Value) (xs : List UInt8) : Prop := w.ownsRow B 5 1 v xs.length (Lib.byteCells xs)
theorem bytes_append (a b : List UInt8) : Lib.byteCells (a ++ b) = Lib.byteCells a ++ Lib.byteCells b := by simp [Lib.byteCells]
theorem bytes_len (a : List UInt8) : (Lib.byteCells a).length = a.length := by simp [Lib.byteCells]
theorem bytes_one (c : UInt8) : ∀ u ∈ [Value.int .u8 (c.toNat : Int)], u.oneCell' = true := fun u hu => by rw [List.mem_singleton.1 hu]; rfl
theorem Ln.more {B : Nat} {w : World} {v : Value} {xs : List UInt8} {c : UInt8} (h : w.ownsRow B 5 1 v (xs.length + 1) (Lib.byteCells xs ++ [.int .u8 (c.toNat : Int)])) : Ln B w v (xs ++ [c]) := by
  unfold Ln
  rw [List.length_append, bytes_append]
  exact h
theorem info_byte : (Tryd.prog.info? 5).map (fun i => (i.zero, i.size, i.bytes)) = some (some (.int .u8 0), 1, 1) := by kernel_rfl
/-- rows of other types stay, where rows of bytes alone are turned -/
theorem own_kept {w w' : World} {base size n : Nat} {e : TypeId} {v : Value} {xs : List Value} (h : w.ownsRow base e size v n xs) (hk : Lib.OthersKept 5 none w w') (he : e ≠ 5) : w'.ownsRow base e size v n xs := by
  rcases h.2 with ⟨rfl, h0⟩ | ⟨g, cap, cur, rfl, hb, hg, rest⟩
  · exact ⟨h.1, .inl ⟨rfl, h0⟩⟩
  · exact ⟨h.1, .inr ⟨g, cap, cur, rfl, hb, hk g _ hg (by simp) (fun c fz e' => by cases e'; exact he rfl), rest⟩⟩
theorem kept_grown {B n : Nat} {w w' : World} {v : Value} {xs : List Value} (h : w.ownsRow B 5 1 v n xs) (hg : w.grownBy w' v.ownBlock) : Lib.OthersKept 5 none w w' := by
  refine (Lib.OthersKept.refl _ _ w).grown hg fun g e => ?_
  rcases h.2 with ⟨rfl, _⟩ | ⟨g', cap, cur, rfl, _, hgg, _⟩
  · cases e
  · obtain rfl : g' = g := by simpa [Value.ownBlock] using e
    exact ⟨_, _, hgg⟩
/-- what a numeral appended leaves -/
def Apd (B : Nat) (w : World) (xs : List UInt8) (e : Ending) (w' : World) : Prop := ∃ v', e = .returned v' ∧ Ln B w' v' xs ∧ Below B w w' ∧ Lib.OthersKept 5 none w w'
theorem tab_below {w0 w : World} {B : Nat} (hB : w0.heap.size = B) (hT : Txt w0) (hb : Below B w0 w) : Lib.TabBelow Tryd.prog B w tens .u64 Lib.pow10Tab := fun _ h' => (hT.next (hB ▸ hb.trans h')).tab
theorem app_int {w0 w : World} {B : Nat} (hB : w0.heap.size = B) (hT : Txt w0) (hb : Below B w0 w) (v : Value) (xs : List UInt8) (b : BitVec 64) (ho : Ln B w v xs) (hx : xs.length ≤ 1000000) :
    Calls Tryd.prog 49 #[v, K b, .int .i64 10] w (Apd B w (xs ++ num b)) := by
  have h1 : -9223372036854775808 ≤ b.toInt := by simpa using BitVec.le_toInt (x := b)
  have h2 : b.toInt < 9223372036854775808 := by simpa using BitVec.toInt_lt (x := b)
  refine (Any.strconv_AppendInt_10 shelfM176 B xs.length b.toInt h1 (by omega) v (Lib.byteCells xs) w ho (hB ▸ hb.size) (by omega) (tab_below hB hT hb)).mono ?_
  rintro e w' ⟨v', rfl, h3, h4, h5⟩
  exact ⟨v', rfl, by unfold Ln; rw [List.length_append, bytes_append]; exact h3, h4, h5⟩
theorem app_uint0 {w0 w : World} {B : Nat} (hB : w0.heap.size = B) (hT : Txt w0) (hb : Below B w0 w) (v : Value) (xs : List UInt8) (b : BitVec 64) (ho : Ln B w v xs) (hx : xs.length ≤ 1000000) :
    Calls Tryd.prog 64 #[v, G64 b, .int .i64 10] w (Apd B w (xs ++ unum b)) := by
  refine (Any.internal_strconv_AppendUint_10 shelfM288 B xs.length b.toNat b.isLt v (Lib.byteCells xs) w ho (hB ▸ hb.size) (by omega) (tab_below hB hT hb).here).mono ?_
  rintro e w' ⟨v', rfl, h3, h4, h5⟩
  exact ⟨v', rfl, by unfold Ln; rw [List.length_append, bytes_append]; exact h3, h4, h5⟩
theorem app_uint {w0 w : World} {B : Nat} (hB : w0.heap.size = B) (hT : Txt w0) (hb : Below B w0 w) (v : Value) (xs : List UInt8) (b : BitVec 64) (ho : Ln B w v xs) (hx : xs.length ≤ 1000000) :
    Calls Tryd.prog 50 #[v, G64 b, .int .i64 10] w (Apd B w (xs ++ unum b)) := by
  have c0 := Lib.hid (app_uint0 hB hT hb v xs b ho hx)
  clear hT hb ho
  go_enter Tryd.func50, Tryd.ntmps50
  go_wp2_with fail
  refine c0.out.mono ?_
  rintro e w' ⟨v', rfl, h1, h2, h3⟩
  have H1 := Lib.hid h1
  have H2 := Lib.hid h2
  have H3 := Lib.hid h3
  clear h1 h2 h3
  go_wp2_with fail
  go_ret
  exact ⟨v', rfl, H1.out, H2.out, H3.out⟩
end Go.Proofs.YtlhnjgmjkoafpaaDoor
/- Layer 11, as landed (gen/layer11own.py): what stands in a node's line between its sides. -/
namespace Go.Proofs.YtlhnjgmjkoafpaaDoor
open Go.RowKit Go.Shelf Go.Proofs.Treem
set_option maxRecDepth 100000

/-- what stands between the sides -/
def ownL (k v g : BitVec 64) : List UInt8 := 32 :: (num k ++ 58 :: (num v ++ (tagL g ++ [32])))
theorem own_line (l : Tr) (k v g : BitVec 64) (r : Tr) : (Tr.n l k v g r).line = 40 :: (l.line ++ (ownL k v g ++ (r.line ++ [41]))) := by simp [Tr.line, ownL]
set_option maxHeartbeats 4000000 in
theorem own_any {w0 w : World} {B : Nat} (hB : w0.heap.size = B) (hT : Txt w0) (hb : Below B w0 w) (v0 : Value) (xs : List UInt8) (ho : Ln B w v0 xs) (hx : xs.length ≤ 900000) (a : Addr) (x : No) (hnd : NdS w0 B a x) :
    Calls Tryd.prog 31 #[v0, .pointer (some a)] w (Apd B w (xs ++ ownL x.k x.v x.g)) := by
  obtain ⟨i0, hin, hz0, hz1, hz2⟩ := info_parts info_byte
  have hBw : Hid (B ≤ w.heap.size) := hB ▸ hb.size
  have cK : Hid (∀ W, Below B w W → Calls Tryd.prog 46 #[.pointer (some a)] W fun e w' => e = .returned (K x.k) ∧ W = w') := fun W h => node_says.key W B a x (node_says.next hnd (hb.trans h))
  have cV : Hid (∀ W, Below B w W → Calls Tryd.prog 47 #[.pointer (some a)] W fun e w' => e = .returned (K x.v) ∧ W = w') := fun W h => node_says.val W B a x (node_says.next hnd (hb.trans h))
  have cG : Hid (∀ W, Below B w W → Calls Tryd.prog 48 #[.pointer (some a)] W fun e w' => e = .returned (G64 x.g) ∧ W = w') := fun W h => node_says.tag W B a x (node_says.next hnd (hb.trans h))
  have cI : Hid (∀ W v ys b, Below B w W → Ln B W v ys → ys.length ≤ 1000000 → Calls Tryd.prog 49 #[v, K b, .int .i64 10] W (Apd B W (ys ++ num b))) := fun W v ys b h1 h2 h3 => app_int hB hT (hb.trans h1) v ys b h2 h3
  have cU : Hid (∀ W v ys b, Below B w W → Ln B W v ys → ys.length ≤ 1000000 → Calls Tryd.prog 50 #[v, G64 b, .int .i64 10] W (Apd B W (ys ++ unum b))) := fun W v ys b h1 h2 h3 => app_uint hB hT (hb.trans h1) v ys b h2 h3
  obtain ⟨xl, xr, xk, xv, xg, xsz, xm⟩ := x
  have O0 := Lib.hid ho
  have B0 := Lib.hid (Below.refl B w)
  have K0 := Lib.hid (Lib.OthersKept.refl 5 none w)
  have N0 := Lib.hid hx
  clear ho hb hnd hT hB hx
  go_enter Tryd.func31, Tryd.ntmps31
  have so1 : Hid (B ≤ (w.alloc (.cells #[.int .u8 32] 5)).heap.size) := Nat.le_trans hBw.out (Nat.le_trans B0.out.size ((Below.refl _ w).alloc (Nat.le_refl _) _).size)
  have oo1 : Hid ((w.alloc (.cells #[.int .u8 32] 5)).ownsRow B 5 1 v0 xs.length (Lib.byteCells xs)) := World.ownsRow.alloc O0.out _
  have ro1 : Hid (Row (w.alloc (.cells #[.int .u8 32] 5)) (w.heap.size + 1) (some ⟨w.heap.size, 0, none⟩) [.int .u8 32]) := by have h := (Has.new w 5 #[.int .u8 32]).row; rw [World.size_alloc] at h; exact h
  have mo1 := Lib.hid (show xs.length + 1 ≤ maxLen by have := N0.out; unfold maxLen; omega)
  have no1 := Lib.hid (show (xs.length + 1) * 1 ≤ 140737488355328 by have := N0.out; omega)
  go_wp2_with (first
    | (at_builtin; refine wpList_append_row rfl _ _ 56 rfl B 5 i0 (.int .u8 0) 1 1 Tryd.underlying56 hin hz0 hz1 hz2 rfl (by decide) v0 xs.length (Lib.byteCells xs) rfl oo1.out (some ⟨w.heap.size, 0, none⟩) 1 1 [.int .u8 32] rfl (by simp) (Nat.le_refl _) rfl _ ro1.out (bytes_one 32) mo1.out no1.out so1.out ?_
       intro v1 w1 ho1 hg1)
    | fail)
  obtain ⟨x1, hx1⟩ : ∃ x, xs ++ [32] = x := ⟨_, rfl⟩
  have O1 : Hid (Ln B w1 v1 x1) := hx1 ▸ Ln.more ho1
  have K1 := Lib.hid ((K0.out.alloc _).trans (kept_grown oo1.out hg1))
  have B1 := Lib.hid ((B0.out.alloc (Nat.le_trans hBw.out B0.out.size) _).grown hg1 so1.out (fun r e => (oo1.out.lt r e).1))
  have N1 : Hid (x1.length ≤ 900001) := by have := N0.out; show _ ≤ _; rw [← hx1, List.length_append, List.length_cons, List.length_nil]; omega
  have X1 := Lib.hid hx1
  clear ho1 hg1 so1 oo1 ro1 mo1 no1 hx1 O0 B0 K0 N0
  refine (cK.out w1 B1.out).mono ?_
  rintro e w' ⟨rfl, rfl⟩
  go_wp2_with fail
  refine (cI.out w1 _ _ xk B1.out O1.out (by have := N1.out; omega)).mono ?_
  rintro e w2 ⟨v2, rfl, h1, h2, h3⟩
  obtain ⟨x2, hx2⟩ : ∃ x, x1 ++ num xk = x := ⟨_, rfl⟩
  rw [hx2] at h1
  have O2 := Lib.hid h1
  have B2 := Lib.hid (B1.out.trans h2)
  have K2 := Lib.hid (K1.out.trans h3)
  have N2 : Hid (x2.length ≤ 900030) := by have := N1.out; have := num_len xk; show _ ≤ _; rw [← hx2, List.length_append]; omega
  have X2 := Lib.hid hx2
  clear h1 h2 h3 hx2 O1 B1 K1 N1
  have so3 : Hid (B ≤ (w2.alloc (.cells #[.int .u8 58] 5)).heap.size) := Nat.le_trans hBw.out (Nat.le_trans B2.out.size ((Below.refl _ w2).alloc (Nat.le_refl _) _).size)
  have oo3 : Hid ((w2.alloc (.cells #[.int .u8 58] 5)).ownsRow B 5 1 v2 x2.length (Lib.byteCells x2)) := World.ownsRow.alloc O2.out _
  have ro3 : Hid (Row (w2.alloc (.cells #[.int .u8 58] 5)) (w2.heap.size + 1) (some ⟨w2.heap.size, 0, none⟩) [.int .u8 58]) := by have h := (Has.new w2 5 #[.int .u8 58]).row; rw [World.size_alloc] at h; exact h
  have mo3 := Lib.hid (show x2.length + 1 ≤ maxLen by have := N2.out; unfold maxLen; omega)
  have no3 := Lib.hid (show (x2.length + 1) * 1 ≤ 140737488355328 by have := N2.out; omega)
  go_wp2_with (first
    | (at_builtin; refine wpList_append_row rfl _ _ 56 rfl B 5 i0 (.int .u8 0) 1 1 Tryd.underlying56 hin hz0 hz1 hz2 rfl (by decide) v2 x2.length (Lib.byteCells x2) rfl oo3.out (some ⟨w2.heap.size, 0, none⟩) 1 1 [.int .u8 58] rfl (by simp) (Nat.le_refl _) rfl _ ro3.out (bytes_one 58) mo3.out no3.out so3.out ?_
       intro v3 w3 ho3 hg3)
    | fail)
  obtain ⟨x3, hx3⟩ : ∃ x, x2 ++ [58] = x := ⟨_, rfl⟩
  have O3 : Hid (Ln B w3 v3 x3) := hx3 ▸ Ln.more ho3
  have K3 := Lib.hid ((K2.out.alloc _).trans (kept_grown oo3.out hg3))
  have B3 := Lib.hid ((B2.out.alloc (Nat.le_trans hBw.out B2.out.size) _).grown hg3 so3.out (fun r e => (oo3.out.lt r e).1))
  have N3 : Hid (x3.length ≤ 900031) := by have := N2.out; show _ ≤ _; rw [← hx3, List.length_append, List.length_cons, List.length_nil]; omega
  have X3 := Lib.hid hx3
  clear ho3 hg3 so3 oo3 ro3 mo3 no3 hx3 O2 B2 K2 N2
  refine (cV.out w3 B3.out).mono ?_
  rintro e w' ⟨rfl, rfl⟩
  go_wp2_with fail
  refine (cI.out w3 _ _ xv B3.out O3.out (by have := N3.out; omega)).mono ?_
  rintro e w4 ⟨v4, rfl, h1, h2, h3⟩
  obtain ⟨x4, hx4⟩ : ∃ x, x3 ++ num xv = x := ⟨_, rfl⟩
  rw [hx4] at h1
  have O4 := Lib.hid h1
  have B4 := Lib.hid (B3.out.trans h2)
  have K4 := Lib.hid (K3.out.trans h3)
  have N4 : Hid (x4.length ≤ 900060) := by have := N3.out; have := num_len xv; show _ ≤ _; rw [← hx4, List.length_append]; omega
  have X4 := Lib.hid hx4
  clear h1 h2 h3 hx4 O3 B3 K3 N3
  go_wp2_with fail
  have cG4 := Lib.hid (cG.out w4 B4.out)
  by_cases hg : xg = 0#64
  · have d0 : (((xg.toNat : Nat) : Int) != 0) = false := by rw [hg]; rfl
    have d1 : (((xg.toNat : Nat) : Int) == 0) = true := by rw [hg]; rfl
    have hg' := Lib.hid hg
    clear hg
    refine cG4.out.mono ?_
    rintro e w' ⟨rfl, rfl⟩
    clear cG4
    have so5 : Hid (B ≤ (w4.alloc (.cells #[.int .u8 32] 5)).heap.size) := Nat.le_trans hBw.out (Nat.le_trans B4.out.size ((Below.refl _ w4).alloc (Nat.le_refl _) _).size)
    have oo5 : Hid ((w4.alloc (.cells #[.int .u8 32] 5)).ownsRow B 5 1 v4 x4.length (Lib.byteCells x4)) := World.ownsRow.alloc O4.out _
    have ro5 : Hid (Row (w4.alloc (.cells #[.int .u8 32] 5)) (w4.heap.size + 1) (some ⟨w4.heap.size, 0, none⟩) [.int .u8 32]) := by have h := (Has.new w4 5 #[.int .u8 32]).row; rw [World.size_alloc] at h; exact h
    have mo5 := Lib.hid (show x4.length + 1 ≤ maxLen by have := N4.out; unfold maxLen; omega)
    have no5 := Lib.hid (show (x4.length + 1) * 1 ≤ 140737488355328 by have := N4.out; omega)
    go_wp2_with (first
      | (at_builtin; refine wpList_append_row rfl _ _ 56 rfl B 5 i0 (.int .u8 0) 1 1 Tryd.underlying56 hin hz0 hz1 hz2 rfl (by decide) v4 x4.length (Lib.byteCells x4) rfl oo5.out (some ⟨w4.heap.size, 0, none⟩) 1 1 [.int .u8 32] rfl (by simp) (Nat.le_refl _) rfl _ ro5.out (bytes_one 32) mo5.out no5.out so5.out ?_
         intro v5 w5 ho5 hg5)
      | fail)
    obtain ⟨x5, hx5⟩ : ∃ x, x4 ++ [32] = x := ⟨_, rfl⟩
    have O5 : Hid (Ln B w5 v5 x5) := hx5 ▸ Ln.more ho5
    have K5 := Lib.hid ((K4.out.alloc _).trans (kept_grown oo5.out hg5))
    have B5 := Lib.hid ((B4.out.alloc (Nat.le_trans hBw.out B4.out.size) _).grown hg5 so5.out (fun r e => (oo5.out.lt r e).1))
    have N5 : Hid (x5.length ≤ 900061) := by have := N4.out; show _ ≤ _; rw [← hx5, List.length_append, List.length_cons, List.length_nil]; omega
    have X5 := Lib.hid hx5
    clear ho5 hg5 so5 oo5 ro5 mo5 no5 hx5 O4 B4 K4 N4
    go_wp2_with fail
    go_ret
    exact ⟨v5, rfl, by have h := O5.out; rw [← X5.out, ← X4.out, ← X3.out, ← X2.out, ← X1.out] at h; rw [ownL, tagL, if_pos hg'.out]; simpa using h, B5.out, K5.out⟩
  · have d1 : (((xg.toNat : Nat) : Int) == 0) = false := beq_eq_false_iff_ne.2 fun e => hg (BitVec.eq_of_toNat_eq ((by omega : xg.toNat = 0).trans rfl))
    have d0 : (((xg.toNat : Nat) : Int) != 0) = true := by rw [bne, d1]; rfl
    have hg' := Lib.hid hg
    clear hg
    refine cG4.out.mono ?_
    rintro e w' ⟨rfl, rfl⟩
    clear cG4
    have so5 : Hid (B ≤ (w4.alloc (.cells #[.int .u8 35] 5)).heap.size) := Nat.le_trans hBw.out (Nat.le_trans B4.out.size ((Below.refl _ w4).alloc (Nat.le_refl _) _).size)
    have oo5 : Hid ((w4.alloc (.cells #[.int .u8 35] 5)).ownsRow B 5 1 v4 x4.length (Lib.byteCells x4)) := World.ownsRow.alloc O4.out _
    have ro5 : Hid (Row (w4.alloc (.cells #[.int .u8 35] 5)) (w4.heap.size + 1) (some ⟨w4.heap.size, 0, none⟩) [.int .u8 35]) := by have h := (Has.new w4 5 #[.int .u8 35]).row; rw [World.size_alloc] at h; exact h
    have mo5 := Lib.hid (show x4.length + 1 ≤ maxLen by have := N4.out; unfold maxLen; omega)
    have no5 := Lib.hid (show (x4.length + 1) * 1 ≤ 140737488355328 by have := N4.out; omega)
    go_wp2_with (first
      | (at_builtin; refine wpList_append_row rfl _ _ 56 rfl B 5 i0 (.int .u8 0) 1 1 Tryd.underlying56 hin hz0 hz1 hz2 rfl (by decide) v4 x4.length (Lib.byteCells x4) rfl oo5.out (some ⟨w4.heap.size, 0, none⟩) 1 1 [.int .u8 35] rfl (by simp) (Nat.le_refl _) rfl _ ro5.out (bytes_one 35) mo5.out no5.out so5.out ?_
         intro v5 w5 ho5 hg5)
      | fail)
    obtain ⟨x5, hx5⟩ : ∃ x, x4 ++ [35] = x := ⟨_, rfl⟩
    have O5 : Hid (Ln B w5 v5 x5) := hx5 ▸ Ln.more ho5
    have K5 := Lib.hid ((K4.out.alloc _).trans (kept_grown oo5.out hg5))
    have B5 := Lib.hid ((B4.out.alloc (Nat.le_trans hBw.out B4.out.size) _).grown hg5 so5.out (fun r e => (oo5.out.lt r e).1))
    have N5 : Hid (x5.length ≤ 900061) := by have := N4.out; show _ ≤ _; rw [← hx5, List.length_append, List.length_cons, List.length_nil]; omega
    have X5 := Lib.hid hx5
    clear ho5 hg5 so5 oo5 ro5 mo5 no5 hx5 O4 B4 K4 N4
    refine (cG.out w5 B5.out).mono ?_
    rintro e w' ⟨rfl, rfl⟩
    go_wp2_with fail
    refine (cU.out w5 _ _ xg B5.out O5.out (by have := N5.out; omega)).mono ?_
    rintro e w6 ⟨v6, rfl, h1, h2, h3⟩
    obtain ⟨x6, hx6⟩ : ∃ x, x5 ++ unum xg = x := ⟨_, rfl⟩
    rw [hx6] at h1
    have O6 := Lib.hid h1
    have B6 := Lib.hid (B5.out.trans h2)
    have K6 := Lib.hid (K5.out.trans h3)
    have N6 : Hid (x6.length ≤ 900090) := by have := N5.out; have := unum_len xg; show _ ≤ _; rw [← hx6, List.length_append]; omega
    have X6 := Lib.hid hx6
    clear h1 h2 h3 hx6 O5 B5 K5 N5
    have so7 : Hid (B ≤ (w6.alloc (.cells #[.int .u8 32] 5)).heap.size) := Nat.le_trans hBw.out (Nat.le_trans B6.out.size ((Below.refl _ w6).alloc (Nat.le_refl _) _).size)
    have oo7 : Hid ((w6.alloc (.cells #[.int .u8 32] 5)).ownsRow B 5 1 v6 x6.length (Lib.byteCells x6)) := World.ownsRow.alloc O6.out _
    have ro7 : Hid (Row (w6.alloc (.cells #[.int .u8 32] 5)) (w6.heap.size + 1) (some ⟨w6.heap.size, 0, none⟩) [.int .u8 32]) := by have h := (Has.new w6 5 #[.int .u8 32]).row; rw [World.size_alloc] at h; exact h
    have mo7 := Lib.hid (show x6.length + 1 ≤ maxLen by have := N6.out; unfold maxLen; omega)
    have no7 := Lib.hid (show (x6.length + 1) * 1 ≤ 140737488355328 by have := N6.out; omega)
    go_wp2_with (first
      | (at_builtin; refine wpList_append_row rfl _ _ 56 rfl B 5 i0 (.int .u8 0) 1 1 Tryd.underlying56 hin hz0 hz1 hz2 rfl (by decide) v6 x6.length (Lib.byteCells x6) rfl oo7.out (some ⟨w6.heap.size, 0, none⟩) 1 1 [.int .u8 32] rfl (by simp) (Nat.le_refl _) rfl _ ro7.out (bytes_one 32) mo7.out no7.out so7.out ?_
         intro v7 w7 ho7 hg7)
      | fail)
    obtain ⟨x7, hx7⟩ : ∃ x, x6 ++ [32] = x := ⟨_, rfl⟩
    have O7 : Hid (Ln B w7 v7 x7) := hx7 ▸ Ln.more ho7
    have K7 := Lib.hid ((K6.out.alloc _).trans (kept_grown oo7.out hg7))
    have B7 := Lib.hid ((B6.out.alloc (Nat.le_trans hBw.out B6.out.size) _).grown hg7 so7.out (fun r e => (oo7.out.lt r e).1))
    have N7 : Hid (x7.length ≤ 900091) := by have := N6.out; show _ ≤ _; rw [← hx7, List.length_append, List.length_cons, List.length_nil]; omega
    have X7 := Lib.hid hx7
    clear ho7 hg7 so7 oo7 ro7 mo7 no7 hx7 O6 B6 K6 N6
    go_wp2_with fail
    go_ret
    exact ⟨v7, rfl, by have h := O7.out; rw [← X7.out, ← X6.out, ← X5.out, ← X4.out, ← X3.out, ← X2.out, ← X1.out] at h; rw [ownL, tagL, if_neg hg'.out]; simpa using h, B7.out, K7.out⟩
end Go.Proofs.YtlhnjgmjkoafpaaDoor
namespace Go.Proofs.YtlhnjgmjkoafpaaDoor
open Go.RowKit Go.Shelf Go.Proofs.Treem
set_option maxRecDepth 100000

/-- a node whose line is begun: where it lies, and whether that has come to its right side -/
structure Sq where
  l : Tr
  k : BitVec 64
  v : BitVec 64
  g : BitVec 64
  r : Tr
  a : Addr
  now : Bool
def Sq.t (x : Sq) : Tr := .n x.l x.k x.v x.g x.r
def sqs (us : List Sq) : List Value := us.reverse.flatMap fun x => [.pointer (some x.a), .bool x.now]
/-- what of the line is still to come, behind those nodes -/
def left11 : List Sq → List UInt8
  | [] => []
  | x :: us => (if x.now then [41] else ownL x.k x.v x.g ++ (x.r.line ++ [41])) ++ left11 us
theorem sqs_cons (x : Sq) (us : List Sq) : sqs (x :: us) = sqs us ++ [.pointer (some x.a), .bool x.now] := by simp [sqs]
theorem sqs_append (us ds : List Sq) : sqs (ds ++ us) = sqs us ++ sqs ds := by simp [sqs]
theorem sqs_len (us : List Sq) : (sqs us).length = us.length * 2 := by
  induction us with
  | nil => rfl
  | cons x us ih => rw [sqs_cons, List.length_append, ih, List.length_cons]; simp only [List.length_cons, List.length_nil]; omega
theorem left_len : ∀ us : List Sq, us.length ≤ (left11 us).length
  | [] => Nat.le_refl _
  | x :: us => by
    have h := left_len us
    rw [left11, List.length_append, List.length_cons]
    split <;> simp only [List.length_append, List.length_cons, List.length_nil] <;> omega
theorem left_yes (x : Sq) (us : List Sq) (h : x.now = true) : left11 (x :: us) = 41 :: left11 us := by rw [left11, h]; rfl
theorem left_no (x : Sq) (us : List Sq) (h : x.now = false) : left11 (x :: us) = ownL x.k x.v x.g ++ (x.r.line ++ 41 :: left11 us) := by rw [left11, h]; simp
theorem size_sq (W : World) : (sizeOf 59).run Tryd.prog W = .ok 2 W := by kernel_rfl
theorem info_sq : (Tryd.prog.info? 59).map (fun i => (i.zero, i.size, i.bytes)) = some (some (.agg #[.pointer none, .bool false]), 2, 16) := by kernel_rfl
/-- how far Line has come: behind a node's own, or at the start -/
def WRel (w0 : World) (B : Nat) (tot : List UInt8) (k : Nat) (t line op : Value) (wr : World) : Prop := ∃ (tr : Tr) (p : Option Addr) (us : List Sq) (xs : List UInt8), t = .pointer p ∧ TreeAt NdS w0 B tr p ∧ (∀ x ∈ us, TreeAt NdS w0 B x.t (some x.a)) ∧ Ln B wr line xs ∧ wr.ownsRow B 59 2 op us.length (sqs us) ∧ Below B w0 wr ∧ xs ++ (tr.line ++ left11 us) = tot ∧ (tr.line ++ left11 us).length = k
/-- .. while brackets are closed -/
def CRel (w0 : World) (B : Nat) (tot : List UInt8) (us : List Sq) (op : Value) (k : Nat) (line last : Value) (wr : World) : Prop := ∃ (rs ds : List Sq) (z : Int) (xs : List UInt8), us = ds ++ rs ∧ last = .int .i64 z ∧ z + 1 = (rs.length : Int) ∧ Ln B wr line xs ∧ wr.ownsRow B 59 2 op us.length (sqs us) ∧ Below B w0 wr ∧ xs ++ left11 rs = tot ∧ (left11 rs).length = k
theorem crel_cell {w : World} {B g c : Nat} {ds rs : List Sq} {x : Sq} (h : w.ownsRow B 59 2 (.slice (some ⟨g, 0, none⟩) (ds ++ x :: rs).length c) (ds ++ x :: rs).length (sqs (ds ++ x :: rs))) :
    w.cell? ⟨g, rs.length * 2, none⟩ = some (.pointer (some x.a)) ∧ w.cell? ⟨g, rs.length * 2 + 1, none⟩ = some (.bool x.now) := by
  have hl : (ds ++ x :: rs).length = ds.length + (rs.length + 1) := by simp
  have e0 := h.cellAt (rs.length * 2) (by omega)
  have e1 := h.cellAt (rs.length * 2 + 1) (by omega)
  have hs : sqs (ds ++ x :: rs) = sqs rs ++ ([Value.pointer (some x.a), .bool x.now] ++ sqs ds) := by rw [sqs_append, sqs_cons, List.append_assoc]
  rw [hs, List.getElem?_append_right (by rw [sqs_len]; omega), sqs_len] at e0 e1
  rw [Nat.sub_self] at e0
  rw [show rs.length * 2 + 1 - rs.length * 2 = 1 by omega] at e1
  exact ⟨e0, e1⟩
theorem own_free {w : World} {B size n c g : Nat} {e : TypeId} {xs : List Value} (h : w.ownsRow B e size (.slice (some ⟨g, 0, none⟩) n c) n xs) (j : Nat) : w.frozen? ⟨g, j, none⟩ = false := by
  rcases h.2 with ⟨hn, _⟩ | ⟨g', cap', cur, he, _, hg, _⟩
  · cases hn
  · cases he
    exact frozen_of_row w g j cur _ hg
theorem sq_turn {us ds rs : List Sq} {l r : Tr} {k v g : BitVec 64} {a : Addr} {b : Bool} {n : Nat} (hus : us = ds ++ ⟨l, k, v, g, r, a, b⟩ :: rs) (hn : rs.length = n) : ((sqs us).set (n * 2 + 1) (.bool true)).take ((n + 1) * 2) = sqs (⟨l, k, v, g, r, a, true⟩ :: rs) := by
  have h0 : (sqs rs).length = n * 2 := by rw [sqs_len, hn]
  rw [hus, sqs_append, sqs_cons, List.append_assoc, List.set_append_right _ _ (by omega), h0, show n * 2 + 1 - n * 2 = 1 by omega, sqs_cons, List.take_append, h0]
  rw [List.take_of_length_le (by omega), show (n + 1) * 2 - n * 2 = 2 by omega]
  rfl
/-- what Line answers -/
def Lined (w : World) (tot : List UInt8) (e : Ending) (w' : World) : Prop := e = .returned (sV tot) ∧ Below w.heap.size w w'
theorem byte_text {w : World} {B g n c : Nat} {l : List UInt8} (h : Ln B w (.slice (some ⟨g, 0, none⟩) n c) l) (hn : l.length = n) : (convert 56 9 (.slice (some ⟨g, 0, none⟩) n c)).run Tryd.prog w = .ok (sV l) w := by
  subst hn
  refine run_convert_bytes_back (P := Tryd.prog) w 56 9 5 ⟨g, 0, none⟩ c l Tryd.underlying56 Tryd.underlying5 Tryd.underlying9 (fun j hj => ?_)
  have := World.ownsRow.cells h (g := g) rfl j (.int .u8 (l[j].toNat : Int)) (by rw [Lib.byteCells, List.getElem?_map, List.getElem?_eq_getElem hj]; rfl)
  exact this
set_option maxHeartbeats 8000000 in
theorem line_any (w : World) (t : Tr) (p : Option Addr) (hT : Txt w) (hP : TreeAt NdS w w.heap.size t p) (h5 : t.size ≤ 5000) :
    Calls Tryd.prog 14 #[.pointer p] w (Lined w t.line) := by
  obtain ⟨i0, hin, hz0, hz1, hz2⟩ := info_parts info_byte
  obtain ⟨j0, jin, jz0, jz1, jz2⟩ := info_parts info_sq
  obtain ⟨B, hB⟩ : ∃ B, w.heap.size = B := ⟨_, rfl⟩
  have hlen := line_len t
  obtain ⟨tot, htot⟩ : ∃ s, t.line = s := ⟨_, rfl⟩
  have hT4 : Hid (tot.length ≤ 400001) := by show tot.length ≤ 400001; rw [← htot]; omega
  have hT1 : Hid (0 < tot.length) := by have := line_more t; show 0 < tot.length; rw [← htot]; omega
  have hBw : Hid (B ≤ w.heap.size) := Nat.le_of_eq hB.symm
  have hstart : WRel w B tot tot.length (.pointer p) (.slice none 0 0) (.slice none 0 0) w :=
    ⟨t, p, [], [], rfl, hB ▸ hP, fun x hx => (by cases hx), World.ownsRow_nil _ _ _ _, World.ownsRow_nil _ _ _ _, Below.refl _ _, by rw [← htot]; simp [left11], by rw [← htot]; simp [left11]⟩
  have hS := Lib.hid hstart
  have cO : Hid (∀ W v xs a x, Below B w W → Ln B W v xs → xs.length ≤ 900000 → NdS w B a x → Calls Tryd.prog 31 #[v, .pointer (some a)] W (Apd B W (xs ++ ownL x.k x.v x.g))) := fun W v xs a x h1 h2 h3 h4 => own_any hB hT h1 v xs h2 h3 a x h4
  have HB := Lib.hid hB
  rw [htot]
  clear hstart hP hlen htot hT h5 hB
  go_enter Tryd.func14, Tryd.ntmps14
  go_wp2_with fail
  go_loopg [0, 3, 4] tot.length (fun k t line op wr => WRel w B tot k t line op wr)
  case atStart => exact hS.out
  case round =>
    clear hS
    have HR := Lib.hid hrel
    clear hrel
    go_wp2_with fail
    go_loopg [0, 3, 4] gk (fun k t line op wr => WRel w B tot k t line op wr ∧ k ≤ gk)
    case atStart => exact ⟨HR.out, Nat.le_refl _⟩
    case round =>
      obtain ⟨⟨tr, pp, us, xs, rfl, htr, hus, hln, hop, hb, htot, hk⟩, hk0⟩ := hrel
      obtain ⟨m, hm⟩ : ∃ m, us.length = m := ⟨_, rfl⟩
      rw [hm] at hop
      obtain ⟨A4, c4, rfl, -, -, -⟩ := own_slice hop
      have hm' := Lib.hid hm
      have O0 := Lib.hid hln
      have P0 := Lib.hid hop
      have B0 := Lib.hid hb
      have HT := Lib.hid htr
      have HU := Lib.hid hus
      have HK := Lib.hid hk
      have HTT := Lib.hid htot
      have hull := left_len us
      have N0 : Hid (xs.length ≤ 400001) := by have h1 := hT4.out; rw [← htot, List.length_append] at h1; show _ ≤ _; omega
      have MU : Hid (m ≤ 400001) := by have h1 := hT4.out; rw [← htot, List.length_append, List.length_append] at h1; show _ ≤ _; omega
      have mu0 : m ≤ 400001 := MU.out
      clear hln hop hb htr hus hk htot hull HR hm
      cases tr with
      | n tl kk vv gg tr =>
        obtain ⟨a, pl, pr, rfl, hx, hl, hr⟩ := HT.out
        have HX := Lib.hid hx
        have HL := Lib.hid hl
        have HRR := Lib.hid hr
        clear hx hl hr
        have so1 : Hid (B ≤ (wr.alloc (.cells #[.int .u8 40] 5)).heap.size) := Nat.le_trans hBw.out (Nat.le_trans B0.out.size ((Below.refl _ wr).alloc (Nat.le_refl _) _).size)
        have oo1 : Hid ((wr.alloc (.cells #[.int .u8 40] 5)).ownsRow B 5 1 u3 xs.length (Lib.byteCells xs)) := World.ownsRow.alloc O0.out _
        have ro1 : Hid (Row (wr.alloc (.cells #[.int .u8 40] 5)) (wr.heap.size + 1) (some ⟨wr.heap.size, 0, none⟩) [.int .u8 40]) := by have h := (Has.new wr 5 #[.int .u8 40]).row; rw [World.size_alloc] at h; exact h
        have mo1 := Lib.hid (show xs.length + 1 ≤ maxLen by have := N0.out; unfold maxLen; omega)
        have no1 := Lib.hid (show (xs.length + 1) * 1 ≤ 140737488355328 by have := N0.out; omega)
        have po1 : Hid ((wr.alloc (.cells #[.int .u8 40] 5)).ownsRow B 59 2 (.slice A4 m c4) m (sqs us)) := World.ownsRow.alloc P0.out _
        go_upto_region 6 with (first
          | (at_builtin; refine wpList_append_row rfl _ _ 56 rfl B 5 i0 (.int .u8 0) 1 1 Tryd.underlying56 hin hz0 hz1 hz2 rfl (by decide) u3 xs.length (Lib.byteCells xs) rfl oo1.out (some ⟨wr.heap.size, 0, none⟩) 1 1 [.int .u8 40] rfl (by simp) (Nat.le_refl _) rfl _ ro1.out (bytes_one 40) mo1.out no1.out so1.out ?_
             intro v1 w1 ho1 hg1)
          | fail)
        obtain ⟨x1, hx1⟩ : ∃ x, xs ++ [40] = x := ⟨_, rfl⟩
        have O1 : Hid (Ln B w1 v1 x1) := hx1 ▸ Ln.more ho1
        have P1 := Lib.hid (po1.out.kept hg1 (rows_apart po1.out oo1.out (by decide)))
        have B1 := Lib.hid ((B0.out.alloc (Nat.le_trans hBw.out B0.out.size) _).grown hg1 so1.out (fun r e => (oo1.out.lt r e).1))
        have N1 : Hid (x1.length ≤ 400002) := by have := N0.out; show _ ≤ _; rw [← hx1, List.length_append, List.length_cons, List.length_nil]; omega
        have X1 := Lib.hid hx1
        clear ho1 hg1 so1 oo1 ro1 mo1 no1 po1 hx1 O0 B0 P0 N0
        have oo2 : Hid ((w1.alloc (.cells #[.pointer (some a), .bool false] 59)).ownsRow B 59 2 (.slice A4 m c4) m (sqs us)) := World.ownsRow.alloc P1.out _
        have lo2 : Hid (Ln B (w1.alloc (.cells #[.pointer (some a), .bool false] 59)) v1 x1) := World.ownsRow.alloc O1.out _
        have so2 : Hid (B ≤ (w1.alloc (.cells #[.pointer (some a), .bool false] 59)).heap.size) := Nat.le_trans hBw.out (Nat.le_trans B1.out.size ((Below.refl _ w1).alloc (Nat.le_refl _) _).size)
        have ro2 : Hid (Row (w1.alloc (.cells #[.pointer (some a), .bool false] 59)) (w1.heap.size + 1) (some ⟨w1.heap.size, 0, none⟩) [.pointer (some a), .bool false]) := by have h := (Has.new w1 59 #[.pointer (some a), .bool false]).row; rw [World.size_alloc] at h; exact h
        have mo2 := Lib.hid (show m + 1 ≤ maxLen by have := MU.out; unfold maxLen; omega)
        have no2 := Lib.hid (show (m + 1) * 16 ≤ 140737488355328 by have := MU.out; omega)
        have one2 := Lib.hid (show ∀ u ∈ [Value.pointer (some a), .bool false], u.oneCell' = true from fun u hu => by simp at hu; rcases hu with rfl | rfl <;> rfl)
        go_wp2_with (first
          | (at_builtin; refine wpList_append_row rfl _ _ 57 rfl B 59 j0 (.agg #[.pointer none, .bool false]) 2 16 Tryd.underlying57 jin jz0 jz1 jz2 rfl (by decide) (.slice A4 m c4) m (sqs us) rfl oo2.out (some ⟨w1.heap.size, 0, none⟩) 1 1 [.pointer (some a), .bool false] rfl (by simp) (Nat.le_refl _) rfl _ ro2.out one2.out mo2.out no2.out so2.out ?_
             intro v3 w3 ho3 hg3)
          | fail)
        have O3 := Lib.hid (World.ownsRow.kept lo2.out hg3 (rows_apart lo2.out oo2.out (by decide)))
        have B3 := Lib.hid ((B1.out.alloc (Nat.le_trans hBw.out B1.out.size) _).grown hg3 so2.out (fun r e => (oo2.out.lt r e).1))
        have P3 : Hid (w3.ownsRow B 59 2 v3 (⟨tl, kk, vv, gg, tr, a, false⟩ :: us : List Sq).length (sqs (⟨tl, kk, vv, gg, tr, a, false⟩ :: us))) := by show w3.ownsRow _ _ _ _ _ _; rw [sqs_cons, List.length_cons, hm'.out]; exact ho3
        clear ho3 hg3 oo2 lo2 so2 ro2 mo2 no2 one2 O1 P1 B1
        refine (node_says.left w3 B a _ (node_says.next HX.out B3.out)).mono ?_
        rintro e w' ⟨rfl, rfl⟩
        go_wp2_with fail
        have hrest : (Tr.n tl kk vv gg tr).line ++ left11 us = 40 :: (tl.line ++ left11 (⟨tl, kk, vv, gg, tr, a, false⟩ :: us)) := by rw [own_line, left_no _ _ rfl]; simp
        have hkk : ((Tr.n tl kk vv gg tr).line ++ left11 us).length = (tl.line ++ left11 (⟨tl, kk, vv, gg, tr, a, false⟩ :: us)).length + 1 := by rw [hrest]; rfl
        have hk3 := HK.out
        go_roundg (tl.line ++ left11 (⟨tl, kk, vv, gg, tr, a, false⟩ :: us)).length
        case measure => omega
        case rel =>
          refine ⟨⟨tl, pl, ⟨tl, kk, vv, gg, tr, a, false⟩ :: us, x1, rfl, HL.out, fun x hx => ?_, O3.out, P3.out, B3.out, ?_, rfl⟩, by omega⟩
          · rcases List.mem_cons.1 hx with rfl | hx
            · exact HT.out
            · exact HU.out x hx
          · have h := HTT.out
            rw [hrest] at h
            rw [← X1.out, ← h]
            simp
      | e =>
        obtain rfl : pp = none := HT.out
        have so1 : Hid (B ≤ (wr.alloc (.cells #[.int .u8 46] 5)).heap.size) := Nat.le_trans hBw.out (Nat.le_trans B0.out.size ((Below.refl _ wr).alloc (Nat.le_refl _) _).size)
        have oo1 : Hid ((wr.alloc (.cells #[.int .u8 46] 5)).ownsRow B 5 1 u3 xs.length (Lib.byteCells xs)) := World.ownsRow.alloc O0.out _
        have ro1 : Hid (Row (wr.alloc (.cells #[.int .u8 46] 5)) (wr.heap.size + 1) (some ⟨wr.heap.size, 0, none⟩) [.int .u8 46]) := by have h := (Has.new wr 5 #[.int .u8 46]).row; rw [World.size_alloc] at h; exact h
        have mo1 := Lib.hid (show xs.length + 1 ≤ maxLen by have := N0.out; unfold maxLen; omega)
        have no1 := Lib.hid (show (xs.length + 1) * 1 ≤ 140737488355328 by have := N0.out; omega)
        have po1 : Hid ((wr.alloc (.cells #[.int .u8 46] 5)).ownsRow B 59 2 (.slice A4 m c4) m (sqs us)) := World.ownsRow.alloc P0.out _
        go_wp2_with (first
          | (at_builtin; refine wpList_append_row rfl _ _ 56 rfl B 5 i0 (.int .u8 0) 1 1 Tryd.underlying56 hin hz0 hz1 hz2 rfl (by decide) u3 xs.length (Lib.byteCells xs) rfl oo1.out (some ⟨wr.heap.size, 0, none⟩) 1 1 [.int .u8 46] rfl (by simp) (Nat.le_refl _) rfl _ ro1.out (bytes_one 46) mo1.out no1.out so1.out ?_
             intro v1 w1 ho1 hg1)
          | fail)
        obtain ⟨x1, hx1⟩ : ∃ x, xs ++ [46] = x := ⟨_, rfl⟩
        have O1 : Hid (Ln B w1 v1 x1) := hx1 ▸ Ln.more ho1
        have P1 := Lib.hid (po1.out.kept hg1 (rows_apart po1.out oo1.out (by decide)))
        have B1 := Lib.hid ((B0.out.alloc (Nat.le_trans hBw.out B0.out.size) _).grown hg1 so1.out (fun r e => (oo1.out.lt r e).1))
        have N1 : Hid (x1.length ≤ 400002) := by have := N0.out; show _ ≤ _; rw [← hx1, List.length_append, List.length_cons, List.length_nil]; omega
        have X1 := Lib.hid hx1
        clear ho1 hg1 so1 oo1 ro1 mo1 no1 po1 hx1 O0 B0 P0 N0
        have htot1 : Hid (x1 ++ left11 us = tot) := by show _ = _; rw [← X1.out, List.append_assoc]; exact HTT.out
        have hk1 : Hid ((left11 us).length < gk) := by have := HK.out; show _ < _; rw [List.length_append] at this; simp only [Tr.line, List.length_cons, List.length_nil] at this; omega
        have P2 : Hid (w1.ownsRow B 59 2 (.slice A4 m c4) us.length (sqs us)) := by show w1.ownsRow _ _ _ _ _ _; rw [hm'.out]; exact P1.out
        have hk0' := Lib.hid hk0
        clear HTT HK X1 N1 P1 HT hk0
        go_loopg [3, 5] (left11 us).length (fun k line last wr => CRel w B tot us (.slice A4 m c4) k line last wr ∧ k ≤ (left11 us).length)
        case atStart => exact ⟨⟨us, [], (m : Int) - 1, x1, rfl, rfl, by rw [hm'.out]; omega, O1.out, P2.out, B1.out, htot1.out, rfl⟩, Nat.le_refl _⟩
        case round =>
          obtain ⟨⟨rs, ds, z, xs, hus, rfl, hz, hln, hop, hb, htot, hk⟩, hk9⟩ := hrel
          clear O1 P2 B1 htot1
          have O5 := Lib.hid hln
          have P5 := Lib.hid hop
          have B5 := Lib.hid hb
          have HTT := Lib.hid htot
          have HK := Lib.hid hk
          have HUS := Lib.hid hus
          have N5 : Hid (xs.length ≤ 400001) := by have h1 := hT4.out; rw [← htot, List.length_append] at h1; show _ ≤ _; omega
          have hrm : rs.length ≤ m := by rw [← hm'.out, hus, List.length_append]; omega
          clear hln hop hb htot hk hus
          cases rs with
          | nil =>
            have hz1 : z = -1 := by simp at hz; omega
            subst hz1
            have hxs : Hid (xs = tot) := by have := HTT.out; rw [left11, List.append_nil] at this; exact this
            obtain ⟨gl, cl, rfl, -, -, -⟩ := own_full O5.out (by rw [hxs.out]; exact hT1.out)
            have hcv := byte_text O5.out rfl
            obtain ⟨nx, hnx⟩ : ∃ n, xs.length = n := ⟨_, rfl⟩
            rw [hnx] at hcv ⊢
            clear O5 hnx P5
            go_wp2_with fail
            go_ret
            exact ⟨by first | rfl | (rw [hxs.out]; rfl), HB.out ▸ B5.out⟩
          | cons x rs =>
            obtain ⟨n, hn⟩ : ∃ n, rs.length = n := ⟨_, rfl⟩
            have hzn : z = (n : Int) := by rw [List.length_cons, hn] at hz; omega
            subst hzn
            have hpos : 0 < us.length := by rw [HUS.out, List.length_append, List.length_cons]; omega
            obtain ⟨gb, cb, he, -, hmc, -⟩ := own_full P5.out hpos
            injection he with e1 e2 e3
            subst e1
            subst e2
            subst e3
            have hcl := P5.out
            rw [HUS.out] at hcl
            obtain ⟨y0, y1⟩ := crel_cell hcl
            have fr := own_free P5.out (n * 2 + 1)
            rw [hn] at y0 y1
            have hn' := Lib.hid hn
            have hul : us.length = ds.length + (n + 1) := by rw [HUS.out, List.length_append, List.length_cons, hn]
            have hnm : n < us.length := by omega
            have hnb : n ≤ 400001 := by omega
            have P6' := Lib.hid P5.out
            obtain ⟨xl, xk, xv, xg, xr, xa, xn⟩ := x
            clear hcl hn hz hpos hul P5
            cases xn with
            | true =>
              have so11 : Hid (B ≤ (wr.alloc (.cells #[.int .u8 41] 5)).heap.size) := Nat.le_trans hBw.out (Nat.le_trans B5.out.size ((Below.refl _ wr).alloc (Nat.le_refl _) _).size)
              have oo11 : Hid ((wr.alloc (.cells #[.int .u8 41] 5)).ownsRow B 5 1 u3 xs.length (Lib.byteCells xs)) := World.ownsRow.alloc O5.out _
              have ro11 : Hid (Row (wr.alloc (.cells #[.int .u8 41] 5)) (wr.heap.size + 1) (some ⟨wr.heap.size, 0, none⟩) [.int .u8 41]) := by have h := (Has.new wr 5 #[.int .u8 41]).row; rw [World.size_alloc] at h; exact h
              have mo11 := Lib.hid (show xs.length + 1 ≤ maxLen by have := N5.out; unfold maxLen; omega)
              have no11 := Lib.hid (show (xs.length + 1) * 1 ≤ 140737488355328 by have := N5.out; omega)
              have po11 : Hid ((wr.alloc (.cells #[.int .u8 41] 5)).ownsRow B 59 2 (.slice (some ⟨gb, 0, none⟩) us.length c4) us.length (sqs us)) := World.ownsRow.alloc P6'.out _
              go_wp2_with (first
                | (at_builtin; refine wpList_append_row rfl _ _ 56 rfl B 5 i0 (.int .u8 0) 1 1 Tryd.underlying56 hin hz0 hz1 hz2 rfl (by decide) u3 xs.length (Lib.byteCells xs) rfl oo11.out (some ⟨wr.heap.size, 0, none⟩) 1 1 [.int .u8 41] rfl (by simp) (Nat.le_refl _) rfl _ ro11.out (bytes_one 41) mo11.out no11.out so11.out ?_
                   intro v11 w11 ho11 hg11)
                | fail)
              obtain ⟨x11, hx11⟩ : ∃ x, xs ++ [41] = x := ⟨_, rfl⟩
              have O11 : Hid (Ln B w11 v11 x11) := hx11 ▸ Ln.more ho11
              have P11 := Lib.hid (po11.out.kept hg11 (rows_apart po11.out oo11.out (by decide)))
              have B11 := Lib.hid ((B5.out.alloc (Nat.le_trans hBw.out B5.out.size) _).grown hg11 so11.out (fun r e => (oo11.out.lt r e).1))
              have N11 : Hid (x11.length ≤ 400002) := by have := N5.out; show _ ≤ _; rw [← hx11, List.length_append, List.length_cons, List.length_nil]; omega
              have X11 := Lib.hid hx11
              clear ho11 hg11 so11 oo11 ro11 mo11 no11 po11 hx11 O5 B5 P6' N5
              have hkk := HK.out
              rw [left_yes _ _ rfl, List.length_cons] at hkk
              go_roundg (left11 rs).length
              case measure => omega
              case rel =>
                refine ⟨⟨rs, ds ++ [⟨xl, xk, xv, xg, xr, xa, true⟩], (n : Int) - 1, x11, by rw [HUS.out]; simp, rfl, by rw [hn'.out]; omega, O11.out, P11.out, B11.out, ?_, rfl⟩, by omega⟩
                have h := HTT.out
                rw [left_yes _ _ rfl] at h
                rw [← X11.out, ← h]
                simp
            | false =>
              have cut := cut_to (P := Tryd.prog) Tryd.underlying57 size_sq (some ⟨gb, 0, none⟩) us.length c4 (n + 1) ((n : Int) + 1) (by omega) (by omega)
              have d3 : (((n + 1 : Nat) : Int) == 0) = false := beq_eq_false_iff_ne.2 (by omega)
              have d4 : ((n : Int) + 1 == 0) = false := beq_eq_false_iff_ne.2 (by omega)
              have hmem := HU.out ⟨xl, xk, xv, xg, xr, xa, false⟩ (by rw [HUS.out]; simp)
              obtain ⟨a0, pl, pr, he, hx, hl, hr⟩ := hmem
              obtain rfl : xa = a0 := Option.some.inj he
              obtain ⟨X, hX⟩ : ∃ X, wr.setCell ⟨gb, n * 2 + 1, none⟩ (.bool true) = X := ⟨_, rfl⟩
              have hgl := rows_apart O5.out P6'.out (by decide)
              have OX : Hid (Ln B X u3 xs) := hX ▸ own_far O5.out ⟨gb, n * 2 + 1, none⟩ (.bool true) (fun e => by rcases hgl with h | h; exact absurd (e.trans h) (by simp); exact h (by rw [← e]; rfl))
              have BX : Hid (Below B w X) := hX ▸ B5.out.setCell (p := ⟨gb, n * 2 + 1, none⟩) ((P6'.out.lt gb rfl).1) _
              have PX : Hid (X.ownsRow B 59 2 (.slice (some ⟨gb, 0, none⟩) (n + 1) c4) (⟨xl, xk, xv, xg, xr, xa, true⟩ :: rs : List Sq).length (sqs (⟨xl, xk, xv, xg, xr, xa, true⟩ :: rs))) := by
                have h := owned_take (own_put P6'.out (i := n * 2 + 1) (.bool true)) (n + 1) (by omega)
                rw [sq_turn HUS.out hn'.out, hX] at h
                show X.ownsRow _ _ _ _ _ _
                rw [List.length_cons, hn'.out]
                exact h
              have yx : (wr.setCell ⟨gb, n * 2 + 1, none⟩ (.bool true)).cell? ⟨gb, n * 2, none⟩ = some (.pointer (some xa)) := by rw [World.cell?_setCell_other _ _ _ _ (fun e => by simp at e)]; exact y0
              have HX := Lib.hid hX
              have HXX := Lib.hid hx
              have HRR := Lib.hid hr
              have hk9' := Lib.hid hk9
              clear hX hx hl hr hgl O5 B5 P6' hk9
              go_wp2_with fail
              rw [HX.out]
              refine (cO.out X u3 xs xa _ BX.out OX.out (by have := N5.out; omega) HXX.out).mono ?_
              rintro e w8 ⟨v8, rfl, h1, h2, h3⟩
              have O8 := Lib.hid h1
              have B8 := Lib.hid (BX.out.trans h2)
              have P8 := Lib.hid (own_kept PX.out h3 (by decide))
              clear h1 h2 h3 OX BX PX
              go_wp2_with fail
              refine (node_says.right w8 B xa _ (node_says.next HXX.out B8.out)).mono ?_
              rintro e w' ⟨rfl, rfl⟩
              go_wp2_with fail
              have hkk : (ownL xk xv xg ++ (xr.line ++ 41 :: left11 rs)).length = gk := by have h := HK.out; rw [left_no _ _ rfl] at h; exact h
              have h1 := hk1.out
              have h2 := hk0'.out
              have h9 := hk9'.out
              have hown : 1 ≤ (ownL xk xv xg).length := by rw [ownL, List.length_cons]; omega
              have hlk : (xr.line ++ left11 (⟨xl, xk, xv, xg, xr, xa, true⟩ :: rs)).length < (ownL xk xv xg ++ (xr.line ++ 41 :: left11 rs)).length := by rw [left_yes _ _ rfl]; simp only [List.length_append, List.length_cons]; omega
              go_roundg (xr.line ++ left11 (⟨xl, xk, xv, xg, xr, xa, true⟩ :: rs)).length
              case measure => omega
              case rel =>
                refine ⟨xr, pr, ⟨xl, xk, xv, xg, xr, xa, true⟩ :: rs, xs ++ ownL xk xv xg, rfl, HRR.out, fun y hy => ?_, O8.out, P8.out, B8.out, ?_, rfl⟩
                · rcases List.mem_cons.1 hy with rfl | hy
                  · exact HU.out ⟨xl, xk, xv, xg, xr, xa, false⟩ (by rw [HUS.out]; simp)
                  · exact HU.out y (by rw [HUS.out]; simp [hy])
                · have h := HTT.out
                  rw [left_no _ _ rfl] at h
                  rw [left_yes _ _ rfl, ← h]
                  simp
end Go.Proofs.YtlhnjgmjkoafpaaDoor
