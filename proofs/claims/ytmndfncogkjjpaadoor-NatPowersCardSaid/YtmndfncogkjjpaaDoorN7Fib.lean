/- Package nat, as it landed: the iterator of Fibonacci's numbers, and Fib. -/
import Derived.Test.YtmndfncogkjjpaaDoorN7Prod
import Derived.Test.YtmndfncogkjjpaaDoorGTold
import Derived.Test.YtmndfncogkjjpaaDoorL7Rules
import Derived.Shelf.Abstract
import Derived.Shelf.RegionOpen
import Derived.OwnWalkIn
import Derived.TacticsInMore
import Derived.LoopNIn
import Derived.LoopIn
namespace Go.Proofs.YtmndfncogkjjpaaDoor
open Go.RowKit Go.Shelf Go.Proofs.Natm
attribute [local go_sem] Oper.semAt_some
set_option maxRecDepth 100000

/-- a cell that holds a word holds it on -/
structure KeepU (X Y : World) : Prop where
  size : X.heap.size ≤ Y.heap.size
  cell : ∀ p (d : Int), X.cell? p = some (.int .u32 d) → Y.cell? p = some (.int .u32 d)
theorem KeepU.trans {A B C : World} (h : KeepU A B) (k : KeepU B C) : KeepU A C := ⟨Nat.le_trans h.size k.size, fun p d e => k.cell p d (h.cell p d e)⟩
theorem KeepU.of_cells {X Y : World} (hs : X.heap.size ≤ Y.heap.size) (h : ∀ (k : Nat) (o : Obj), X.heap[k]? = some o → o.isCells = true → Y.heap[k]? = some o) : KeepU X Y := ⟨hs, fun p d e => by
  unfold World.cell? at e ⊢
  cases ho : X.heap[p.block]? with
  | none => rw [ho] at e; simp at e
  | some o =>
    rw [ho] at e
    cases o with
    | cells cs t f => rw [h _ _ ho rfl]; exact e
    | _ => simp at e⟩
theorem KeepU.of_below {X Y : World} (h : Below X.heap.size X Y) : KeepU X Y := KeepU.of_cells h.size fun k _ hk _ => (h.block k (Array.getElem?_eq_some_iff.1 hk).1).trans hk
theorem KeepU.of_grown {X Y : World} {row : Option Nat} (hg : X.grownBy Y row) (hr : ∀ r, row = some r → ∃ o : Obj, X.heap[r]? = some o ∧ o.isCells = false) : KeepU X Y :=
  KeepU.of_cells hg.size fun k o hk hc => (hg.block k (Array.getElem?_eq_some_iff.1 hk).1 (fun e => by obtain ⟨o', ho, hn⟩ := hr k e.symm; rw [ho] at hk; cases hk; rw [hc] at hn; cases hn)).trans hk
theorem KeepU.put (W : World) (l : Nat) (o o' : Obj) (hl : W.heap[l]? = some o) (h : o.isCells = false) : KeepU W (W.putObj l o') :=
  KeepU.of_grown (grownBy_putObj' W l o') fun r e => by cases e; exact ⟨o, hl, h⟩
theorem LieW.keepU {X Y : World} {A : Option Addr} {n c : Nat} {l : List Nat} (h : LieW X A n c l) (hk : KeepU X Y) : LieW Y A n c l :=
  ⟨⟨h.lie.len, h.lie.few, h.lie.cap, h.lie.max, h.lie.nil, fun j u hu => by
    obtain ⟨ad, e, hb, hc⟩ := h.lie.row j u hu
    obtain ⟨d, _, rfl⟩ := List.mem_map.1 (List.mem_of_getElem? hu)
    exact ⟨ad, e, Nat.lt_of_lt_of_le hb hk.size, hk.cell _ _ hc⟩⟩, h.words⟩

abbrev Sl : Type := Option Addr × Nat × Nat
abbrev encF (x : Sl) : Array Value := #[.slice x.1 x.2.1 x.2.2]
/-- the k-th number lies there -/
def FibAt (W : World) (k : Nat) (x : Sl) : Prop := LieW W x.1 x.2.1 x.2.2 (dig Wd (fib k)) ∧ (dig Wd (fib k)).length = x.2.1
theorem FibAt.keepU {X Y : World} {k : Nat} {x : Sl} (h : FibAt X k x) (hk : KeepU X Y) : FibAt Y k x := ⟨h.1.keepU hk, h.2⟩
theorem fib_topM {k : Nat} (h : k ≤ 210) : fib k < Top := top_of (k := 7) (Nat.lt_of_le_of_lt (fib_le k).1 (two_lt (by omega))) (by omega)

set_option maxHeartbeats 4000000 in
theorem fibonacci_tells (n : Nat) (hn : 1 ≤ n) (E Bx : Nat) (hE : E ≤ 201) (w : World) (hBx : Bx < w.heap.size) (hcB : w.cell? ⟨Bx, 0, none⟩ = some (.int .i64 (E : Int))) :
    SeqTells Fence.wide n Tryd.prog 53 #[.pointer (some ⟨Bx, 0, none⟩)] encF KeepU (fun pre x V => FibAt V pre.length x) (fun xs => xs.length = E) w := fun L J W hW hJa hJ0 hY => by
  have hJa' := Lib.hid hJa
  have hY' := Lib.hid hY
  have hj := Lib.hid hJ0
  have hw := Lib.hid hW
  have grow : Hid (∀ s (A B : World), J s A → Below A.heap.size A B → J s B) := fun s A B h b => hJa s A B none h ⟨b.os, b.tape, b.output, b.size, fun k hk _ => b.block k hk⟩ (fun r e => by cases e)
  have f0 : Hid (∀ V, Calls Tryd.prog 22 #[.int .u64 0] V (MadeW V 0 (dig Wd (fib 0)))) := fun V => natFrom_any 0 0 _ V (by decide) rfl (by show (dig Wd 0).length = 0; rw [dig_none]; rfl)
  have f1 : Hid (∀ V, Calls Tryd.prog 22 #[.int .u64 1] V (MadeW V (dig Wd (fib 1)).length (dig Wd (fib 1)))) := fun V => natFrom_any 1 _ _ V (by decide) rfl rfl
  have cE : W.cell? ⟨Bx, 0, none⟩ = some (.int .i64 (E : Int)) := (hW.cell (p := ⟨Bx, 0, none⟩) hBx).trans hcB
  have cE' := Lib.hid cE
  have sBx : Hid (Bx < W.heap.size) := Nat.lt_of_lt_of_le hBx hW.size
  clear hJa hY hJ0 hW hcB cE
  refine callsIn_of_wp Tryd.func53 rfl trivial ?_ rfl
  simp only [Tryd.ntmps53, List.size_toArray, List.length_cons, List.length_nil, Nat.reduceAdd, Nat.reduceSub, Array.replicate_succ, Array.replicate_zero, List.push_toArray, List.append_toArray, List.nil_append, List.cons_append]
  gi_wp2_with fail
  refine ⟨trivial, ?_⟩
  refine (callsIn_wide.2 (f0.out _)).mono ?_
  rintro e W1 ⟨A1, c1, rfl, hL, hb⟩
  have j1 := Lib.hid (grow.out _ _ _ hj.out hb)
  have l1 := Lib.hid hL
  have b1 := Lib.hid hb
  clear hL hb
  gi_wp2_with fail
  refine ⟨trivial, ?_⟩
  refine (callsIn_wide.2 (f1.out _)).mono ?_
  rintro e W2 ⟨A2, c2, rfl, hL, hb⟩
  have j2 := Lib.hid (grow.out _ _ _ j1.out hb)
  have m1 := Lib.hid (l1.out.next hb)
  have l2 := Lib.hid hL
  have b2 := Lib.hid (Below.after b1.out hb)
  have cE2 : W2.cell? ⟨Bx, 0, none⟩ = some (.int .i64 (E : Int)) := (b2.out.cell (p := ⟨Bx, 0, none⟩) sBx.out).trans cE'.out
  clear hL hb
  gi_wp2
  gi_loopw [3, 4, 10] (fun u v i wr => ∃ (pre : List Sl) (A1 A2 : Option Addr) (z1 c1 z2 c2 : Nat), pre.length ≤ E ∧ i = .int .i64 (pre.length : Int) ∧ u = .slice A1 z1 c1 ∧ v = .slice A2 z2 c2 ∧ FibAt wr pre.length (A1, z1, c1) ∧ FibAt wr (pre.length + 1) (A2, z2, c2) ∧ J pre wr) (fun _ _ i _ => E - (intOf i).toNat)
  case atStart => exact ⟨[], A1, A2, 0, c1, _, c2, Nat.zero_le _, rfl, rfl, rfl, ⟨m1.out, by show (dig Wd 0).length = 0; rw [dig_none]; rfl⟩, ⟨l2.out, rfl⟩, j2.out⟩
  case round =>
    obtain ⟨pre, A1, A2, z1, c1, z2, c2, hk, rfl, rfl, rfl, hF1, hF2, hJs⟩ := hrel
    have g1 := Lib.hid hF1
    have g2 := Lib.hid hF2
    have j0 := Lib.hid hJs
    have hy := hY'.out pre (A1, z1, c1) wr hJs hF1
    obtain ⟨K, hK⟩ : ∃ K, pre.length = K := ⟨_, rfl⟩
    have hK' := Lib.hid hK
    rw [hK] at hk g1 g2 ⊢
    clear hF1 hF2 hJs cE2 hK
    by_cases hKE : K < E
    · obtain ⟨fn, tmps, assign, body, hy, hR⟩ := hy
      simp only [encF] at hy
      gi_wp2
      refine hR.mono ?_
      rintro e W3 ⟨rfl, hJ3, hk3⟩
      have j3 := Lib.hid hJ3
      have g1b := Lib.hid (g1.out.keepU hk3)
      have g2b := Lib.hid (g2.out.keepU hk3)
      have hadd := add_d (fib_topM (k := K) (by omega)) (fib_topM (k := K + 1) (by omega)) (by rw [← fib_two]; exact fib_topM (by omega))
      rw [← fib_two] at hadd
      have cA := Lib.hid (natAdd_any A1 z1 c1 (dig Wd (fib K)) A2 z2 c2 (dig Wd (fib (K + 1))) _ _ _ W3 hadd.1 rfl hadd.2 g1b.out.1 g2b.out.1)
      have g1' := Lib.hid g1b
      clear hJ3 hk3 hadd
      gi_wp2_with fail
      refine ⟨trivial, ?_⟩
      refine (callsIn_wide.2 cA.out).mono ?_
      rintro e W4 ⟨A3, c3, rfl, hL, hb⟩
      have j4 := Lib.hid (grow.out _ _ _ j3.out hb)
      have l4 := Lib.hid hL
      have g4 := Lib.hid (g2b.out.keepU (KeepU.of_below hb))
      clear hL hb
      gi_wp2
      go_roundw
      case rel => exact ⟨pre ++ [(A1, z1, c1)], A2, A3, z2, c2, _, c3, by simp [hK'.out]; omega, by simp [hK'.out], rfl, rfl, by simp [hK'.out]; exact g4.out, by simp [hK'.out]; exact ⟨l4.out, rfl⟩, j4.out⟩
      case measure => simp [intOf]; omega
    · obtain rfl : K = E := by omega
      gi_wp2
      go_end0
      exact ⟨⟨_, rfl⟩, _, hK'.out, j0.out⟩

set_option maxHeartbeats 1000000 in
theorem fibonacci_any (z : Int) (w : World) : Calls Tryd.prog 40 #[.int .i64 z] w fun e w' => e = .returned (.func (.func 53) #[] #[.pointer (some ⟨w.heap.size, 0, none⟩)]) ∧ w.alloc (.cells #[.int .i64 z] 3) = w' := by
  go_enter Tryd.func40, Tryd.ntmps40
  go_wp2
  go_ret
  exact ⟨rfl, rfl⟩

/-- the last of them -/
def lastV (pre : List Sl) : Value := match pre.getLast? with | none => .slice none 0 0 | some x => .slice x.1 x.2.1 x.2.2
theorem lastV_snoc (pre : List Sl) (x : Sl) : lastV (pre ++ [x]) = .slice x.1 x.2.1 x.2.2 := by simp [lastV]
def LastAt (pre : List Sl) (W : World) : Prop := ∀ x, pre.getLast? = some x → FibAt W (pre.length - 1) x
theorem LastAt.keepU {X Y : World} {pre : List Sl} (h : LastAt pre X) (hk : KeepU X Y) : LastAt pre Y := fun x hx => (h x hx).keepU hk
theorem lastV_slice (pre : List Sl) : ∃ A n c, lastV pre = .slice A n c := by
  unfold lastV
  split
  · exact ⟨_, _, _, rfl⟩
  · exact ⟨_, _, _, rfl⟩
theorem KeepU.box {W : World} {B : Nat} {t : TypeId} {A : Option Addr} {n c : Nat} (h : Boxed W B t (.slice A n c)) (v : Value) : KeepU W (W.setCell ⟨B, 0, none⟩ v) :=
  ⟨((Below.refl 0 W).setCell (p := ⟨B, 0, none⟩) (Nat.zero_le _) v).size, fun p d hp => by
    rw [World.cell?_setCell_other W ⟨B, 0, none⟩ p v (fun e => by subst e; rw [h.cell] at hp; cases hp)]
    exact hp⟩

set_option maxHeartbeats 4000000 in
theorem natFib_yes (E : Nat) (hE : E ≤ 200) (w : World) : Calls Tryd.prog 24 #[.int .i64 E] w (MadeN w (dig Wd (fib E)).length (dig Wd (fib E)) 0) := by
  have d1 : decide ((E : Int) < 0) = false := decide_eq_false (by omega)
  have d2 : decide ((200 : Int) < (E : Int)) = false := decide_eq_false (by omega)
  obtain ⟨m, hm⟩ : ∃ m, E + 1 = m := ⟨_, rfl⟩
  have hEI : (E : Int) + 1 = (m : Int) := by omega
  have hm' := Lib.hid hm
  have hm9 : m ≤ 201 := by omega
  clear hm
  refine (callsIn_wide (n := 9)).1 ?_
  refine callsIn_of_wp_marks Tryd.func24 rfl trivial ?_ rfl
  simp only [Tryd.ntmps24, List.size_toArray, List.length_cons, List.length_nil, Nat.reduceAdd, Nat.reduceSub, Array.replicate_succ, Array.replicate_zero, List.push_toArray, List.append_toArray, List.nil_append, List.cons_append]
  gi_wp2_with (refine ⟨trivial, ?_⟩; gi_at_call 40; refine (callsIn_wide.2 (fibonacci_any _ _)).mono ?_; rintro e w1 ⟨rfl, rfl⟩)
  have bX := (Boxed.new w 23 (.slice none 0 0)).alloc (.cells #[.int .i64 (m : Int)] 3)
  have bC := (Boxed.new (w.alloc (.cells #[.slice none 0 0] 23)) 3 (.int .i64 (m : Int))).cell
  rw [World.size_alloc] at bC
  have hB0 : Below w.heap.size w ((w.alloc (.cells #[.slice none 0 0] 23)).alloc (.cells #[.int .i64 (m : Int)] 3)) := ((Below.refl _ w).alloc (Nat.le_refl _) _).alloc (by simp) _
  have hsz : ((w.alloc (.cells #[.slice none 0 0] 23)).alloc (.cells #[.int .i64 (m : Int)] 3)).heap.size = w.heap.size + 2 := by simp
  obtain ⟨W0, hW0⟩ : ∃ W0, (w.alloc (.cells #[.slice none 0 0] 23)).alloc (.cells #[.int .i64 (m : Int)] 3) = W0 := ⟨_, rfl⟩
  rw [hW0] at bX bC hB0 hsz ⊢
  clear hW0
  refine wpIn_rangeFunc_told rfl (by omega) (gf := 53) (lb := #[.pointer (some ⟨w.heap.size + 1, 0, none⟩)]) rfl trivial (enters_of Tryd.func53 (by kernel_rfl) rfl)
    (fibonacci_tells _ (by omega) m (w.heap.size + 1) hm9 W0 (by omega) bC) (fun h k => h.trans k) (fun W l o o' _ hl hc _ => KeepU.put W l o o' hl hc) (fun _ => rfl)
    (fun pre W => Boxed W w.heap.size 23 (lastV pre) ∧ Below w.heap.size w W ∧ LastAt pre W)
    (OwnFrom.and (Own.from (boxed_own _ _ _) _) (OwnFrom.and (ownFrom_below (Nat.le_refl _) (by omega)) (fun s X Y row hs hg hr => hs.keepU (KeepU.of_grown hg (fun r e => (hr r e).2)))))
    ⟨bX, hB0, fun x hx => by simp at hx⟩
    (fun pre x a' W => FibAt W pre.length x ∧ a' = { tmps := #[.int .i64 (E : Int), undef, .slice none 0 0, .int .i64 0, .pointer (some ⟨w.heap.size, 0, none⟩), .slice x.1 x.2.1 x.2.2, .int .i64 (E : Int), .bool false, .bool false, .int .i64 (E : Int), .bool false, .bool false, .int .i64 (E : Int), .int .i64 (m : Int), .func (.func 53) #[] #[.pointer (some ⟨w.heap.size + 1, 0, none⟩)], .slice x.1 x.2.1 x.2.2, undef, undef], defers := [] })
    (fun pre x a' _ X Y row hs hg hr => ⟨hs.1.keepU (KeepU.of_grown hg (fun r e => (hr r e).2)), hs.2⟩)
    ?assign ?body ?done
  case assign =>
    rintro l pre x W K hI hx hK
    gi_wp2
    exact hK _ _ ((KeepsOthers.refl _).from _) ⟨Nat.le_refl _, fun _ _ h => h⟩ hI ⟨hx, rfl⟩
  case body =>
    rintro L pre x a' W ⟨bX1, hB1, _⟩ ⟨hx, rfl⟩
    obtain ⟨A1, n1, c1, hv⟩ := lastV_slice pre
    rw [hv] at bX1
    have cX := bX1.cell
    have fX := bX1.frozen
    have q := Lib.hid bX1
    have q2 := Lib.hid hx
    have q3 := Lib.hid hB1
    clear bX1 hx hB1 hv
    gi_wp2
    exact ⟨rfl, (KeepsOthers.setCell _ _ _).from _, KeepU.box q.out _, by rw [lastV_snoc]; exact q.out.set _, q3.out.setCell (p := ⟨w.heap.size, 0, none⟩) (Nat.le_refl _) _, fun y hy => by
      simp at hy
      subst hy
      rw [List.length_append, List.length_singleton, Nat.add_sub_cancel]
      exact q2.out.keepU (KeepU.box q.out _)⟩
  case done =>
    rintro D zs W hD hzs ⟨bX1, hB1, hl⟩ hK
    rcases List.eq_nil_or_concat zs with rfl | ⟨pre, x, hx⟩
    · exfalso
      have := hm'.out
      simp at hzs
      omega
    · rw [List.concat_eq_append] at hx
      subst hx
      have hF := hl x (by simp)
      have hE2 : (pre ++ [x]).length - 1 = E := by rw [hzs]; have := hm'.out; omega
      rw [hE2] at hF
      rw [lastV_snoc] at bX1
      have cX := bX1.cell
      have q := Lib.hid hF
      have q2 := Lib.hid hB1
      have q3 := Lib.hid hK
      clear hF hB1 hl hzs hE2
      gi_wp2
      refine ⟨by simp, .inl ⟨_, _, rfl, run_takeDeferred hK, ?_⟩⟩
      refine ⟨_, results_tmp2 rfl _ _ _, ?_⟩
      have kD := KeepU.put W D _ (.deferred none) hK rfl
      have q4 := q.out.keepU kD
      exact ⟨x.1, x.2.2, by rw [q4.2]; rfl, by rw [q4.2]; exact q4.1, q2.out.trans (belowK_b (w := w) (Nat.le_refl _) W D _ _ (by omega) hK rfl rfl)⟩
end Go.Proofs.YtmndfncogkjjpaaDoor
