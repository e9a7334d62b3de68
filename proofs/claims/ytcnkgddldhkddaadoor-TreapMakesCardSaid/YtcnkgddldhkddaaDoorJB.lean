/- Layer 20: what package treap has to answer. Made by wip/gen/layer20laws.py. -/
import Derived.Test.YtcnkgddldhkddaaDoorJA
import Derived.Test.YtcnkgddldhkddaaDoorL9Same
import Derived.Test.YtcnkgddldhkddaaDoorGHeld
import Derived.Deep.RegionHeld3
import Derived.Deep.Cut
import Derived.Deep.QuietTactic
import Derived.BigQuiet
import Derived.Test.YtcnkgddldhkddaaDoorL9Make
import Derived.Test.YtcnkgddldhkddaaDoorL10Math
import Derived.Test.YtcnkgddldhkddaaDoorL4Row
import Derived.Test.YtcnkgddldhkddaaDoorL9High
import Derived.Test.YtcnkgddldhkddaaDoorGApp
import Derived.IntWalk
import Derived.Outline
import Derived.Test.YtcnkgddldhkddaaDoorL9Of
import Derived.Deep.RegionLaw
import Derived.Test.YtcnkgddldhkddaaDoorGNum
import Derived.Test.YtcnkgddldhkddaaDoorL1Math
import Derived.RangeFuncNested
import Derived.RangeFuncBound
import Derived.RangeFuncCalls
import Derived.RangeFuncLeaves
import Derived.Shelf.Abstract
import Derived.Shelf.RegionOpen
import Derived.WalkKit
import Derived.OwnWalkIn
import Derived.TacticsInMore
import Derived.LoopNIn
import Derived.LoopIn
import Derived.Test.YtcnkgddldhkddaaDoorProg
/- The document's own answers of layer 20: Above, item, Same. Made by wip/gen/layer20ref.py. -/
namespace Go.Proofs.YtcnkgddldhkddaaDoor
open Go.RowKit Go.Proofs.Treem
set_option maxRecDepth 100000

theorem results_rowI {P : Program} {fn : Func} {p : Tmp} {ty : TypeId} (h : fn.results = #[.cell p ty]) (tmps : Array Value) (w : World) (g : Nat) (t : TypeId) (cs : Array Value) (fr : Nat × Nat) (d : TypeDesc)
    (hp : tmps.getD p undef = .pointer (some ⟨g, 0, none⟩)) (hg : w.heap[g]? = some (.cells cs t fr))
    (hu : P.underlying ty = some d) (hd : (match d with | .struct _ | .array _ _ => true | _ => false) = true) (hi : (P.info? ty).map (·.size) = some cs.size) :
    (results fn tmps).run P w = .ok (.agg cs) w := by
  have hp' : tmps[p]?.getD undef = .pointer (some ⟨g, 0, none⟩) := by simpa using hp
  simp [results, h, hp', asAddr, run_loadVar_row w g t ty cs fr d hg hu hd hi]
theorem above_is (x y : It) : aboveI x y = decide (y.g.toNat < x.g.toNat ∨ (x.g.toNat = y.g.toNat ∧ y.k.toInt < x.k.toInt)) := decide_eq_decide.2 (rk_lt x y)
set_option maxHeartbeats 4000000 in
theorem refAbove20 (x y : It) (w : World) : Calls Tryd.prog 21 #[itV x, itV y] w fun e w' => e = .returned (.bool (aboveI x y)) ∧ Below w.heap.size w w' := by
  rw [above_is]
  obtain ⟨xk, xv, xg⟩ := x
  obtain ⟨yk, yv, yg⟩ := y
  show Calls _ _ #[.agg #[.int .i64 xk.toInt, K xv, .int .u64 (xg.toNat : Int)], .agg #[.int .i64 yk.toInt, K yv, .int .u64 (yg.toNat : Int)]] _ _
  simp only
  obtain ⟨P, hP⟩ : ∃ P, xg.toNat = P := ⟨_, rfl⟩
  obtain ⟨Q, hQ⟩ : ∃ P, yg.toNat = P := ⟨_, rfl⟩
  obtain ⟨a, ha⟩ : ∃ P, xk.toInt = P := ⟨_, rfl⟩
  obtain ⟨b, hb⟩ : ∃ P, yk.toInt = P := ⟨_, rfl⟩
  rw [hP, hQ, ha, hb]
  clear hP hQ ha hb
  rcases Nat.lt_trichotomy Q P with h | h | h
  · have d1 : decide ((Q : Int) < (P : Int)) = true := decide_eq_true (by omega)
    have hv : decide (Q < P ∨ (P = Q ∧ b < a)) = true := decide_eq_true (by omega)
    rw [hv]
    clear hv
    go_enter Tryd.func21, Tryd.ntmps21
    go_wp2
    go_ret
    exact ⟨rfl, ((Below.refl _ _).alloc (Nat.le_refl _) _).alloc (by simp [World.size_alloc]) _⟩
  · subst h
    by_cases h2 : b < a
    · have d2 : decide (b < a) = true := decide_eq_true h2
      have hv : decide (Q < Q ∨ (Q = Q ∧ b < a)) = true := decide_eq_true (by omega)
      rw [hv]
      clear hv
      go_enter Tryd.func21, Tryd.ntmps21
      go_wp2
      go_ret
      exact ⟨rfl, ((Below.refl _ _).alloc (Nat.le_refl _) _).alloc (by simp [World.size_alloc]) _⟩
    · have d2 : decide (b < a) = false := decide_eq_false h2
      have hv : decide (Q < Q ∨ (Q = Q ∧ b < a)) = false := decide_eq_false (by omega)
      rw [hv]
      clear hv
      go_enter Tryd.func21, Tryd.ntmps21
      go_wp2
      go_ret
      exact ⟨rfl, ((Below.refl _ _).alloc (Nat.le_refl _) _).alloc (by simp [World.size_alloc]) _⟩
  · have d1 : decide ((Q : Int) < (P : Int)) = false := decide_eq_false (by omega)
    have d3 : decide (Q < P) = false := decide_eq_false (by omega)
    have d2 : ((P : Int) == (Q : Int)) = false := by rw [beq_eq_false_iff_ne]; omega
    have d4 : ¬ P = Q := by omega
    have hv : decide (Q < P ∨ (P = Q ∧ b < a)) = false := decide_eq_false (by omega)
    rw [hv]
    clear hv
    go_enter Tryd.func21, Tryd.ntmps21
    go_wp2
    go_ret
    exact ⟨rfl, ((Below.refl _ _).alloc (Nat.le_refl _) _).alloc (by simp [World.size_alloc]) _⟩
theorem refItem20 (x : Bd) (w : World) : Calls Tryd.prog 36 #[bdV x] w fun e w' => e = .returned (itV ⟨x.key, x.val, x.tag⟩) ∧ Below w.heap.size w w' := by
  go_enter Tryd.func36, Tryd.ntmps36
  go_wp2
  have hT : Has ((w.alloc (.cells #[K x.key, K x.val, K x.sum, K x.size, G64 x.tag, .bool x.left, .bool x.right] 52)).alloc (.cells #[K x.key, K x.val, G64 x.tag] 38)) (w.heap.size + 1) 38 #[K x.key, K x.val, G64 x.tag] := by
    have := Has.new (w.alloc (.cells #[K x.key, K x.val, K x.sum, K x.size, G64 x.tag, .bool x.left, .bool x.right] 52)) 38 #[K x.key, K x.val, G64 x.tag]
    rw [World.size_alloc] at this
    exact this
  exact bodyPost_ret (results_rowI rfl _ _ (w.heap.size + 1) _ _ _ _ rfl hT Tryd.underlying38 rfl (by kernel_rfl)) rfl ⟨rfl, ((Below.refl _ _).alloc (Nat.le_refl _) _).alloc (by simp [World.size_alloc]) _⟩
theorem item_same (x y : It) : decide (x = y) = (decide (x.k = y.k) && (decide (x.v = y.v) && decide (x.g = y.g))) := by
  obtain ⟨a1, a2, a3⟩ := x
  obtain ⟨b1, b2, b3⟩ := y
  simp only [It.mk.injEq, Bool.decide_and]
theorem heldItem : Tryd.prog.stoodInHeld 38 = false := by kernel_rfl
theorem fieldsItem : Tryd.prog.fieldsOf 38 = #[{ name := "Key", type := 2, offset := 0, embedded := false, tag := "", pkgPath := "", byteOffset := 0 }, { name := "Val", type := 2, offset := 1, embedded := false, tag := "", pkgPath := "", byteOffset := 8 }, { name := "Tag", type := 36, offset := 2, embedded := false, tag := "", pkgPath := "", byteOffset := 16 }] := by
  simp only [Program.fieldsOf, Tryd.underlying38]
theorem item_eql (x y : It) (W : World) : (binOp .eql 38 (itV x) (itV y)).run Tryd.prog W = .ok (.bool (decide (x = y))) W := by
  rw [item_same, run_eql_struct, run_equalIn_struct W 9999 38 _ _ (by rw [fieldsItem]; exact Tryd.underlying38) heldItem, fieldsItem]
  simp only [Op.eqFields, ne_eq, String.reduceEq, not_false_eq_true, if_true]
  obtain ⟨a1, a2, a3⟩ := x
  obtain ⟨b1, b2, b3⟩ := y
  have ap0 : ∀ W, (part 2 #[K a1, K a2, G64 a3] 0).run Tryd.prog W = .ok (K a1) W := fun W => partI W _ _ _ rfl
  have ap1 : ∀ W, (part 2 #[K a1, K a2, G64 a3] 1).run Tryd.prog W = .ok (K a2) W := fun W => partI W _ _ _ rfl
  have ap2 : ∀ W, (part 36 #[K a1, K a2, G64 a3] 2).run Tryd.prog W = .ok (G64 a3) W := fun W => partU W _ _ _ rfl
  have bp0 : ∀ W, (part 2 #[K b1, K b2, G64 b3] 0).run Tryd.prog W = .ok (K b1) W := fun W => partI W _ _ _ rfl
  have bp1 : ∀ W, (part 2 #[K b1, K b2, G64 b3] 1).run Tryd.prog W = .ok (K b2) W := fun W => partI W _ _ _ rfl
  have bp2 : ∀ W, (part 36 #[K b1, K b2, G64 b3] 2).run Tryd.prog W = .ok (G64 b3) W := fun W => partU W _ _ _ rfl
  have ei : ∀ (W : World) (a b : Int), (Op.equalIn 9999 2 (.int .i64 a) (.int .i64 b)).run Tryd.prog W = .ok (a == b) W := fun W a b => run_equalIn_int W 9998 2 .i64 .i64 a b Tryd.underlying2
  have eu : ∀ (W : World) (a b : Int), (Op.equalIn 9999 36 (.int .u64 a) (.int .u64 b)).run Tryd.prog W = .ok (a == b) W := fun W a b => run_equalIn_int W 9998 36 .u64 .u64 a b Tryd.underlying36
  simp only [Sem.run_bind, Sem.run_ite, Sem.run_pure, Result.andThen_ok, ap0, ap1, ap2, bp0, bp1, bp2, ei, eu, toInt_beq, toNat_beq]
  cases decide (a1 = b1) <;> cases decide (a2 = b2) <;> cases decide (a3 = b3) <;> rfl
theorem item_neq (x y : It) (W : World) : (binOp .neq 38 (itV x) (itV y)).run Tryd.prog W = .ok (.bool (!decide (x = y))) W := neq_val (item_eql x y W)
/-- no two items have the same tag and key: told -/
def unlB (l : List It) : Bool := decide (l.Pairwise fun a b => a.rk ≠ b.rk)
theorem unlB_iff {l : List It} : unlB l = true ↔ Unl l := decide_eq_true_iff
theorem unl_take {l : List It} {k : Nat} (hk : k < l.length) : Unl (l.take (k + 1)) ↔ Unl (l.take k) ∧ ∀ j (h : j < k), (l[j]).rk ≠ (l[k]).rk := by
  rw [List.take_succ_eq_append_getElem hk]
  unfold Unl
  rw [List.pairwise_append]
  constructor
  · rintro ⟨h1, -, h3⟩
    refine ⟨h1, fun j hj => h3 _ ?_ _ (List.mem_singleton_self _)⟩
    exact List.mem_take_iff_getElem.2 ⟨j, by omega, rfl⟩
  · rintro ⟨h1, h2⟩
    refine ⟨h1, List.pairwise_singleton _ _, fun a ha b hb => ?_⟩
    rw [List.mem_singleton.1 hb]
    obtain ⟨j, hj, rfl⟩ := List.mem_take_iff_getElem.1 ha
    exact h2 j (by omega)
set_option maxHeartbeats 4000000 in
theorem refUnlike20 (A : Option Addr) (n c : Nat) (l : List It) (w : World) (h : LieI w w.heap.size A n c l) : Calls Tryd.prog 25 #[.slice A n c] w fun e w' => e = .returned (.bool (unlB l)) ∧ Below w.heap.size w w' := by
  have h' := Lib.hid h
  have hl' := Lib.hid h.len
  have hf := h.few
  obtain ⟨b, hb⟩ : ∃ b, unlB l = b := ⟨_, rfl⟩
  rw [hb]
  have hb' := Lib.hid (hb ▸ unlB_iff (l := l))
  clear h hb
  go_enter Tryd.func25, Tryd.ntmps25
  go_wp2
  go_loopw [3] (fun i wr => ∃ k : Nat, k ≤ n ∧ i = .int .i64 k ∧ Below w.heap.size w wr ∧ Hid (Unl (l.take k))) (fun i _ => n - (intOf i).toNat)
  case atStart => exact ⟨0, Nat.zero_le _, rfl, Below.refl _ _, by show Unl (l.take 0); simp [Unl]⟩
  case round =>
    obtain ⟨k, hk, rfl, hbw, he⟩ := hrel
    have hbw' := Lib.hid hbw
    clear hbw
    by_cases hlt : k < n
    · have hkl : k < l.length := by rw [hl'.out]; exact hlt
      go_wp2
      have hk9 : k ≤ 6000 := by omega
      go_loopw [4] (fun i wr => ∃ m : Nat, m ≤ k ∧ i = .int .i64 m ∧ Below w.heap.size w wr ∧ Hid (∀ j, j < m → (l[j]?).map It.rk ≠ some (l[k]).rk)) (fun i _ => k - (intOf i).toNat)
      case atStart => exact ⟨0, Nat.zero_le _, rfl, hbw'.out, by intro j hj; omega⟩
      case round =>
        obtain ⟨m, hm, rfl, hbq, hq⟩ := hrel
        have hbq' := Lib.hid hbq
        clear hbq
        by_cases hlm : m < k
        · have hml : m < l.length := by omega
          have hmn : m < n := by omega
          obtain ⟨ad, rfl, hb2, g0, g1, g2⟩ := item_at (h'.out.next hbq'.out) k hkl
          obtain ⟨ad', e, hb3, f0, f1, f2⟩ := item_at (h'.out.next hbq'.out) m hml
          cases e
          have hrk := Lib.hid (rk_eq (l[m]) (l[k]))
          have hstep := Lib.hid (fun (hne : (l[m]).rk ≠ (l[k]).rk) => show ∀ j, j < m + 1 → (l[j]?).map It.rk ≠ some (l[k]).rk from fun j hj => by
            by_cases e : j = m
            · subst e; rw [List.getElem?_eq_getElem hml]; exact fun e => hne (Option.some.inj e)
            · exact hq.out j (by omega))
          obtain ⟨P, hP⟩ : ∃ P, (l[k]).g = P := ⟨_, rfl⟩
          obtain ⟨Q, hQ⟩ : ∃ P, (l[m]).g = P := ⟨_, rfl⟩
          obtain ⟨a, ha⟩ : ∃ P, (l[k]).k = P := ⟨_, rfl⟩
          obtain ⟨b2, hb2'⟩ : ∃ P, (l[m]).k = P := ⟨_, rfl⟩
          have g2 : wr.cell? ⟨(ad.add (k * 3)).block, (ad.add (k * 3)).off + 2, none⟩ = some (.int .u64 (P.toNat : Int)) := by rw [g2, hP]
          have f2 : wr.cell? ⟨(ad.add (m * 3)).block, (ad.add (m * 3)).off + 2, none⟩ = some (.int .u64 (Q.toNat : Int)) := by rw [f2, hQ]
          rw [ha] at g0
          rw [hb2'] at f0
          rw [hP, hQ, ha, hb2'] at hrk
          have t1 := toNat_beq P Q
          have t2 := toInt_beq a b2
          obtain ⟨x1, hx1⟩ : ∃ x, decide (P = Q) = x := ⟨_, rfl⟩
          obtain ⟨x2, hx2⟩ : ∃ x, decide (a = b2) = x := ⟨_, rfl⟩
          rw [hx1] at t1
          rw [hx2] at t2
          have hx1' := Lib.hid hx1
          have hx2' := Lib.hid hx2
          clear hx1 hx2 hP hQ ha hb2' g1 f1
          cases x1 with
          | false =>
            have hne := Lib.hid (hstep.out (fun e => of_decide_eq_false hx1'.out (hrk.out.1 e).1.symm))
            go_wp2_with fail
            refine wp_region_held_drew (S := fun W => W.cell? ⟨(ad.add (k * 3)).block, (ad.add (k * 3)).off + 2, none⟩ = some (.int .u64 (P.toNat : Int)) ∧ W.cell? ⟨(ad.add (m * 3)).block, (ad.add (m * 3)).off + 2, none⟩ = some (.int .u64 (Q.toNat : Int)) ∧ W.cell? (ad.add (k * 3)) = some (K a) ∧ W.cell? (ad.add (m * 3)) = some (K b2) ∧ Below wr.heap.size wr W) (by kernel_rfl) ⟨g2, f2, g0, f0, (Below.refl _ wr).drew⟩ (fun hS => ?_)
            refine wpAnyH_take (i := 0) (oi := ?dqr1q0) (v := ?dvr1q0) ?hir1q0 (by kernel_rfl) (by kernel_rfl) (by kernel_rfl) ?hQr1q0 (Or.inl ⟨?hwr1q0, ?hyr1q0⟩) hS ?hrr1q0
            case hir1q0 => simp only [List.getElem?_toArray, List.getElem?_cons_zero]; rfl
            case hQr1q0 => exact fun _ _ _ h => h
            case hwr1q0 => rfl
            case hyr1q0 => (intro w hSw; (try dsimp only at hSw); go_simp; (try with_reducible rfl))
            simp only [Act.put, List.setIfInBounds_toArray, List.set_cons_zero, List.set_cons_succ]
            refine wpAnyH_take (i := 1) (oi := ?dqr1q1) (v := ?dvr1q1) ?hir1q1 (by kernel_rfl) (by kernel_rfl) (by kernel_rfl) ?hQr1q1 (Or.inl ⟨?hwr1q1, ?hyr1q1⟩) hS ?hrr1q1
            case hir1q1 => simp only [List.getElem?_toArray, List.getElem?_cons_succ, List.getElem?_cons_zero]; rfl
            case hQr1q1 => exact fun _ _ _ h => h
            case hwr1q1 => rfl
            case hyr1q1 => (intro w hSw; (try dsimp only at hSw); go_simp; (try with_reducible rfl))
            simp only [Act.put, List.setIfInBounds_toArray, List.set_cons_zero, List.set_cons_succ]
            refine wpAnyH_take (i := 2) (oi := ?dqr1q2) (v := ?dvr1q2) ?hir1q2 (by kernel_rfl) (by kernel_rfl) (by kernel_rfl) ?hQr1q2 (Or.inl ⟨?hwr1q2, ?hyr1q2⟩) hS ?hrr1q2
            case hir1q2 => simp only [List.getElem?_toArray, List.getElem?_cons_succ, List.getElem?_cons_zero]; rfl
            case hQr1q2 => exact fun _ _ _ h => h
            case hwr1q2 => rfl
            case hyr1q2 => (intro w hSw; (try dsimp only at hSw); go_simp; (try with_reducible rfl))
            simp only [Act.put, List.setIfInBounds_toArray, List.set_cons_zero, List.set_cons_succ]
            refine wpAnyH_take (i := 3) (oi := ?dqr1q3) (v := ?dvr1q3) ?hir1q3 (by kernel_rfl) (by kernel_rfl) (by kernel_rfl) ?hQr1q3 (Or.inl ⟨?hwr1q3, ?hyr1q3⟩) hS ?hrr1q3
            case hir1q3 => simp only [List.getElem?_toArray, List.getElem?_cons_succ, List.getElem?_cons_zero]; rfl
            case hQr1q3 => exact fun _ _ _ h => h
            case hwr1q3 => rfl
            case hyr1q3 => (intro w hSw; (try dsimp only at hSw); go_simp; (try with_reducible rfl))
            simp only [Act.put, List.setIfInBounds_toArray, List.set_cons_zero, List.set_cons_succ]
            refine wpAnyH_take (i := 4) (oi := ?dqr1q4) (v := ?dvr1q4) ?hir1q4 (by kernel_rfl) (by kernel_rfl) (by kernel_rfl) ?hQr1q4 (Or.inl ⟨?hwr1q4, ?hyr1q4⟩) hS ?hrr1q4
            case hir1q4 => simp only [List.getElem?_toArray, List.getElem?_cons_succ, List.getElem?_cons_zero]; rfl
            case hQr1q4 => exact fun _ _ _ h => h
            case hwr1q4 => rfl
            case hyr1q4 => (intro w hSw; (try dsimp only at hSw); go_simp; (try with_reducible rfl))
            simp only [Act.put, List.setIfInBounds_toArray, List.set_cons_zero, List.set_cons_succ]
            refine wpAnyH_take (i := 5) (oi := ?dqr1q5) (v := ?dvr1q5) ?hir1q5 (by kernel_rfl) (by kernel_rfl) (by kernel_rfl) ?hQr1q5 (Or.inl ⟨?hwr1q5, ?hyr1q5⟩) hS ?hrr1q5
            case hir1q5 => simp only [List.getElem?_toArray, List.getElem?_cons_succ, List.getElem?_cons_zero]; rfl
            case hQr1q5 => exact fun _ _ _ h => h
            case hwr1q5 => rfl
            case hyr1q5 => (intro w hSw; (try dsimp only at hSw); go_simp; (try with_reducible rfl))
            simp only [Act.put, List.setIfInBounds_toArray, List.set_cons_zero, List.set_cons_succ]
            refine wpAnyH_take (i := 6) (oi := ?dqr1q6) (v := ?dvr1q6) ?hir1q6 (by kernel_rfl) (by kernel_rfl) (by kernel_rfl) ?hQr1q6 (Or.inl ⟨?hwr1q6, ?hyr1q6⟩) hS ?hrr1q6
            case hir1q6 => simp only [List.getElem?_toArray, List.getElem?_cons_succ, List.getElem?_cons_zero]; rfl
            case hQr1q6 => exact fun _ _ _ h => h
            case hwr1q6 => rfl
            case hyr1q6 => (intro w hSw; (try dsimp only at hSw); go_simp; (try with_reducible rfl))
            simp only [Act.put, List.setIfInBounds_toArray, List.set_cons_zero, List.set_cons_succ]
            refine wpAnyH_take (i := 7) (oi := ?dqr1q7) (v := ?dvr1q7) ?hir1q7 (by kernel_rfl) (by kernel_rfl) (by kernel_rfl) ?hQr1q7 (Or.inl ⟨?hwr1q7, ?hyr1q7⟩) hS ?hrr1q7
            case hir1q7 => simp only [List.getElem?_toArray, List.getElem?_cons_succ, List.getElem?_cons_zero]; rfl
            case hQr1q7 => exact fun _ _ _ h => h
            case hwr1q7 => rfl
            case hyr1q7 => (intro w hSw; (try dsimp only at hSw); go_simp; (try with_reducible rfl))
            simp only [Act.put, List.setIfInBounds_toArray, List.set_cons_zero, List.set_cons_succ]
            refine wpAnyH_take (i := 8) (oi := ?dqr1q8) (v := ?dvr1q8) ?hir1q8 (by kernel_rfl) (by kernel_rfl) (by kernel_rfl) ?hQr1q8 (Or.inl ⟨?hwr1q8, ?hyr1q8⟩) hS ?hrr1q8
            case hir1q8 => simp only [List.getElem?_toArray, List.getElem?_cons_succ, List.getElem?_cons_zero]; rfl
            case hQr1q8 => exact fun _ _ _ h => h
            case hwr1q8 => rfl
            case hyr1q8 => (intro w hSw; (try dsimp only at hSw); go_simp; (try with_reducible rfl))
            simp only [Act.put, List.setIfInBounds_toArray, List.set_cons_zero, List.set_cons_succ]
            refine wpAnyH_take (i := 9) (oi := ?dqr1q9) (v := ?dvr1q9) ?hir1q9 (by kernel_rfl) (by kernel_rfl) (by kernel_rfl) ?hQr1q9 (Or.inl ⟨?hwr1q9, ?hyr1q9⟩) hS ?hrr1q9
            case hir1q9 => simp only [List.getElem?_toArray, List.getElem?_cons_succ, List.getElem?_cons_zero]; rfl
            case hQr1q9 => exact fun _ _ _ h => h
            case hwr1q9 => rfl
            case hyr1q9 => (intro w hSw; (try dsimp only at hSw); go_simp; (try with_reducible rfl))
            simp only [Act.put, List.setIfInBounds_toArray, List.set_cons_zero, List.set_cons_succ]
            refine wpAnyH_take (i := 10) (oi := ?dqr1q10) (v := ?dvr1q10) ?hir1q10 (by kernel_rfl) (by kernel_rfl) (by kernel_rfl) ?hQr1q10 (Or.inl ⟨?hwr1q10, ?hyr1q10⟩) hS ?hrr1q10
            case hir1q10 => simp only [List.getElem?_toArray, List.getElem?_cons_succ, List.getElem?_cons_zero]; rfl
            case hQr1q10 => exact fun _ _ _ h => h
            case hwr1q10 => rfl
            case hyr1q10 => (intro w hSw; (try dsimp only at hSw); go_simp; (try with_reducible rfl))
            simp only [Act.put, List.setIfInBounds_toArray, List.set_cons_zero, List.set_cons_succ]
            refine wpAnyH_take (i := 11) (oi := ?dqr1q11) (v := ?dvr1q11) ?hir1q11 (by kernel_rfl) (by kernel_rfl) (by kernel_rfl) ?hQr1q11 (Or.inl ⟨?hwr1q11, ?hyr1q11⟩) hS ?hrr1q11
            case hir1q11 => simp only [List.getElem?_toArray, List.getElem?_cons_succ, List.getElem?_cons_zero]; rfl
            case hQr1q11 => exact fun _ _ _ h => h
            case hwr1q11 => rfl
            case hyr1q11 => (intro w hSw; (try dsimp only at hSw); go_simp; (try with_reducible rfl))
            simp only [Act.put, List.setIfInBounds_toArray, List.set_cons_zero, List.set_cons_succ]
            refine wpAnyH_take (i := 12) (oi := ?dqr1q12) (v := undef) ?hir1q12 (by kernel_rfl) (by kernel_rfl) (by kernel_rfl) ?hQr1q12 (Or.inr ⟨?hwr1q12, rfl⟩) hS ?hrr1q12
            case hir1q12 => simp only [List.getElem?_toArray, List.getElem?_cons_succ, List.getElem?_cons_zero]; rfl
            case hQr1q12 => exact fun _ _ _ h => h
            case hwr1q12 => rfl
            simp only [Act.put, List.setIfInBounds_toArray, List.set_cons_zero, List.set_cons_succ]
            refine wpAnyH_take (i := 13) (oi := ?dqr1q13) (v := undef) ?hir1q13 (by kernel_rfl) (by kernel_rfl) (by kernel_rfl) ?hQr1q13 (Or.inr ⟨?hwr1q13, rfl⟩) hS ?hrr1q13
            case hir1q13 => simp only [List.getElem?_toArray, List.getElem?_cons_succ, List.getElem?_cons_zero]; rfl
            case hQr1q13 => exact fun _ _ _ h => h
            case hwr1q13 => rfl
            simp only [Act.put, List.setIfInBounds_toArray, List.set_cons_zero, List.set_cons_succ]
            refine wpAnyH_take (i := 14) (oi := ?dqr1q14) (v := undef) ?hir1q14 (by kernel_rfl) (by kernel_rfl) (by kernel_rfl) ?hQr1q14 (Or.inr ⟨?hwr1q14, rfl⟩) hS ?hrr1q14
            case hir1q14 => simp only [List.getElem?_toArray, List.getElem?_cons_succ, List.getElem?_cons_zero]; rfl
            case hQr1q14 => exact fun _ _ _ h => h
            case hwr1q14 => rfl
            simp only [Act.put, List.setIfInBounds_toArray, List.set_cons_zero, List.set_cons_succ]
            refine wpAnyH_take (i := 15) (oi := ?dqr1q15) (v := undef) ?hir1q15 (by kernel_rfl) (by kernel_rfl) (by kernel_rfl) ?hQr1q15 (Or.inr ⟨?hwr1q15, rfl⟩) hS ?hrr1q15
            case hir1q15 => simp only [List.getElem?_toArray, List.getElem?_cons_succ, List.getElem?_cons_zero]; rfl
            case hQr1q15 => exact fun _ _ _ h => h
            case hwr1q15 => rfl
            simp only [Act.put, List.setIfInBounds_toArray, List.set_cons_zero, List.set_cons_succ]
            refine wpAnyH_take (i := 16) (oi := ?dqr1q16) (v := undef) ?hir1q16 (by kernel_rfl) (by kernel_rfl) (by kernel_rfl) ?hQr1q16 (Or.inr ⟨?hwr1q16, rfl⟩) hS ?hrr1q16
            case hir1q16 => simp only [List.getElem?_toArray, List.getElem?_cons_succ, List.getElem?_cons_zero]; rfl
            case hQr1q16 => exact fun _ _ _ h => h
            case hwr1q16 => rfl
            simp only [Act.put, List.setIfInBounds_toArray, List.set_cons_zero, List.set_cons_succ]
            refine wpAnyH_take (i := 17) (oi := ?dqr1q17) (v := undef) ?hir1q17 (by kernel_rfl) (by kernel_rfl) (by kernel_rfl) ?hQr1q17 (Or.inr ⟨?hwr1q17, rfl⟩) hS ?hrr1q17
            case hir1q17 => simp only [List.getElem?_toArray, List.getElem?_cons_succ, List.getElem?_cons_zero]; rfl
            case hQr1q17 => exact fun _ _ _ h => h
            case hwr1q17 => rfl
            simp only [Act.put, List.setIfInBounds_toArray, List.set_cons_zero, List.set_cons_succ]
            refine wpAnyH_take (i := 18) (oi := ?dqr1q18) (v := undef) ?hir1q18 (by kernel_rfl) (by kernel_rfl) (by kernel_rfl) ?hQr1q18 (Or.inr ⟨?hwr1q18, rfl⟩) hS ?hrr1q18
            case hir1q18 => simp only [List.getElem?_toArray, List.getElem?_cons_succ, List.getElem?_cons_zero]; rfl
            case hQr1q18 => exact fun _ _ _ h => h
            case hwr1q18 => rfl
            simp only [Act.put, List.setIfInBounds_toArray, List.set_cons_zero, List.set_cons_succ]
            refine wpAnyH_take (i := 19) (oi := ?dqr1q19) (v := undef) ?hir1q19 (by kernel_rfl) (by kernel_rfl) (by kernel_rfl) ?hQr1q19 (Or.inr ⟨?hwr1q19, rfl⟩) hS ?hrr1q19
            case hir1q19 => simp only [List.getElem?_toArray, List.getElem?_cons_succ, List.getElem?_cons_zero]; rfl
            case hQr1q19 => exact fun _ _ _ h => h
            case hwr1q19 => rfl
            simp only [Act.put, List.setIfInBounds_toArray, List.set_cons_zero, List.set_cons_succ]
            refine wpAnyH_take (i := 20) (oi := ?dqr1q20) (v := undef) ?hir1q20 (by kernel_rfl) (by kernel_rfl) (by kernel_rfl) ?hQr1q20 (Or.inr ⟨?hwr1q20, rfl⟩) hS ?hrr1q20
            case hir1q20 => simp only [List.getElem?_toArray, List.getElem?_cons_succ, List.getElem?_cons_zero]; rfl
            case hQr1q20 => exact fun _ _ _ h => h
            case hwr1q20 => rfl
            simp only [Act.put, List.setIfInBounds_toArray, List.set_cons_zero, List.set_cons_succ]
            refine wpAnyH_take (i := 21) (oi := ?dqr1q21) (v := undef) ?hir1q21 (by kernel_rfl) (by kernel_rfl) (by kernel_rfl) ?hQr1q21 (Or.inr ⟨?hwr1q21, rfl⟩) hS ?hrr1q21
            case hir1q21 => simp only [List.getElem?_toArray, List.getElem?_cons_succ, List.getElem?_cons_zero]; rfl
            case hQr1q21 => exact fun _ _ _ h => h
            case hwr1q21 => rfl
            simp only [Act.put, List.setIfInBounds_toArray, List.set_cons_zero, List.set_cons_succ]
            refine wpAnyH_take (i := 22) (oi := ?dqr1q22) (v := undef) ?hir1q22 (by kernel_rfl) (by kernel_rfl) (by kernel_rfl) ?hQr1q22 (Or.inr ⟨?hwr1q22, rfl⟩) hS ?hrr1q22
            case hir1q22 => simp only [List.getElem?_toArray, List.getElem?_cons_succ, List.getElem?_cons_zero]; rfl
            case hQr1q22 => exact fun _ _ _ h => h
            case hwr1q22 => rfl
            simp only [Act.put, List.setIfInBounds_toArray, List.set_cons_zero, List.set_cons_succ]
            refine wpAnyH_take (i := 23) (oi := ?dqr1q23) (v := ?dvr1q23) ?hir1q23 (by kernel_rfl) (by kernel_rfl) (by kernel_rfl) ?hQr1q23 (Or.inl ⟨?hwr1q23, ?hyr1q23⟩) hS ?hrr1q23
            case hir1q23 => simp only [List.getElem?_toArray, List.getElem?_cons_succ, List.getElem?_cons_zero]; rfl
            case hQr1q23 => exact fun _ _ _ h => h
            case hwr1q23 => rfl
            case hyr1q23 => (intro w hSw; (try dsimp only at hSw); go_simp; (try with_reducible rfl))
            simp only [Act.put, List.setIfInBounds_toArray, List.set_cons_zero, List.set_cons_succ]
            refine wpAnyH_done (by kernel_rfl) ?_ _
            have hb3 := Lib.hid hS.2.2.2.2
            clear hS
            go_wp2_with fail
            go_roundw
            case rel => exact ⟨m + 1, by omega, by go_num, hbq'.out.trans (hb3.out.mono hbq'.out.size), hne⟩
            case measure => simp [intOf]; omega
          | true =>
            cases x2 with
            | false =>
              have hne := Lib.hid (hstep.out (fun e => of_decide_eq_false hx2'.out (hrk.out.1 e).2.symm))
              go_wp2_with fail
              refine wp_region_held_drew (S := fun W => W.cell? ⟨(ad.add (k * 3)).block, (ad.add (k * 3)).off + 2, none⟩ = some (.int .u64 (P.toNat : Int)) ∧ W.cell? ⟨(ad.add (m * 3)).block, (ad.add (m * 3)).off + 2, none⟩ = some (.int .u64 (Q.toNat : Int)) ∧ W.cell? (ad.add (k * 3)) = some (K a) ∧ W.cell? (ad.add (m * 3)) = some (K b2) ∧ Below wr.heap.size wr W) (by kernel_rfl) ⟨g2, f2, g0, f0, (Below.refl _ wr).drew⟩ (fun hS => ?_)
              refine wpAnyH_take (i := 0) (oi := ?dqr2q0) (v := ?dvr2q0) ?hir2q0 (by kernel_rfl) (by kernel_rfl) (by kernel_rfl) ?hQr2q0 (Or.inl ⟨?hwr2q0, ?hyr2q0⟩) hS ?hrr2q0
              case hir2q0 => simp only [List.getElem?_toArray, List.getElem?_cons_zero]; rfl
              case hQr2q0 => exact fun _ _ _ h => h
              case hwr2q0 => rfl
              case hyr2q0 => (intro w hSw; (try dsimp only at hSw); go_simp; (try with_reducible rfl))
              simp only [Act.put, List.setIfInBounds_toArray, List.set_cons_zero, List.set_cons_succ]
              refine wpAnyH_take (i := 1) (oi := ?dqr2q1) (v := ?dvr2q1) ?hir2q1 (by kernel_rfl) (by kernel_rfl) (by kernel_rfl) ?hQr2q1 (Or.inl ⟨?hwr2q1, ?hyr2q1⟩) hS ?hrr2q1
              case hir2q1 => simp only [List.getElem?_toArray, List.getElem?_cons_succ, List.getElem?_cons_zero]; rfl
              case hQr2q1 => exact fun _ _ _ h => h
              case hwr2q1 => rfl
              case hyr2q1 => (intro w hSw; (try dsimp only at hSw); go_simp; (try with_reducible rfl))
              simp only [Act.put, List.setIfInBounds_toArray, List.set_cons_zero, List.set_cons_succ]
              refine wpAnyH_take (i := 2) (oi := ?dqr2q2) (v := ?dvr2q2) ?hir2q2 (by kernel_rfl) (by kernel_rfl) (by kernel_rfl) ?hQr2q2 (Or.inl ⟨?hwr2q2, ?hyr2q2⟩) hS ?hrr2q2
              case hir2q2 => simp only [List.getElem?_toArray, List.getElem?_cons_succ, List.getElem?_cons_zero]; rfl
              case hQr2q2 => exact fun _ _ _ h => h
              case hwr2q2 => rfl
              case hyr2q2 => (intro w hSw; (try dsimp only at hSw); go_simp; (try with_reducible rfl))
              simp only [Act.put, List.setIfInBounds_toArray, List.set_cons_zero, List.set_cons_succ]
              refine wpAnyH_take (i := 3) (oi := ?dqr2q3) (v := ?dvr2q3) ?hir2q3 (by kernel_rfl) (by kernel_rfl) (by kernel_rfl) ?hQr2q3 (Or.inl ⟨?hwr2q3, ?hyr2q3⟩) hS ?hrr2q3
              case hir2q3 => simp only [List.getElem?_toArray, List.getElem?_cons_succ, List.getElem?_cons_zero]; rfl
              case hQr2q3 => exact fun _ _ _ h => h
              case hwr2q3 => rfl
              case hyr2q3 => (intro w hSw; (try dsimp only at hSw); go_simp; (try with_reducible rfl))
              simp only [Act.put, List.setIfInBounds_toArray, List.set_cons_zero, List.set_cons_succ]
              refine wpAnyH_take (i := 4) (oi := ?dqr2q4) (v := ?dvr2q4) ?hir2q4 (by kernel_rfl) (by kernel_rfl) (by kernel_rfl) ?hQr2q4 (Or.inl ⟨?hwr2q4, ?hyr2q4⟩) hS ?hrr2q4
              case hir2q4 => simp only [List.getElem?_toArray, List.getElem?_cons_succ, List.getElem?_cons_zero]; rfl
              case hQr2q4 => exact fun _ _ _ h => h
              case hwr2q4 => rfl
              case hyr2q4 => (intro w hSw; (try dsimp only at hSw); go_simp; (try with_reducible rfl))
              simp only [Act.put, List.setIfInBounds_toArray, List.set_cons_zero, List.set_cons_succ]
              refine wpAnyH_take (i := 5) (oi := ?dqr2q5) (v := ?dvr2q5) ?hir2q5 (by kernel_rfl) (by kernel_rfl) (by kernel_rfl) ?hQr2q5 (Or.inl ⟨?hwr2q5, ?hyr2q5⟩) hS ?hrr2q5
              case hir2q5 => simp only [List.getElem?_toArray, List.getElem?_cons_succ, List.getElem?_cons_zero]; rfl
              case hQr2q5 => exact fun _ _ _ h => h
              case hwr2q5 => rfl
              case hyr2q5 => (intro w hSw; (try dsimp only at hSw); go_simp; (try with_reducible rfl))
              simp only [Act.put, List.setIfInBounds_toArray, List.set_cons_zero, List.set_cons_succ]
              refine wpAnyH_take (i := 6) (oi := ?dqr2q6) (v := ?dvr2q6) ?hir2q6 (by kernel_rfl) (by kernel_rfl) (by kernel_rfl) ?hQr2q6 (Or.inl ⟨?hwr2q6, ?hyr2q6⟩) hS ?hrr2q6
              case hir2q6 => simp only [List.getElem?_toArray, List.getElem?_cons_succ, List.getElem?_cons_zero]; rfl
              case hQr2q6 => exact fun _ _ _ h => h
              case hwr2q6 => rfl
              case hyr2q6 => (intro w hSw; (try dsimp only at hSw); go_simp; (try with_reducible rfl))
              simp only [Act.put, List.setIfInBounds_toArray, List.set_cons_zero, List.set_cons_succ]
              refine wpAnyH_take (i := 7) (oi := ?dqr2q7) (v := ?dvr2q7) ?hir2q7 (by kernel_rfl) (by kernel_rfl) (by kernel_rfl) ?hQr2q7 (Or.inl ⟨?hwr2q7, ?hyr2q7⟩) hS ?hrr2q7
              case hir2q7 => simp only [List.getElem?_toArray, List.getElem?_cons_succ, List.getElem?_cons_zero]; rfl
              case hQr2q7 => exact fun _ _ _ h => h
              case hwr2q7 => rfl
              case hyr2q7 => (intro w hSw; (try dsimp only at hSw); go_simp; (try with_reducible rfl))
              simp only [Act.put, List.setIfInBounds_toArray, List.set_cons_zero, List.set_cons_succ]
              refine wpAnyH_take (i := 8) (oi := ?dqr2q8) (v := ?dvr2q8) ?hir2q8 (by kernel_rfl) (by kernel_rfl) (by kernel_rfl) ?hQr2q8 (Or.inl ⟨?hwr2q8, ?hyr2q8⟩) hS ?hrr2q8
              case hir2q8 => simp only [List.getElem?_toArray, List.getElem?_cons_succ, List.getElem?_cons_zero]; rfl
              case hQr2q8 => exact fun _ _ _ h => h
              case hwr2q8 => rfl
              case hyr2q8 => (intro w hSw; (try dsimp only at hSw); go_simp; (try with_reducible rfl))
              simp only [Act.put, List.setIfInBounds_toArray, List.set_cons_zero, List.set_cons_succ]
              refine wpAnyH_take (i := 9) (oi := ?dqr2q9) (v := ?dvr2q9) ?hir2q9 (by kernel_rfl) (by kernel_rfl) (by kernel_rfl) ?hQr2q9 (Or.inl ⟨?hwr2q9, ?hyr2q9⟩) hS ?hrr2q9
              case hir2q9 => simp only [List.getElem?_toArray, List.getElem?_cons_succ, List.getElem?_cons_zero]; rfl
              case hQr2q9 => exact fun _ _ _ h => h
              case hwr2q9 => rfl
              case hyr2q9 => (intro w hSw; (try dsimp only at hSw); go_simp; (try with_reducible rfl))
              simp only [Act.put, List.setIfInBounds_toArray, List.set_cons_zero, List.set_cons_succ]
              refine wpAnyH_take (i := 10) (oi := ?dqr2q10) (v := ?dvr2q10) ?hir2q10 (by kernel_rfl) (by kernel_rfl) (by kernel_rfl) ?hQr2q10 (Or.inl ⟨?hwr2q10, ?hyr2q10⟩) hS ?hrr2q10
              case hir2q10 => simp only [List.getElem?_toArray, List.getElem?_cons_succ, List.getElem?_cons_zero]; rfl
              case hQr2q10 => exact fun _ _ _ h => h
              case hwr2q10 => rfl
              case hyr2q10 => (intro w hSw; (try dsimp only at hSw); go_simp; (try with_reducible rfl))
              simp only [Act.put, List.setIfInBounds_toArray, List.set_cons_zero, List.set_cons_succ]
              refine wpAnyH_take (i := 11) (oi := ?dqr2q11) (v := ?dvr2q11) ?hir2q11 (by kernel_rfl) (by kernel_rfl) (by kernel_rfl) ?hQr2q11 (Or.inl ⟨?hwr2q11, ?hyr2q11⟩) hS ?hrr2q11
              case hir2q11 => simp only [List.getElem?_toArray, List.getElem?_cons_succ, List.getElem?_cons_zero]; rfl
              case hQr2q11 => exact fun _ _ _ h => h
              case hwr2q11 => rfl
              case hyr2q11 => (intro w hSw; (try dsimp only at hSw); go_simp; (try with_reducible rfl))
              simp only [Act.put, List.setIfInBounds_toArray, List.set_cons_zero, List.set_cons_succ]
              refine wpAnyH_take (i := 12) (oi := ?dqr2q12) (v := ?dvr2q12) ?hir2q12 (by kernel_rfl) (by kernel_rfl) (by kernel_rfl) ?hQr2q12 (Or.inl ⟨?hwr2q12, ?hyr2q12⟩) hS ?hrr2q12
              case hir2q12 => simp only [List.getElem?_toArray, List.getElem?_cons_succ, List.getElem?_cons_zero]; rfl
              case hQr2q12 => exact fun _ _ _ h => h
              case hwr2q12 => rfl
              case hyr2q12 => (intro w hSw; (try dsimp only at hSw); go_simp; (try with_reducible rfl))
              simp only [Act.put, List.setIfInBounds_toArray, List.set_cons_zero, List.set_cons_succ]
              refine wpAnyH_take (i := 13) (oi := ?dqr2q13) (v := ?dvr2q13) ?hir2q13 (by kernel_rfl) (by kernel_rfl) (by kernel_rfl) ?hQr2q13 (Or.inl ⟨?hwr2q13, ?hyr2q13⟩) hS ?hrr2q13
              case hir2q13 => simp only [List.getElem?_toArray, List.getElem?_cons_succ, List.getElem?_cons_zero]; rfl
              case hQr2q13 => exact fun _ _ _ h => h
              case hwr2q13 => rfl
              case hyr2q13 => (intro w hSw; (try dsimp only at hSw); go_simp; (try with_reducible rfl))
              simp only [Act.put, List.setIfInBounds_toArray, List.set_cons_zero, List.set_cons_succ]
              refine wpAnyH_take (i := 14) (oi := ?dqr2q14) (v := ?dvr2q14) ?hir2q14 (by kernel_rfl) (by kernel_rfl) (by kernel_rfl) ?hQr2q14 (Or.inl ⟨?hwr2q14, ?hyr2q14⟩) hS ?hrr2q14
              case hir2q14 => simp only [List.getElem?_toArray, List.getElem?_cons_succ, List.getElem?_cons_zero]; rfl
              case hQr2q14 => exact fun _ _ _ h => h
              case hwr2q14 => rfl
              case hyr2q14 => (intro w hSw; (try dsimp only at hSw); go_simp; (try with_reducible rfl))
              simp only [Act.put, List.setIfInBounds_toArray, List.set_cons_zero, List.set_cons_succ]
              refine wpAnyH_take (i := 15) (oi := ?dqr2q15) (v := ?dvr2q15) ?hir2q15 (by kernel_rfl) (by kernel_rfl) (by kernel_rfl) ?hQr2q15 (Or.inl ⟨?hwr2q15, ?hyr2q15⟩) hS ?hrr2q15
              case hir2q15 => simp only [List.getElem?_toArray, List.getElem?_cons_succ, List.getElem?_cons_zero]; rfl
              case hQr2q15 => exact fun _ _ _ h => h
              case hwr2q15 => rfl
              case hyr2q15 => (intro w hSw; (try dsimp only at hSw); go_simp; (try with_reducible rfl))
              simp only [Act.put, List.setIfInBounds_toArray, List.set_cons_zero, List.set_cons_succ]
              refine wpAnyH_take (i := 16) (oi := ?dqr2q16) (v := ?dvr2q16) ?hir2q16 (by kernel_rfl) (by kernel_rfl) (by kernel_rfl) ?hQr2q16 (Or.inl ⟨?hwr2q16, ?hyr2q16⟩) hS ?hrr2q16
              case hir2q16 => simp only [List.getElem?_toArray, List.getElem?_cons_succ, List.getElem?_cons_zero]; rfl
              case hQr2q16 => exact fun _ _ _ h => h
              case hwr2q16 => rfl
              case hyr2q16 => (intro w hSw; (try dsimp only at hSw); go_simp; (try with_reducible rfl))
              simp only [Act.put, List.setIfInBounds_toArray, List.set_cons_zero, List.set_cons_succ]
              refine wpAnyH_take (i := 17) (oi := ?dqr2q17) (v := ?dvr2q17) ?hir2q17 (by kernel_rfl) (by kernel_rfl) (by kernel_rfl) ?hQr2q17 (Or.inl ⟨?hwr2q17, ?hyr2q17⟩) hS ?hrr2q17
              case hir2q17 => simp only [List.getElem?_toArray, List.getElem?_cons_succ, List.getElem?_cons_zero]; rfl
              case hQr2q17 => exact fun _ _ _ h => h
              case hwr2q17 => rfl
              case hyr2q17 => (intro w hSw; (try dsimp only at hSw); go_simp; (try with_reducible rfl))
              simp only [Act.put, List.setIfInBounds_toArray, List.set_cons_zero, List.set_cons_succ]
              refine wpAnyH_take (i := 18) (oi := ?dqr2q18) (v := ?dvr2q18) ?hir2q18 (by kernel_rfl) (by kernel_rfl) (by kernel_rfl) ?hQr2q18 (Or.inl ⟨?hwr2q18, ?hyr2q18⟩) hS ?hrr2q18
              case hir2q18 => simp only [List.getElem?_toArray, List.getElem?_cons_succ, List.getElem?_cons_zero]; rfl
              case hQr2q18 => exact fun _ _ _ h => h
              case hwr2q18 => rfl
              case hyr2q18 => (intro w hSw; (try dsimp only at hSw); go_simp; (try with_reducible rfl))
              simp only [Act.put, List.setIfInBounds_toArray, List.set_cons_zero, List.set_cons_succ]
              refine wpAnyH_take (i := 19) (oi := ?dqr2q19) (v := ?dvr2q19) ?hir2q19 (by kernel_rfl) (by kernel_rfl) (by kernel_rfl) ?hQr2q19 (Or.inl ⟨?hwr2q19, ?hyr2q19⟩) hS ?hrr2q19
              case hir2q19 => simp only [List.getElem?_toArray, List.getElem?_cons_succ, List.getElem?_cons_zero]; rfl
              case hQr2q19 => exact fun _ _ _ h => h
              case hwr2q19 => rfl
              case hyr2q19 => (intro w hSw; (try dsimp only at hSw); go_simp; (try with_reducible rfl))
              simp only [Act.put, List.setIfInBounds_toArray, List.set_cons_zero, List.set_cons_succ]
              refine wpAnyH_take (i := 20) (oi := ?dqr2q20) (v := ?dvr2q20) ?hir2q20 (by kernel_rfl) (by kernel_rfl) (by kernel_rfl) ?hQr2q20 (Or.inl ⟨?hwr2q20, ?hyr2q20⟩) hS ?hrr2q20
              case hir2q20 => simp only [List.getElem?_toArray, List.getElem?_cons_succ, List.getElem?_cons_zero]; rfl
              case hQr2q20 => exact fun _ _ _ h => h
              case hwr2q20 => rfl
              case hyr2q20 => (intro w hSw; (try dsimp only at hSw); go_simp; (try with_reducible rfl))
              simp only [Act.put, List.setIfInBounds_toArray, List.set_cons_zero, List.set_cons_succ]
              refine wpAnyH_take (i := 21) (oi := ?dqr2q21) (v := ?dvr2q21) ?hir2q21 (by kernel_rfl) (by kernel_rfl) (by kernel_rfl) ?hQr2q21 (Or.inl ⟨?hwr2q21, ?hyr2q21⟩) hS ?hrr2q21
              case hir2q21 => simp only [List.getElem?_toArray, List.getElem?_cons_succ, List.getElem?_cons_zero]; rfl
              case hQr2q21 => exact fun _ _ _ h => h
              case hwr2q21 => rfl
              case hyr2q21 => (intro w hSw; (try dsimp only at hSw); go_simp; (try with_reducible rfl))
              simp only [Act.put, List.setIfInBounds_toArray, List.set_cons_zero, List.set_cons_succ]
              refine wpAnyH_take (i := 22) (oi := ?dqr2q22) (v := ?dvr2q22) ?hir2q22 (by kernel_rfl) (by kernel_rfl) (by kernel_rfl) ?hQr2q22 (Or.inl ⟨?hwr2q22, ?hyr2q22⟩) hS ?hrr2q22
              case hir2q22 => simp only [List.getElem?_toArray, List.getElem?_cons_succ, List.getElem?_cons_zero]; rfl
              case hQr2q22 => exact fun _ _ _ h => h
              case hwr2q22 => rfl
              case hyr2q22 => (intro w hSw; (try dsimp only at hSw); go_simp; (try with_reducible rfl))
              simp only [Act.put, List.setIfInBounds_toArray, List.set_cons_zero, List.set_cons_succ]
              refine wpAnyH_take (i := 23) (oi := ?dqr2q23) (v := ?dvr2q23) ?hir2q23 (by kernel_rfl) (by kernel_rfl) (by kernel_rfl) ?hQr2q23 (Or.inl ⟨?hwr2q23, ?hyr2q23⟩) hS ?hrr2q23
              case hir2q23 => simp only [List.getElem?_toArray, List.getElem?_cons_succ, List.getElem?_cons_zero]; rfl
              case hQr2q23 => exact fun _ _ _ h => h
              case hwr2q23 => rfl
              case hyr2q23 => (intro w hSw; (try dsimp only at hSw); go_simp; (try with_reducible rfl))
              simp only [Act.put, List.setIfInBounds_toArray, List.set_cons_zero, List.set_cons_succ]
              refine wpAnyH_done (by kernel_rfl) ?_ _
              have hb3 := Lib.hid hS.2.2.2.2
              clear hS
              go_wp2_with fail
              go_roundw
              case rel => exact ⟨m + 1, by omega, by go_num, hbq'.out.trans (hb3.out.mono hbq'.out.size), hne⟩
              case measure => simp [intOf]; omega
            | true =>
              have hbf : Hid (b = false) := by
                cases b with
                | false => rfl
                | true =>
                  have h1 := hb'.out.1 rfl
                  have h2 := List.pairwise_iff_getElem.1 h1 m k hml hkl hlm
                  exact absurd (hrk.out.2 ⟨(of_decide_eq_true hx1'.out).symm, (of_decide_eq_true hx2'.out).symm⟩) h2
              go_wp2_with fail
              refine wp_region_held_drew (S := fun W => W.cell? ⟨(ad.add (k * 3)).block, (ad.add (k * 3)).off + 2, none⟩ = some (.int .u64 (P.toNat : Int)) ∧ W.cell? ⟨(ad.add (m * 3)).block, (ad.add (m * 3)).off + 2, none⟩ = some (.int .u64 (Q.toNat : Int)) ∧ W.cell? (ad.add (k * 3)) = some (K a) ∧ W.cell? (ad.add (m * 3)) = some (K b2) ∧ Below wr.heap.size wr W) (by kernel_rfl) ⟨g2, f2, g0, f0, (Below.refl _ wr).drew⟩ (fun hS => ?_)
              refine wpAnyH_take (i := 0) (oi := ?dqr3q0) (v := ?dvr3q0) ?hir3q0 (by kernel_rfl) (by kernel_rfl) (by kernel_rfl) ?hQr3q0 (Or.inl ⟨?hwr3q0, ?hyr3q0⟩) hS ?hrr3q0
              case hir3q0 => simp only [List.getElem?_toArray, List.getElem?_cons_zero]; rfl
              case hQr3q0 => exact fun _ _ _ h => h
              case hwr3q0 => rfl
              case hyr3q0 => (intro w hSw; (try dsimp only at hSw); go_simp; (try with_reducible rfl))
              simp only [Act.put, List.setIfInBounds_toArray, List.set_cons_zero, List.set_cons_succ]
              refine wpAnyH_take (i := 1) (oi := ?dqr3q1) (v := ?dvr3q1) ?hir3q1 (by kernel_rfl) (by kernel_rfl) (by kernel_rfl) ?hQr3q1 (Or.inl ⟨?hwr3q1, ?hyr3q1⟩) hS ?hrr3q1
              case hir3q1 => simp only [List.getElem?_toArray, List.getElem?_cons_succ, List.getElem?_cons_zero]; rfl
              case hQr3q1 => exact fun _ _ _ h => h
              case hwr3q1 => rfl
              case hyr3q1 => (intro w hSw; (try dsimp only at hSw); go_simp; (try with_reducible rfl))
              simp only [Act.put, List.setIfInBounds_toArray, List.set_cons_zero, List.set_cons_succ]
              refine wpAnyH_take (i := 2) (oi := ?dqr3q2) (v := ?dvr3q2) ?hir3q2 (by kernel_rfl) (by kernel_rfl) (by kernel_rfl) ?hQr3q2 (Or.inl ⟨?hwr3q2, ?hyr3q2⟩) hS ?hrr3q2
              case hir3q2 => simp only [List.getElem?_toArray, List.getElem?_cons_succ, List.getElem?_cons_zero]; rfl
              case hQr3q2 => exact fun _ _ _ h => h
              case hwr3q2 => rfl
              case hyr3q2 => (intro w hSw; (try dsimp only at hSw); go_simp; (try with_reducible rfl))
              simp only [Act.put, List.setIfInBounds_toArray, List.set_cons_zero, List.set_cons_succ]
              refine wpAnyH_take (i := 3) (oi := ?dqr3q3) (v := ?dvr3q3) ?hir3q3 (by kernel_rfl) (by kernel_rfl) (by kernel_rfl) ?hQr3q3 (Or.inl ⟨?hwr3q3, ?hyr3q3⟩) hS ?hrr3q3
              case hir3q3 => simp only [List.getElem?_toArray, List.getElem?_cons_succ, List.getElem?_cons_zero]; rfl
              case hQr3q3 => exact fun _ _ _ h => h
              case hwr3q3 => rfl
              case hyr3q3 => (intro w hSw; (try dsimp only at hSw); go_simp; (try with_reducible rfl))
              simp only [Act.put, List.setIfInBounds_toArray, List.set_cons_zero, List.set_cons_succ]
              refine wpAnyH_take (i := 4) (oi := ?dqr3q4) (v := ?dvr3q4) ?hir3q4 (by kernel_rfl) (by kernel_rfl) (by kernel_rfl) ?hQr3q4 (Or.inl ⟨?hwr3q4, ?hyr3q4⟩) hS ?hrr3q4
              case hir3q4 => simp only [List.getElem?_toArray, List.getElem?_cons_succ, List.getElem?_cons_zero]; rfl
              case hQr3q4 => exact fun _ _ _ h => h
              case hwr3q4 => rfl
              case hyr3q4 => (intro w hSw; (try dsimp only at hSw); go_simp; (try with_reducible rfl))
              simp only [Act.put, List.setIfInBounds_toArray, List.set_cons_zero, List.set_cons_succ]
              refine wpAnyH_take (i := 5) (oi := ?dqr3q5) (v := ?dvr3q5) ?hir3q5 (by kernel_rfl) (by kernel_rfl) (by kernel_rfl) ?hQr3q5 (Or.inl ⟨?hwr3q5, ?hyr3q5⟩) hS ?hrr3q5
              case hir3q5 => simp only [List.getElem?_toArray, List.getElem?_cons_succ, List.getElem?_cons_zero]; rfl
              case hQr3q5 => exact fun _ _ _ h => h
              case hwr3q5 => rfl
              case hyr3q5 => (intro w hSw; (try dsimp only at hSw); go_simp; (try with_reducible rfl))
              simp only [Act.put, List.setIfInBounds_toArray, List.set_cons_zero, List.set_cons_succ]
              refine wpAnyH_take (i := 6) (oi := ?dqr3q6) (v := ?dvr3q6) ?hir3q6 (by kernel_rfl) (by kernel_rfl) (by kernel_rfl) ?hQr3q6 (Or.inl ⟨?hwr3q6, ?hyr3q6⟩) hS ?hrr3q6
              case hir3q6 => simp only [List.getElem?_toArray, List.getElem?_cons_succ, List.getElem?_cons_zero]; rfl
              case hQr3q6 => exact fun _ _ _ h => h
              case hwr3q6 => rfl
              case hyr3q6 => (intro w hSw; (try dsimp only at hSw); go_simp; (try with_reducible rfl))
              simp only [Act.put, List.setIfInBounds_toArray, List.set_cons_zero, List.set_cons_succ]
              refine wpAnyH_take (i := 7) (oi := ?dqr3q7) (v := ?dvr3q7) ?hir3q7 (by kernel_rfl) (by kernel_rfl) (by kernel_rfl) ?hQr3q7 (Or.inl ⟨?hwr3q7, ?hyr3q7⟩) hS ?hrr3q7
              case hir3q7 => simp only [List.getElem?_toArray, List.getElem?_cons_succ, List.getElem?_cons_zero]; rfl
              case hQr3q7 => exact fun _ _ _ h => h
              case hwr3q7 => rfl
              case hyr3q7 => (intro w hSw; (try dsimp only at hSw); go_simp; (try with_reducible rfl))
              simp only [Act.put, List.setIfInBounds_toArray, List.set_cons_zero, List.set_cons_succ]
              refine wpAnyH_take (i := 8) (oi := ?dqr3q8) (v := ?dvr3q8) ?hir3q8 (by kernel_rfl) (by kernel_rfl) (by kernel_rfl) ?hQr3q8 (Or.inl ⟨?hwr3q8, ?hyr3q8⟩) hS ?hrr3q8
              case hir3q8 => simp only [List.getElem?_toArray, List.getElem?_cons_succ, List.getElem?_cons_zero]; rfl
              case hQr3q8 => exact fun _ _ _ h => h
              case hwr3q8 => rfl
              case hyr3q8 => (intro w hSw; (try dsimp only at hSw); go_simp; (try with_reducible rfl))
              simp only [Act.put, List.setIfInBounds_toArray, List.set_cons_zero, List.set_cons_succ]
              refine wpAnyH_take (i := 9) (oi := ?dqr3q9) (v := ?dvr3q9) ?hir3q9 (by kernel_rfl) (by kernel_rfl) (by kernel_rfl) ?hQr3q9 (Or.inl ⟨?hwr3q9, ?hyr3q9⟩) hS ?hrr3q9
              case hir3q9 => simp only [List.getElem?_toArray, List.getElem?_cons_succ, List.getElem?_cons_zero]; rfl
              case hQr3q9 => exact fun _ _ _ h => h
              case hwr3q9 => rfl
              case hyr3q9 => (intro w hSw; (try dsimp only at hSw); go_simp; (try with_reducible rfl))
              simp only [Act.put, List.setIfInBounds_toArray, List.set_cons_zero, List.set_cons_succ]
              refine wpAnyH_take (i := 10) (oi := ?dqr3q10) (v := ?dvr3q10) ?hir3q10 (by kernel_rfl) (by kernel_rfl) (by kernel_rfl) ?hQr3q10 (Or.inl ⟨?hwr3q10, ?hyr3q10⟩) hS ?hrr3q10
              case hir3q10 => simp only [List.getElem?_toArray, List.getElem?_cons_succ, List.getElem?_cons_zero]; rfl
              case hQr3q10 => exact fun _ _ _ h => h
              case hwr3q10 => rfl
              case hyr3q10 => (intro w hSw; (try dsimp only at hSw); go_simp; (try with_reducible rfl))
              simp only [Act.put, List.setIfInBounds_toArray, List.set_cons_zero, List.set_cons_succ]
              refine wpAnyH_take (i := 11) (oi := ?dqr3q11) (v := ?dvr3q11) ?hir3q11 (by kernel_rfl) (by kernel_rfl) (by kernel_rfl) ?hQr3q11 (Or.inl ⟨?hwr3q11, ?hyr3q11⟩) hS ?hrr3q11
              case hir3q11 => simp only [List.getElem?_toArray, List.getElem?_cons_succ, List.getElem?_cons_zero]; rfl
              case hQr3q11 => exact fun _ _ _ h => h
              case hwr3q11 => rfl
              case hyr3q11 => (intro w hSw; (try dsimp only at hSw); go_simp; (try with_reducible rfl))
              simp only [Act.put, List.setIfInBounds_toArray, List.set_cons_zero, List.set_cons_succ]
              refine wpAnyH_take (i := 12) (oi := ?dqr3q12) (v := ?dvr3q12) ?hir3q12 (by kernel_rfl) (by kernel_rfl) (by kernel_rfl) ?hQr3q12 (Or.inl ⟨?hwr3q12, ?hyr3q12⟩) hS ?hrr3q12
              case hir3q12 => simp only [List.getElem?_toArray, List.getElem?_cons_succ, List.getElem?_cons_zero]; rfl
              case hQr3q12 => exact fun _ _ _ h => h
              case hwr3q12 => rfl
              case hyr3q12 => (intro w hSw; (try dsimp only at hSw); go_simp; (try with_reducible rfl))
              simp only [Act.put, List.setIfInBounds_toArray, List.set_cons_zero, List.set_cons_succ]
              refine wpAnyH_take (i := 13) (oi := ?dqr3q13) (v := ?dvr3q13) ?hir3q13 (by kernel_rfl) (by kernel_rfl) (by kernel_rfl) ?hQr3q13 (Or.inl ⟨?hwr3q13, ?hyr3q13⟩) hS ?hrr3q13
              case hir3q13 => simp only [List.getElem?_toArray, List.getElem?_cons_succ, List.getElem?_cons_zero]; rfl
              case hQr3q13 => exact fun _ _ _ h => h
              case hwr3q13 => rfl
              case hyr3q13 => (intro w hSw; (try dsimp only at hSw); go_simp; (try with_reducible rfl))
              simp only [Act.put, List.setIfInBounds_toArray, List.set_cons_zero, List.set_cons_succ]
              refine wpAnyH_take (i := 14) (oi := ?dqr3q14) (v := ?dvr3q14) ?hir3q14 (by kernel_rfl) (by kernel_rfl) (by kernel_rfl) ?hQr3q14 (Or.inl ⟨?hwr3q14, ?hyr3q14⟩) hS ?hrr3q14
              case hir3q14 => simp only [List.getElem?_toArray, List.getElem?_cons_succ, List.getElem?_cons_zero]; rfl
              case hQr3q14 => exact fun _ _ _ h => h
              case hwr3q14 => rfl
              case hyr3q14 => (intro w hSw; (try dsimp only at hSw); go_simp; (try with_reducible rfl))
              simp only [Act.put, List.setIfInBounds_toArray, List.set_cons_zero, List.set_cons_succ]
              refine wpAnyH_take (i := 15) (oi := ?dqr3q15) (v := ?dvr3q15) ?hir3q15 (by kernel_rfl) (by kernel_rfl) (by kernel_rfl) ?hQr3q15 (Or.inl ⟨?hwr3q15, ?hyr3q15⟩) hS ?hrr3q15
              case hir3q15 => simp only [List.getElem?_toArray, List.getElem?_cons_succ, List.getElem?_cons_zero]; rfl
              case hQr3q15 => exact fun _ _ _ h => h
              case hwr3q15 => rfl
              case hyr3q15 => (intro w hSw; (try dsimp only at hSw); go_simp; (try with_reducible rfl))
              simp only [Act.put, List.setIfInBounds_toArray, List.set_cons_zero, List.set_cons_succ]
              refine wpAnyH_take (i := 16) (oi := ?dqr3q16) (v := ?dvr3q16) ?hir3q16 (by kernel_rfl) (by kernel_rfl) (by kernel_rfl) ?hQr3q16 (Or.inl ⟨?hwr3q16, ?hyr3q16⟩) hS ?hrr3q16
              case hir3q16 => simp only [List.getElem?_toArray, List.getElem?_cons_succ, List.getElem?_cons_zero]; rfl
              case hQr3q16 => exact fun _ _ _ h => h
              case hwr3q16 => rfl
              case hyr3q16 => (intro w hSw; (try dsimp only at hSw); go_simp; (try with_reducible rfl))
              simp only [Act.put, List.setIfInBounds_toArray, List.set_cons_zero, List.set_cons_succ]
              refine wpAnyH_take (i := 17) (oi := ?dqr3q17) (v := ?dvr3q17) ?hir3q17 (by kernel_rfl) (by kernel_rfl) (by kernel_rfl) ?hQr3q17 (Or.inl ⟨?hwr3q17, ?hyr3q17⟩) hS ?hrr3q17
              case hir3q17 => simp only [List.getElem?_toArray, List.getElem?_cons_succ, List.getElem?_cons_zero]; rfl
              case hQr3q17 => exact fun _ _ _ h => h
              case hwr3q17 => rfl
              case hyr3q17 => (intro w hSw; (try dsimp only at hSw); go_simp; (try with_reducible rfl))
              simp only [Act.put, List.setIfInBounds_toArray, List.set_cons_zero, List.set_cons_succ]
              refine wpAnyH_take (i := 18) (oi := ?dqr3q18) (v := ?dvr3q18) ?hir3q18 (by kernel_rfl) (by kernel_rfl) (by kernel_rfl) ?hQr3q18 (Or.inl ⟨?hwr3q18, ?hyr3q18⟩) hS ?hrr3q18
              case hir3q18 => simp only [List.getElem?_toArray, List.getElem?_cons_succ, List.getElem?_cons_zero]; rfl
              case hQr3q18 => exact fun _ _ _ h => h
              case hwr3q18 => rfl
              case hyr3q18 => (intro w hSw; (try dsimp only at hSw); go_simp; (try with_reducible rfl))
              simp only [Act.put, List.setIfInBounds_toArray, List.set_cons_zero, List.set_cons_succ]
              refine wpAnyH_take (i := 19) (oi := ?dqr3q19) (v := ?dvr3q19) ?hir3q19 (by kernel_rfl) (by kernel_rfl) (by kernel_rfl) ?hQr3q19 (Or.inl ⟨?hwr3q19, ?hyr3q19⟩) hS ?hrr3q19
              case hir3q19 => simp only [List.getElem?_toArray, List.getElem?_cons_succ, List.getElem?_cons_zero]; rfl
              case hQr3q19 => exact fun _ _ _ h => h
              case hwr3q19 => rfl
              case hyr3q19 => (intro w hSw; (try dsimp only at hSw); go_simp; (try with_reducible rfl))
              simp only [Act.put, List.setIfInBounds_toArray, List.set_cons_zero, List.set_cons_succ]
              refine wpAnyH_take (i := 20) (oi := ?dqr3q20) (v := ?dvr3q20) ?hir3q20 (by kernel_rfl) (by kernel_rfl) (by kernel_rfl) ?hQr3q20 (Or.inl ⟨?hwr3q20, ?hyr3q20⟩) hS ?hrr3q20
              case hir3q20 => simp only [List.getElem?_toArray, List.getElem?_cons_succ, List.getElem?_cons_zero]; rfl
              case hQr3q20 => exact fun _ _ _ h => h
              case hwr3q20 => rfl
              case hyr3q20 => (intro w hSw; (try dsimp only at hSw); go_simp; (try with_reducible rfl))
              simp only [Act.put, List.setIfInBounds_toArray, List.set_cons_zero, List.set_cons_succ]
              refine wpAnyH_take (i := 21) (oi := ?dqr3q21) (v := ?dvr3q21) ?hir3q21 (by kernel_rfl) (by kernel_rfl) (by kernel_rfl) ?hQr3q21 (Or.inl ⟨?hwr3q21, ?hyr3q21⟩) hS ?hrr3q21
              case hir3q21 => simp only [List.getElem?_toArray, List.getElem?_cons_succ, List.getElem?_cons_zero]; rfl
              case hQr3q21 => exact fun _ _ _ h => h
              case hwr3q21 => rfl
              case hyr3q21 => (intro w hSw; (try dsimp only at hSw); go_simp; (try with_reducible rfl))
              simp only [Act.put, List.setIfInBounds_toArray, List.set_cons_zero, List.set_cons_succ]
              refine wpAnyH_take (i := 22) (oi := ?dqr3q22) (v := ?dvr3q22) ?hir3q22 (by kernel_rfl) (by kernel_rfl) (by kernel_rfl) ?hQr3q22 (Or.inl ⟨?hwr3q22, ?hyr3q22⟩) hS ?hrr3q22
              case hir3q22 => simp only [List.getElem?_toArray, List.getElem?_cons_succ, List.getElem?_cons_zero]; rfl
              case hQr3q22 => exact fun _ _ _ h => h
              case hwr3q22 => rfl
              case hyr3q22 => (intro w hSw; (try dsimp only at hSw); go_simp; (try with_reducible rfl))
              simp only [Act.put, List.setIfInBounds_toArray, List.set_cons_zero, List.set_cons_succ]
              refine wpAnyH_take (i := 23) (oi := ?dqr3q23) (v := ?dvr3q23) ?hir3q23 (by kernel_rfl) (by kernel_rfl) (by kernel_rfl) ?hQr3q23 (Or.inl ⟨?hwr3q23, ?hyr3q23⟩) hS ?hrr3q23
              case hir3q23 => simp only [List.getElem?_toArray, List.getElem?_cons_succ, List.getElem?_cons_zero]; rfl
              case hQr3q23 => exact fun _ _ _ h => h
              case hwr3q23 => rfl
              case hyr3q23 => (intro w hSw; (try dsimp only at hSw); go_simp; (try with_reducible rfl))
              simp only [Act.put, List.setIfInBounds_toArray, List.set_cons_zero, List.set_cons_succ]
              refine wpAnyH_done (by kernel_rfl) ?_ _
              have hb3 := Lib.hid hS.2.2.2.2
              clear hS
              go_wp2_with fail
              go_ret
              exact ⟨by rw [hbf.out]; rfl, hbq'.out.trans (hb3.out.mono hbq'.out.size)⟩
        · have hnext : Hid (Unl (l.take (k + 1))) := (unl_take hkl).2 ⟨he.out, fun j hj e => hq.out j (by omega) (by rw [List.getElem?_eq_getElem (by omega), Option.map_some, e])⟩
          go_wp2
          go_roundw
          case rel => exact ⟨k + 1, by omega, by go_num, hbq'.out, hnext⟩
          case measure => simp [intOf]; omega
    · have hbt : Hid (b = true) := by
        obtain rfl : k = n := by omega
        have h1 := he.out
        rw [List.take_of_length_le (by rw [hl'.out]; exact Nat.le_refl _)] at h1
        exact hb'.out.2 h1
      go_wp2
      go_ret
      exact ⟨by rw [hbt.out]; rfl, hbw'.out⟩
set_option maxHeartbeats 2000000 in
theorem sameI20_any (A A' : Option Addr) (n m c c' : Nat) (l l' : List It) (b : Bool) (hb : b = true ↔ l = l') (w : World) (h : LieI w w.heap.size A n c l) (q : LieI w w.heap.size A' m c' l') : Calls Tryd.prog 14 #[.slice A n c, .slice A' m c'] w fun e w' => e = .returned (.bool b) ∧ Below w.heap.size w w' := by
  have h' := Lib.hid h
  have q' := Lib.hid q
  have hl' := Lib.hid h.len
  have ql' := Lib.hid q.len
  have hb' := Lib.hid hb
  have hf := h.few
  have qf := q.few
  clear h q hb
  by_cases hnm : n = m
  · subst hnm
    go_enter Tryd.func14, Tryd.ntmps14
    go_wp2
    go_loopw [5] (fun i wr => ∃ k : Nat, k ≤ n ∧ i = .int .i64 k ∧ Below w.heap.size w wr ∧ Hid (l.take k = l'.take k)) (fun i _ => n - (intOf i).toNat)
    case atStart => exact ⟨0, Nat.zero_le _, rfl, Below.refl _ _, by show l.take 0 = l'.take 0; simp⟩
    case round =>
      obtain ⟨k, hk, rfl, hbw, he⟩ := hrel
      have hbw' := Lib.hid hbw
      clear hbw
      by_cases hlt : k < n
      · have hkl : k < l.length := by rw [hl'.out]; exact hlt
        have hkq : k < l'.length := by rw [ql'.out]; exact hlt
        obtain ⟨ad, rfl, hb2, g0, g1, g2⟩ := item_at (h'.out.next hbw'.out) k hkl
        obtain ⟨ad', rfl, hb3, f0, f1, f2⟩ := item_at (q'.out.next hbw'.out) k hkq
        have hne := item_neq l[k] l'[k]
        obtain ⟨r, hr⟩ : ∃ r, (!decide (l[k] = l'[k])) = r := ⟨_, rfl⟩
        have hr' := Lib.hid hr
        rw [hr] at hne
        clear hr
        go_wp2
        go_quiet (fail)
        cases r with
        | false =>
          have hnx : Hid (l.take (k + 1) = l'.take (k + 1)) := by
            have hx : l[k] = l'[k] := by simpa using hr'.out
            show l.take (k + 1) = l'.take (k + 1)
            rw [List.take_succ_eq_append_getElem hkl, List.take_succ_eq_append_getElem hkq, he.out, hx]
          go_wp2
          go_roundw
          case rel => exact ⟨k + 1, by omega, by go_num, below_drewN hbw'.out _, hnx⟩
          case measure => simp [intOf]; omega
        | true =>
          have hbf : Hid (b = false) := by
            cases b with
            | false => rfl
            | true => have := hb'.out.1 rfl; subst this; have := hr'.out; simp at this
          go_wp2
          go_ret
          exact ⟨by rw [hbf.out]; rfl, below_drewN hbw'.out _⟩
      · have hbt : Hid (b = true) := by
          obtain rfl : k = n := by omega
          have h1 := he.out
          rw [List.take_of_length_le (by rw [hl'.out]; exact Nat.le_refl _), List.take_of_length_le (by rw [ql'.out]; exact Nat.le_refl _)] at h1
          exact hb'.out.2 h1
        go_wp2
        go_ret
        exact ⟨by rw [hbt.out]; rfl, hbw'.out⟩
  · have hbf : Hid (b = false) := by
      cases b with
      | false => rfl
      | true => exact absurd (by rw [← hl'.out, ← ql'.out, hb'.out.1 rfl]) hnm
    go_enter Tryd.func14, Tryd.ntmps14
    go_wp2
    go_ret
    exact ⟨by rw [hbf.out]; rfl, Below.refl _ _⟩
end Go.Proofs.YtcnkgddldhkddaaDoor
/- The document's own answers of layer 20: over, Check, May. Made by wip/gen/layer20ref.py. -/
namespace Go.Proofs.YtcnkgddldhkddaaDoor
open Go.RowKit Go.Proofs.Treem
set_option maxRecDepth 100000

set_option maxHeartbeats 8000000 in
theorem refOver20 (t : Tr) (A : Option Addr) (n c B : Nat) (l : List Bd) (hl : l.map strip = t.pre) (x : Bd) (w : World) (hB : B ≤ w.heap.size) (h : LieB w B A n c l) :
    Calls Tryd.prog 34 #[.slice A n c, bdV x] w fun e w' => e = .returned (.bool (overT t ⟨x.key, x.val, x.tag⟩)) ∧ Below w.heap.size w w' := by
  cases t with
  | e =>
    obtain rfl : l = [] := by simpa [Tr.pre] using hl
    obtain rfl : n = 0 := h.len.symm
    clear h hl
    go_enter Tryd.func34, Tryd.ntmps34
    go_wp2_with fail
    obtain ⟨W2, hW2⟩ : ∃ W2, w.alloc (.cells #[K x.key, K x.val, K x.sum, K x.size, G64 x.tag, .bool x.left, .bool x.right] 52) = W2 := ⟨_, rfl⟩
    have b2 : Hid (Below w.heap.size w W2) := hW2 ▸ (Below.refl _ _).alloc (Nat.le_refl _) _
    rw [hW2]
    clear hW2
    refine wp_region_held_drew (S := fun W => Below W2.heap.size W2 W) (by kernel_rfl) (Below.refl _ W2).drew (fun hS => ?_)
    refine wpAnyH_take (i := 0) (oi := ?dqr4q0) (v := ?dvr4q0) ?hir4q0 (by kernel_rfl) (by kernel_rfl) (by kernel_rfl) ?hQr4q0 (Or.inl ⟨?hwr4q0, ?hyr4q0⟩) hS ?hrr4q0
    case hir4q0 => simp only [List.getElem?_toArray, List.getElem?_cons_zero]; rfl
    case hQr4q0 => exact fun _ _ _ h => h
    case hwr4q0 => rfl
    case hyr4q0 => (intro w hSw; (try dsimp only at hSw); go_simp; (try with_reducible rfl))
    simp only [Act.put, List.setIfInBounds_toArray, List.set_cons_zero, List.set_cons_succ]
    refine wpAnyH_take (i := 1) (oi := ?dqr4q1) (v := ?dvr4q1) ?hir4q1 (by kernel_rfl) (by kernel_rfl) (by kernel_rfl) ?hQr4q1 (Or.inl ⟨?hwr4q1, ?hyr4q1⟩) hS ?hrr4q1
    case hir4q1 => simp only [List.getElem?_toArray, List.getElem?_cons_succ, List.getElem?_cons_zero]; rfl
    case hQr4q1 => exact fun _ _ _ h => h
    case hwr4q1 => rfl
    case hyr4q1 => (intro w hSw; (try dsimp only at hSw); go_simp; (try with_reducible rfl))
    simp only [Act.put, List.setIfInBounds_toArray, List.set_cons_zero, List.set_cons_succ]
    refine wpAnyH_take (i := 2) (oi := ?dqr4q2) (v := ?dvr4q2) ?hir4q2 (by kernel_rfl) (by kernel_rfl) (by kernel_rfl) ?hQr4q2 (Or.inl ⟨?hwr4q2, ?hyr4q2⟩) hS ?hrr4q2
    case hir4q2 => simp only [List.getElem?_toArray, List.getElem?_cons_succ, List.getElem?_cons_zero]; rfl
    case hQr4q2 => exact fun _ _ _ h => h
    case hwr4q2 => rfl
    case hyr4q2 => (intro w hSw; (try dsimp only at hSw); go_simp; (try with_reducible rfl))
    simp only [Act.put, List.setIfInBounds_toArray, List.set_cons_zero, List.set_cons_succ]
    refine wpAnyH_take (i := 3) (oi := ?dqr4q3) (v := ?dvr4q3) ?hir4q3 (by kernel_rfl) (by kernel_rfl) (by kernel_rfl) ?hQr4q3 (Or.inl ⟨?hwr4q3, ?hyr4q3⟩) hS ?hrr4q3
    case hir4q3 => simp only [List.getElem?_toArray, List.getElem?_cons_succ, List.getElem?_cons_zero]; rfl
    case hQr4q3 => exact fun _ _ _ h => h
    case hwr4q3 => rfl
    case hyr4q3 => (intro w hSw; (try dsimp only at hSw); go_simp; (try with_reducible rfl))
    simp only [Act.put, List.setIfInBounds_toArray, List.set_cons_zero, List.set_cons_succ]
    refine wpAnyH_take (i := 4) (oi := ?dqr4q4) (v := undef) ?hir4q4 (by kernel_rfl) (by kernel_rfl) (by kernel_rfl) ?hQr4q4 (Or.inr ⟨?hwr4q4, rfl⟩) hS ?hrr4q4
    case hir4q4 => simp only [List.getElem?_toArray, List.getElem?_cons_succ, List.getElem?_cons_zero]; rfl
    case hQr4q4 => exact fun _ _ _ h => h
    case hwr4q4 => rfl
    simp only [Act.put, List.setIfInBounds_toArray, List.set_cons_zero, List.set_cons_succ]
    refine wpAnyH_take (i := 5) (oi := ?dqr4q5) (v := undef) ?hir4q5 (by kernel_rfl) (by kernel_rfl) (by kernel_rfl) ?hQr4q5 (Or.inr ⟨?hwr4q5, rfl⟩) hS ?hrr4q5
    case hir4q5 => simp only [List.getElem?_toArray, List.getElem?_cons_succ, List.getElem?_cons_zero]; rfl
    case hQr4q5 => exact fun _ _ _ h => h
    case hwr4q5 => rfl
    simp only [Act.put, List.setIfInBounds_toArray, List.set_cons_zero, List.set_cons_succ]
    refine wpAnyH_take (i := 6) (oi := ?dqr4q6) (v := undef) ?hir4q6 (by kernel_rfl) (by kernel_rfl) (by kernel_rfl) ?hQr4q6 (Or.inr ⟨?hwr4q6, rfl⟩) hS ?hrr4q6
    case hir4q6 => simp only [List.getElem?_toArray, List.getElem?_cons_succ, List.getElem?_cons_zero]; rfl
    case hQr4q6 => exact fun _ _ _ h => h
    case hwr4q6 => rfl
    simp only [Act.put, List.setIfInBounds_toArray, List.set_cons_zero, List.set_cons_succ]
    refine wpAnyH_take (i := 7) (oi := ?dqr4q7) (v := undef) ?hir4q7 (by kernel_rfl) (by kernel_rfl) (by kernel_rfl) ?hQr4q7 (Or.inr ⟨?hwr4q7, rfl⟩) hS ?hrr4q7
    case hir4q7 => simp only [List.getElem?_toArray, List.getElem?_cons_succ, List.getElem?_cons_zero]; rfl
    case hQr4q7 => exact fun _ _ _ h => h
    case hwr4q7 => rfl
    simp only [Act.put, List.setIfInBounds_toArray, List.set_cons_zero, List.set_cons_succ]
    refine wpAnyH_take (i := 8) (oi := ?dqr4q8) (v := undef) ?hir4q8 (by kernel_rfl) (by kernel_rfl) (by kernel_rfl) ?hQr4q8 (Or.inr ⟨?hwr4q8, rfl⟩) hS ?hrr4q8
    case hir4q8 => simp only [List.getElem?_toArray, List.getElem?_cons_succ, List.getElem?_cons_zero]; rfl
    case hQr4q8 => exact fun _ _ _ h => h
    case hwr4q8 => rfl
    simp only [Act.put, List.setIfInBounds_toArray, List.set_cons_zero, List.set_cons_succ]
    refine wpAnyH_take (i := 9) (oi := ?dqr4q9) (v := undef) ?hir4q9 (by kernel_rfl) (by kernel_rfl) (by kernel_rfl) ?hQr4q9 (Or.inr ⟨?hwr4q9, rfl⟩) hS ?hrr4q9
    case hir4q9 => simp only [List.getElem?_toArray, List.getElem?_cons_succ, List.getElem?_cons_zero]; rfl
    case hQr4q9 => exact fun _ _ _ h => h
    case hwr4q9 => rfl
    simp only [Act.put, List.setIfInBounds_toArray, List.set_cons_zero, List.set_cons_succ]
    refine wpAnyH_take (i := 10) (oi := ?dqr4q10) (v := undef) ?hir4q10 (by kernel_rfl) (by kernel_rfl) (by kernel_rfl) ?hQr4q10 (Or.inr ⟨?hwr4q10, rfl⟩) hS ?hrr4q10
    case hir4q10 => simp only [List.getElem?_toArray, List.getElem?_cons_succ, List.getElem?_cons_zero]; rfl
    case hQr4q10 => exact fun _ _ _ h => h
    case hwr4q10 => rfl
    simp only [Act.put, List.setIfInBounds_toArray, List.set_cons_zero, List.set_cons_succ]
    refine wpAnyH_take (i := 11) (oi := ?dqr4q11) (v := ?dvr4q11) ?hir4q11 (by kernel_rfl) (by kernel_rfl) (by kernel_rfl) ?hQr4q11 (Or.inl ⟨?hwr4q11, ?hyr4q11⟩) hS ?hrr4q11
    case hir4q11 => simp only [List.getElem?_toArray, List.getElem?_cons_succ, List.getElem?_cons_zero]; rfl
    case hQr4q11 => exact fun _ _ _ h => h
    case hwr4q11 => rfl
    case hyr4q11 => (intro w hSw; (try dsimp only at hSw); go_simp; (try with_reducible rfl))
    simp only [Act.put, List.setIfInBounds_toArray, List.set_cons_zero, List.set_cons_succ]
    refine wpAnyH_take (i := 12) (oi := ?dqr4q12) (v := ?dvr4q12) ?hir4q12 (by kernel_rfl) (by kernel_rfl) (by kernel_rfl) ?hQr4q12 (Or.inl ⟨?hwr4q12, ?hyr4q12⟩) hS ?hrr4q12
    case hir4q12 => simp only [List.getElem?_toArray, List.getElem?_cons_succ, List.getElem?_cons_zero]; rfl
    case hQr4q12 => exact fun _ _ _ h => h
    case hwr4q12 => rfl
    case hyr4q12 => (intro w hSw; (try dsimp only at hSw); go_simp; (try with_reducible rfl))
    simp only [Act.put, List.setIfInBounds_toArray, List.set_cons_zero, List.set_cons_succ]
    refine wpAnyH_done (by kernel_rfl) ?_ _
    have b3 := Lib.hid (Below.after b2.out hS)
    clear hS
    go_wp2_with fail
    go_ret
    exact ⟨rfl, b3.out⟩
  | n tl k v g tr =>
    obtain ⟨y, la, lb, rfl, hx, -, -, -, -⟩ := parts_of hl
    have hn : n = 1 + (la ++ lb).length := by have := h.len; simp only [List.length_cons] at this; omega
    have hyi : (⟨y.key, y.val, y.tag⟩ : It) = ⟨k, v, g⟩ := by
      have h1 : y.key = k := congrArg St.key hx
      have h2 : y.val = v := congrArg St.val hx
      have h3 : y.tag = g := congrArg St.tag hx
      rw [h1, h2, h3]
    have cI := Lib.hid (fun w => refItem20 y w)
    have cJ := Lib.hid (fun w => refItem20 x w)
    have cA := Lib.hid (fun w => refAbove20 ⟨k, v, g⟩ ⟨x.key, x.val, x.tag⟩ w)
    rw [hyi] at cI
    have h' := Lib.hid h
    have d1 : 0 < n := by omega
    have d2 : decide ((0 : Int) < (n : Int)) = true := decide_eq_true (by omega)
    show Calls _ _ _ _ fun e w' => e = .returned (.bool (aboveI ⟨k, v, g⟩ ⟨x.key, x.val, x.tag⟩)) ∧ _
    obtain ⟨r, hr⟩ : ∃ r, aboveI ⟨k, v, g⟩ ⟨x.key, x.val, x.tag⟩ = r := ⟨_, rfl⟩
    rw [hr] at cA ⊢
    clear h hl hx hyi hn hr
    go_enter Tryd.func34, Tryd.ntmps34
    go_wp2_with fail
    obtain ⟨W2, hW2⟩ : ∃ W2, w.alloc (.cells #[K x.key, K x.val, K x.sum, K x.size, G64 x.tag, .bool x.left, .bool x.right] 52) = W2 := ⟨_, rfl⟩
    have gx : Has W2 w.heap.size 52 #[K x.key, K x.val, K x.sum, K x.size, G64 x.tag, .bool x.left, .bool x.right] := hW2 ▸ Has.new w _ _
    have bb : Below w.heap.size w W2 := hW2 ▸ (Below.refl _ _).alloc (Nat.le_refl _) _
    have b2 := Lib.hid bb
    have hq := h'.out.next (bb.mono hB)
    obtain ⟨ad, rfl, hadB, g0, g1, g2, g3, g4, g5, g6⟩ := bead_at hq 0 (by simp)
    simp only [List.getElem_cons_zero] at g0 g1 g2 g3 g4 g5 g6
    have e0 : ad.add (0 * 7) = ad := by simp [Addr.add]
    rw [e0] at g0 g1 g2 g3 g4 g5 g6
    rw [hW2]
    clear hW2 bb hq
    obtain ⟨p, hp⟩ : ∃ p, w.heap.size = p := ⟨_, rfl⟩
    rw [hp] at gx ⊢
    clear hp
    obtain ⟨f0, f1, f2, f3, f4, f5, f6⟩ := gx.seven
    clear gx h'
    refine wp_region_held_drew (S := fun W => W.cell? ad = some (K y.key) ∧ W.cell? ⟨ad.block, ad.off + 1, none⟩ = some (K y.val) ∧ W.cell? ⟨ad.block, ad.off + 2, none⟩ = some (K y.sum) ∧ W.cell? ⟨ad.block, ad.off + 3, none⟩ = some (K y.size) ∧ W.cell? ⟨ad.block, ad.off + 4, none⟩ = some (G64 y.tag) ∧ W.cell? ⟨ad.block, ad.off + 5, none⟩ = some (.bool y.left) ∧ W.cell? ⟨ad.block, ad.off + 6, none⟩ = some (.bool y.right) ∧ W.cell? ⟨p, 0, none⟩ = some (K x.key) ∧ W.cell? ⟨p, 1, none⟩ = some (K x.val) ∧ W.cell? ⟨p, 2, none⟩ = some (K x.sum) ∧ W.cell? ⟨p, 3, none⟩ = some (K x.size) ∧ W.cell? ⟨p, 4, none⟩ = some (G64 x.tag) ∧ W.cell? ⟨p, 5, none⟩ = some (.bool x.left) ∧ W.cell? ⟨p, 6, none⟩ = some (.bool x.right) ∧ Below W2.heap.size W2 W) (by kernel_rfl) ⟨g0, g1, g2, g3, g4, g5, g6, f0, f1, f2, f3, f4, f5, f6, (Below.refl _ W2).drew⟩ (fun hS => ?_)
    refine wpAnyH_take (i := 0) (oi := ?dqr5q0) (v := ?dvr5q0) ?hir5q0 (by kernel_rfl) (by kernel_rfl) (by kernel_rfl) ?hQr5q0 (Or.inl ⟨?hwr5q0, ?hyr5q0⟩) hS ?hrr5q0
    case hir5q0 => simp only [List.getElem?_toArray, List.getElem?_cons_zero]; rfl
    case hQr5q0 => exact fun _ _ _ h => h
    case hwr5q0 => rfl
    case hyr5q0 => (intro w hSw; (try dsimp only at hSw); go_simp; (try with_reducible rfl))
    simp only [Act.put, List.setIfInBounds_toArray, List.set_cons_zero, List.set_cons_succ]
    refine wpAnyH_take (i := 1) (oi := ?dqr5q1) (v := ?dvr5q1) ?hir5q1 (by kernel_rfl) (by kernel_rfl) (by kernel_rfl) ?hQr5q1 (Or.inl ⟨?hwr5q1, ?hyr5q1⟩) hS ?hrr5q1
    case hir5q1 => simp only [List.getElem?_toArray, List.getElem?_cons_succ, List.getElem?_cons_zero]; rfl
    case hQr5q1 => exact fun _ _ _ h => h
    case hwr5q1 => rfl
    case hyr5q1 => (intro w hSw; (try dsimp only at hSw); go_simp; (try with_reducible rfl))
    simp only [Act.put, List.setIfInBounds_toArray, List.set_cons_zero, List.set_cons_succ]
    refine wpAnyH_take (i := 2) (oi := ?dqr5q2) (v := ?dvr5q2) ?hir5q2 (by kernel_rfl) (by kernel_rfl) (by kernel_rfl) ?hQr5q2 (Or.inl ⟨?hwr5q2, ?hyr5q2⟩) hS ?hrr5q2
    case hir5q2 => simp only [List.getElem?_toArray, List.getElem?_cons_succ, List.getElem?_cons_zero]; rfl
    case hQr5q2 => exact fun _ _ _ h => h
    case hwr5q2 => rfl
    case hyr5q2 => (intro w hSw; (try dsimp only at hSw); go_simp; (try with_reducible rfl))
    simp only [Act.put, List.setIfInBounds_toArray, List.set_cons_zero, List.set_cons_succ]
    refine wpAnyH_take (i := 3) (oi := ?dqr5q3) (v := ?dvr5q3) ?hir5q3 (by kernel_rfl) (by kernel_rfl) (by kernel_rfl) ?hQr5q3 (Or.inl ⟨?hwr5q3, ?hyr5q3⟩) hS ?hrr5q3
    case hir5q3 => simp only [List.getElem?_toArray, List.getElem?_cons_succ, List.getElem?_cons_zero]; rfl
    case hQr5q3 => exact fun _ _ _ h => h
    case hwr5q3 => rfl
    case hyr5q3 => (intro w hSw; (try dsimp only at hSw); go_simp; (try with_reducible rfl))
    simp only [Act.put, List.setIfInBounds_toArray, List.set_cons_zero, List.set_cons_succ]
    refine wpAnyH_take (i := 4) (oi := ?dqr5q4) (v := ?dvr5q4) ?hir5q4 (by kernel_rfl) (by kernel_rfl) (by kernel_rfl) ?hQr5q4 (Or.inl ⟨?hwr5q4, ?hyr5q4⟩) hS ?hrr5q4
    case hir5q4 => simp only [List.getElem?_toArray, List.getElem?_cons_succ, List.getElem?_cons_zero]; rfl
    case hQr5q4 => exact fun _ _ _ h => h
    case hwr5q4 => rfl
    case hyr5q4 => (intro w hSw; (try dsimp only at hSw); go_simp; (try with_reducible rfl))
    simp only [Act.put, List.setIfInBounds_toArray, List.set_cons_zero, List.set_cons_succ]
    refine wpAnyH_take (i := 5) (oi := ?dqr5q5) (v := ?dvr5q5) ?hir5q5 (by kernel_rfl) (by kernel_rfl) (by kernel_rfl) ?hQr5q5 (Or.inl ⟨?hwr5q5, ?hyr5q5⟩) hS ?hrr5q5
    case hir5q5 => simp only [List.getElem?_toArray, List.getElem?_cons_succ, List.getElem?_cons_zero]; rfl
    case hQr5q5 => exact fun _ _ _ h => h
    case hwr5q5 => rfl
    case hyr5q5 => (intro w hSw; (try dsimp only at hSw); go_simp; (try with_reducible rfl))
    simp only [Act.put, List.setIfInBounds_toArray, List.set_cons_zero, List.set_cons_succ]
    refine wpAnyH_take (i := 6) (oi := ?dqr5q6) (v := ?dvr5q6) ?hir5q6 (by kernel_rfl) (by kernel_rfl) (by kernel_rfl) ?hQr5q6 (Or.inl ⟨?hwr5q6, ?hyr5q6⟩) hS ?hrr5q6
    case hir5q6 => simp only [List.getElem?_toArray, List.getElem?_cons_succ, List.getElem?_cons_zero]; rfl
    case hQr5q6 => exact fun _ _ _ h => h
    case hwr5q6 => rfl
    case hyr5q6 => (intro w hSw; (try dsimp only at hSw); go_simp; (try with_reducible rfl))
    simp only [Act.put, List.setIfInBounds_toArray, List.set_cons_zero, List.set_cons_succ]
    refine wpAnyH_take (i := 8) (oi := ?dqr5q8) (v := ?dvr5q8) ?hir5q8 (by kernel_rfl) (by kernel_rfl) (by kernel_rfl) ?hQr5q8 (Or.inl ⟨?hwr5q8, ?hyr5q8⟩) hS ?hrr5q8
    case hir5q8 => simp only [List.getElem?_toArray, List.getElem?_cons_succ, List.getElem?_cons_zero]; rfl
    case hQr5q8 => exact fun _ _ _ h => h
    case hwr5q8 => rfl
    case hyr5q8 => (intro w hSw; (try dsimp only at hSw); go_simp; (try with_reducible rfl))
    simp only [Act.put, List.setIfInBounds_toArray, List.set_cons_zero, List.set_cons_succ]
    refine wpAnyH_ready (rs := [7]) (by kernel_rfl) (by simp) ?_
    refine AllReadyH.cons (o := ?dqr5q7) ?hir5q7 (fun K hK => ?_) AllReadyH.nil
    case hir5q7 => simp only [List.getElem?_toArray, List.getElem?_cons_succ, List.getElem?_cons_zero]; rfl
    go_simp
    go_at_call 36
    refine (cI.out _).mono ?_
    rintro e u1 ⟨rfl, hb⟩
    have hS2 := (And.intro (keep_cell hb hS.1) (And.intro (keep_cell hb hS.2.1) (And.intro (keep_cell hb hS.2.2.1) (And.intro (keep_cell hb hS.2.2.2.1) (And.intro (keep_cell hb hS.2.2.2.2.1) (And.intro (keep_cell hb hS.2.2.2.2.2.1) (And.intro (keep_cell hb hS.2.2.2.2.2.2.1) (And.intro (keep_cell hb hS.2.2.2.2.2.2.2.1) (And.intro (keep_cell hb hS.2.2.2.2.2.2.2.2.1) (And.intro (keep_cell hb hS.2.2.2.2.2.2.2.2.2.1) (And.intro (keep_cell hb hS.2.2.2.2.2.2.2.2.2.2.1) (And.intro (keep_cell hb hS.2.2.2.2.2.2.2.2.2.2.2.1) (And.intro (keep_cell hb hS.2.2.2.2.2.2.2.2.2.2.2.2.1) (And.intro (keep_cell hb hS.2.2.2.2.2.2.2.2.2.2.2.2.2.1) (Below.after hS.2.2.2.2.2.2.2.2.2.2.2.2.2.2 hb)))))))))))))))
    clear hS
    refine hK.out _ _ hS2 (fun hS => ?_)
    clear hS2 hK K
    try simp only [Act.put, List.setIfInBounds_toArray, List.set_cons_zero, List.set_cons_succ]
    refine wpAnyH_ready (rs := [9]) (by kernel_rfl) (by simp) ?_
    refine AllReadyH.cons (o := ?dqr5q9) ?hir5q9 (fun K hK => ?_) AllReadyH.nil
    case hir5q9 => simp only [List.getElem?_toArray, List.getElem?_cons_succ, List.getElem?_cons_zero]; rfl
    go_simp
    go_at_call 36
    refine (cJ.out _).mono ?_
    rintro e u2 ⟨rfl, hb⟩
    have hS2 := (And.intro (keep_cell hb hS.1) (And.intro (keep_cell hb hS.2.1) (And.intro (keep_cell hb hS.2.2.1) (And.intro (keep_cell hb hS.2.2.2.1) (And.intro (keep_cell hb hS.2.2.2.2.1) (And.intro (keep_cell hb hS.2.2.2.2.2.1) (And.intro (keep_cell hb hS.2.2.2.2.2.2.1) (And.intro (keep_cell hb hS.2.2.2.2.2.2.2.1) (And.intro (keep_cell hb hS.2.2.2.2.2.2.2.2.1) (And.intro (keep_cell hb hS.2.2.2.2.2.2.2.2.2.1) (And.intro (keep_cell hb hS.2.2.2.2.2.2.2.2.2.2.1) (And.intro (keep_cell hb hS.2.2.2.2.2.2.2.2.2.2.2.1) (And.intro (keep_cell hb hS.2.2.2.2.2.2.2.2.2.2.2.2.1) (And.intro (keep_cell hb hS.2.2.2.2.2.2.2.2.2.2.2.2.2.1) (Below.after hS.2.2.2.2.2.2.2.2.2.2.2.2.2.2 hb)))))))))))))))
    clear hS
    refine hK.out _ _ hS2 (fun hS => ?_)
    clear hS2 hK K
    try simp only [Act.put, List.setIfInBounds_toArray, List.set_cons_zero, List.set_cons_succ]
    refine wpAnyH_ready (rs := [10]) (by kernel_rfl) (by simp) ?_
    refine AllReadyH.cons (o := ?dqr5q10) ?hir5q10 (fun K hK => ?_) AllReadyH.nil
    case hir5q10 => simp only [List.getElem?_toArray, List.getElem?_cons_succ, List.getElem?_cons_zero]; rfl
    go_simp
    go_at_call 21
    refine (cA.out _).mono ?_
    rintro e u3 ⟨rfl, hb⟩
    have hS2 := (And.intro (keep_cell hb hS.1) (And.intro (keep_cell hb hS.2.1) (And.intro (keep_cell hb hS.2.2.1) (And.intro (keep_cell hb hS.2.2.2.1) (And.intro (keep_cell hb hS.2.2.2.2.1) (And.intro (keep_cell hb hS.2.2.2.2.2.1) (And.intro (keep_cell hb hS.2.2.2.2.2.2.1) (And.intro (keep_cell hb hS.2.2.2.2.2.2.2.1) (And.intro (keep_cell hb hS.2.2.2.2.2.2.2.2.1) (And.intro (keep_cell hb hS.2.2.2.2.2.2.2.2.2.1) (And.intro (keep_cell hb hS.2.2.2.2.2.2.2.2.2.2.1) (And.intro (keep_cell hb hS.2.2.2.2.2.2.2.2.2.2.2.1) (And.intro (keep_cell hb hS.2.2.2.2.2.2.2.2.2.2.2.2.1) (And.intro (keep_cell hb hS.2.2.2.2.2.2.2.2.2.2.2.2.2.1) (Below.after hS.2.2.2.2.2.2.2.2.2.2.2.2.2.2 hb)))))))))))))))
    clear hS
    refine hK.out _ _ hS2 (fun hS => ?_)
    clear hS2 hK K
    try simp only [Act.put, List.setIfInBounds_toArray, List.set_cons_zero, List.set_cons_succ]
    refine wpAnyH_take (i := 11) (oi := ?dqr5q11) (v := ?dvr5q11) ?hir5q11 (by kernel_rfl) (by kernel_rfl) (by kernel_rfl) ?hQr5q11 (Or.inl ⟨?hwr5q11, ?hyr5q11⟩) hS ?hrr5q11
    case hir5q11 => simp only [List.getElem?_toArray, List.getElem?_cons_succ, List.getElem?_cons_zero]; rfl
    case hQr5q11 => exact fun _ _ _ h => h
    case hwr5q11 => rfl
    case hyr5q11 => (intro w hSw; (try dsimp only at hSw); go_simp; (try with_reducible rfl))
    simp only [Act.put, List.setIfInBounds_toArray, List.set_cons_zero, List.set_cons_succ]
    refine wpAnyH_take (i := 12) (oi := ?dqr5q12) (v := ?dvr5q12) ?hir5q12 (by kernel_rfl) (by kernel_rfl) (by kernel_rfl) ?hQr5q12 (Or.inl ⟨?hwr5q12, ?hyr5q12⟩) hS ?hrr5q12
    case hir5q12 => simp only [List.getElem?_toArray, List.getElem?_cons_succ, List.getElem?_cons_zero]; rfl
    case hQr5q12 => exact fun _ _ _ h => h
    case hwr5q12 => rfl
    case hyr5q12 => (intro w hSw; (try dsimp only at hSw); go_simp; (try with_reducible rfl))
    simp only [Act.put, List.setIfInBounds_toArray, List.set_cons_zero, List.set_cons_succ]
    refine wpAnyH_done (by kernel_rfl) ?_ _
    have b3 := Lib.hid (Below.after b2.out hS.2.2.2.2.2.2.2.2.2.2.2.2.2.2)
    clear hS cI cJ cA g0 g1 g2 g3 g4 g5 g6 f0 f1 f2 f3 f4 f5 f6
    go_wp2_with fail
    go_ret
    exact ⟨rfl, b3.out⟩
set_option maxHeartbeats 4000000 in
theorem refCheck20 : ∀ (t : Tr) (A : Option Addr) (n c B : Nat) (l : List Bd), l.map strip = t.pre → t.size = n → n ≤ 5000 → ∀ w : World, B ≤ w.heap.size → LieB w B A n c l →
    Calls Tryd.prog 11 #[.slice A n c] w fun e w' => e = .returned (.tuple #[nI (placeF rootP t), nI (errF rootP t)]) ∧ Below w.heap.size w w' := by
  intro t
  induction t with
  | e =>
    intro A n c B l hl hn h5 w hB h
    obtain rfl : n = 0 := hn.symm
    clear h hl hB
    go_enter Tryd.func11, Tryd.ntmps11
    go_wp2
    go_ret2
    exact ⟨rfl, Below.refl _ _⟩
  | n tl k v g tr ihl ihr =>
    intro A n c B l hl hn h5 w hB h
    obtain ⟨i, hi⟩ : ∃ i, tl.size = i := ⟨_, rfl⟩
    obtain ⟨j, hj⟩ : ∃ j, tr.size = j := ⟨_, rfl⟩
    have hn2 : n = 1 + i + j := by rw [← hn, Tr.size, hi, hj]
    have hparts := Lib.hid (parts9_any A n c B l tl tr k v g hl w hB h (by omega))
    rw [hi, hj] at hparts
    have hL := Lib.hid (fun A c B la hla w hB h => ihl A i c B la hla hi (by omega) w hB h)
    have hR := Lib.hid (fun A c B la hla w hB h => ihr A j c B la hla hj (by omega) w hB h)
    have hpl := placeF_le (f := rootP) tl
    have hpr := placeF_le (f := rootP) tr
    rw [hi] at hpl
    rw [hj] at hpr
    have hE : errF rootP (.n tl k v g tr) = if rootP (.n tl k v g tr) ≠ 0 then rootP (.n tl k v g tr) else if errF rootP tl ≠ 0 then errF rootP tl else errF rootP tr := by rw [errF]
    have hP : placeF rootP (.n tl k v g tr) = if rootP (.n tl k v g tr) ≠ 0 then 0 else if errF rootP tl ≠ 0 then 1 + placeF rootP tl else 1 + placeF rootP tl + placeF rootP tr := by rw [placeF]
    rw [hE, hP, rootP]
    have cU := Lib.hid (fun (W : World) (A : Option Addr) (c : Nat) (la : List Bd) (hla : la.map strip = tl.pre) (hB : B ≤ W.heap.size) (h : LieB W B A i c la) (x : Bd) (hx : (⟨x.key, x.val, x.tag⟩ : It) = ⟨k, v, g⟩) => by have := refOver20 tl A i c B la hla x W hB h; rw [hx] at this; exact this)
    have cV := Lib.hid (fun (W : World) (A : Option Addr) (c : Nat) (la : List Bd) (hla : la.map strip = tr.pre) (hB : B ≤ W.heap.size) (h : LieB W B A j c la) (x : Bd) (hx : (⟨x.key, x.val, x.tag⟩ : It) = ⟨k, v, g⟩) => by have := refOver20 tr A j c B la hla x W hB h; rw [hx] at this; exact this)
    obtain ⟨lo, hlo⟩ : ∃ b, overT tl ⟨k, v, g⟩ = b := ⟨_, rfl⟩
    obtain ⟨ro, hro⟩ : ∃ b, overT tr ⟨k, v, g⟩ = b := ⟨_, rfl⟩
    rw [hlo] at cU
    rw [hro] at cV
    rw [hlo, hro]
    obtain ⟨x, hx⟩ : ∃ x, placeF rootP tl = x := ⟨_, rfl⟩
    obtain ⟨y, hy⟩ : ∃ x, placeF rootP tr = x := ⟨_, rfl⟩
    obtain ⟨f, hf⟩ : ∃ x, errF rootP tl = x := ⟨_, rfl⟩
    obtain ⟨q, hq⟩ : ∃ x, errF rootP tr = x := ⟨_, rfl⟩
    rw [hx, hy, hf, hq]
    rw [hx, hf] at hL
    rw [hy, hq] at hR
    rw [hx] at hpl
    rw [hy] at hpr
    have d1 : ((n : Int) == 0) = false := by simp; omega
    have hx9 : x ≤ 5000 := by omega
    have hy9 : y ≤ 5000 := by omega
    clear hl h ihl ihr hi hj hn hn2 hE hP hlo hro hx hy hf hq h5 hpl hpr
    obtain ⟨O, hO0⟩ : ∃ O, (if (if (lo || ro) = true then 8 else 0) ≠ 0 then (if (lo || ro) = true then 8 else 0) else if f ≠ 0 then f else q) = O := ⟨_, rfl⟩
    obtain ⟨P, hP0⟩ : ∃ P, (if (if (lo || ro) = true then 8 else 0) ≠ 0 then 0 else if f ≠ 0 then 1 + x else 1 + x + y) = P := ⟨_, rfl⟩
    rw [hO0, hP0]
    have hO := Lib.hid hO0
    have hP := Lib.hid hP0
    clear hO0 hP0
    go_enter Tryd.func11, Tryd.ntmps11
    go_wp2_with fail
    refine hparts.out.mono ?_
    rintro e w1 ⟨A1, c1, A2, c2, b, la, lb, rfl, rfl, hxx, hla, hlb, K1, K2, hb⟩
    have b1 := Lib.hid hb
    have hla' := Lib.hid hla
    have hlb' := Lib.hid hlb
    have K1' := Lib.hid K1
    have K2' := Lib.hid K2
    have hbt : Hid ((⟨b.key, b.val, b.tag⟩ : It) = ⟨k, v, g⟩) := by
      have h1 : b.key = k := congrArg St.key hxx
      have h2 : b.val = v := congrArg St.val hxx
      have h3 : b.tag = g := congrArg St.tag hxx
      show _ = _
      rw [h1, h2, h3]
    clear hb hxx hla hlb K1 K2 hparts
    go_upto_region 4 with (fail)
    obtain ⟨W2, hW2⟩ : ∃ W2, w1.alloc (.cells #[K b.key, K b.val, K b.sum, K b.size, G64 b.tag, .bool b.left, .bool b.right] 52) = W2 := ⟨_, rfl⟩
    have gx : Hid (Has W2 w1.heap.size 52 #[K b.key, K b.val, K b.sum, K b.size, G64 b.tag, .bool b.left, .bool b.right]) := hW2 ▸ Has.new w1 _ _
    have s2 : W2.heap.size = w1.heap.size + 1 := hW2 ▸ World.size_alloc _ _
    have b2 : Hid (Below w.heap.size w W2) := hW2 ▸ b1.out.alloc b1.out.size _
    have K1'' := Lib.hid (K1'.out.next (b2.out.mono hB))
    have K2'' := Lib.hid (K2'.out.next (b2.out.mono hB))
    rw [hW2]
    clear hW2 b1 K1' K2'
    obtain ⟨p, hp⟩ : ∃ p, w1.heap.size = p := ⟨_, rfl⟩
    rw [hp] at gx s2 ⊢
    clear hp
    obtain ⟨y0, y1, y2, y3, y4, y5, y6⟩ := gx.out.seven
    go_wp2_with fail
    refine (cU.out W2 A1 c1 la hla'.out (Nat.le_trans hB b2.out.size) K1''.out b hbt.out).mono ?_
    rintro e w3 ⟨rfl, hb⟩
    have b3 := Lib.hid (Below.after b2.out hb)
    have g3 := Lib.hid (gx.out.next hb)
    have J1 := Lib.hid (K1''.out.next (hb.mono (Nat.le_trans hB b2.out.size)))
    have J2 := Lib.hid (K2''.out.next (hb.mono (Nat.le_trans hB b2.out.size)))
    clear hb b2 gx K1'' K2'' cU
    clear y0 y1 y2 y3 y4 y5 y6
    obtain ⟨z0, z1, z2, z3, z4, z5, z6⟩ := g3.out.seven
    cases lo with
    | true =>
      have hO1 := hO.out
      have hP1 := hP.out
      simp at hO1 hP1
      subst hO1 hP1
      go_wp2
      go_ret2
      exact ⟨rfl, b3.out⟩
    | false =>
      go_wp2_with fail
      refine (cV.out w3 A2 c2 lb hlb'.out (Nat.le_trans hB b3.out.size) J2.out b hbt.out).mono ?_
      rintro e w4 ⟨rfl, hb⟩
      have b4 := Lib.hid (Below.after b3.out hb)
      have I1 := Lib.hid (J1.out.next (hb.mono (Nat.le_trans hB b3.out.size)))
      have I2 := Lib.hid (J2.out.next (hb.mono (Nat.le_trans hB b3.out.size)))
      clear hb b3 J1 J2 g3 cV z0 z1 z2 z3 z4 z5 z6
      cases ro with
      | true =>
        have hO1 := hO.out
        have hP1 := hP.out
        simp at hO1 hP1
        subst hO1 hP1
        go_wp2
        go_ret2
        exact ⟨rfl, b4.out⟩
      | false =>
        go_wp2_with fail
        refine (hL.out A1 c1 B la hla'.out _ (Nat.le_trans hB b4.out.size) I1.out).mono ?_
        rintro e w3 ⟨rfl, hb3⟩
        have b3 := Lib.hid (Below.after b4.out hb3)
        have K3 := Lib.hid (I2.out.next (hb3.mono (Nat.le_trans hB b4.out.size)))
        clear hb3 b4 I1 I2
        by_cases hf : f = 0
        · subst hf
          have hO1 := hO.out
          have hP1 := hP.out
          simp at hO1 hP1
          subst hO1 hP1
          go_wp2_with fail
          refine (hR.out A2 c2 B lb hlb'.out w3 (Nat.le_trans hB b3.out.size) K3.out).mono ?_
          rintro e w4 ⟨rfl, hb4⟩
          have b4 := Lib.hid (Below.after b3.out hb4)
          clear hb4 b3
          have e1 : IntKind.i64.wrap (1 + (x : Int)) = 1 + (x : Int) := IntWalk.i64_in _ (by omega)
          have e2 : IntKind.i64.wrap (1 + (x : Int) + (y : Int)) = 1 + (x : Int) + (y : Int) := IntWalk.i64_in _ (by omega)
          go_wp2
          go_ret2
          exact ⟨by show _ = Ending.returned (.tuple #[.int .i64 ((1 + x + y : Nat) : Int), nI q]); rw [show ((1 + x + y : Nat) : Int) = 1 + (x : Int) + (y : Int) by omega]; rfl, b4.out⟩
        · have hO1 := hO.out
          have hP1 := hP.out
          simp [hf] at hO1 hP1
          subst hO1 hP1
          have d2 : ((f : Int) != 0) = true := by rw [bne_iff_ne]; omega
          have e1 : IntKind.i64.wrap (1 + (x : Int)) = 1 + (x : Int) := IntWalk.i64_in _ (by omega)
          go_wp2
          go_ret2
          exact ⟨by show _ = Ending.returned (.tuple #[.int .i64 ((1 + x : Nat) : Int), nI f]); rw [show ((1 + x : Nat) : Int) = 1 + (x : Int) by omega]; rfl, b3.out⟩
theorem refMay20 (t : Tr) (A : Option Addr) (n c B : Nat) (l : List Bd) (hl : l.map strip = t.pre) (hn : t.size = n) (h5 : n ≤ 5000) (w : World) (hB : B ≤ w.heap.size) (h : LieB w B A n c l) :
    Calls Tryd.prog 13 #[.slice A n c] w fun e w' => e = .returned (.bool (mayP t)) ∧ Below w.heap.size w w' := by
  have c1 := Lib.hid (refCheck20 t A n c B l hl hn h5 w hB h)
  have hm : Hid (mayP t = ((errF rootP t : Int) == 0)) := by
    show _ = _
    unfold mayP
    by_cases h : errF rootP t = 0
    · rw [h]; rfl
    · rw [beq_eq_false_iff_ne.2 h, beq_eq_false_iff_ne.2 (show ((errF rootP t : Nat) : Int) ≠ 0 by omega)]
  obtain ⟨f, hf⟩ : ∃ x, errF rootP t = x := ⟨_, rfl⟩
  obtain ⟨x, hx⟩ : ∃ x, placeF rootP t = x := ⟨_, rfl⟩
  rw [hf, hx] at c1
  rw [hf] at hm
  clear hl hn h5 hB h hf hx
  go_enter Tryd.func13, Tryd.ntmps13
  go_wp2_with fail
  refine c1.out.mono ?_
  rintro e w1 ⟨rfl, hb⟩
  have b1 := Lib.hid hb
  clear hb c1
  go_wp2
  go_ret
  exact ⟨by rw [hm.out]; rfl, b1.out⟩
end Go.Proofs.YtcnkgddldhkddaaDoor
/- The document's own answers of layer 10: whether two rows of pairs, of keys, are the same, where they are. -/
namespace Go.Proofs.YtcnkgddldhkddaaDoor
open Go.RowKit Go.Proofs.Rowm

/-- a cell of a row of numbers -/
theorem key_at {w : World} {B : Nat} {A : Option Addr} {l : List (BitVec 64)} (h : Row w B A (l.map K)) (k : Nat) (hk : k < l.length) : ∃ ad, A = some ad ∧ ad.block < B ∧ w.cell? (ad.add k) = some (K l[k]) :=
  h k (K l[k]) (by rw [List.getElem?_map, List.getElem?_eq_getElem hk]; rfl)
end Go.Proofs.YtcnkgddldhkddaaDoor
/- The document's own answers of layer 10: Turned, Has. -/
namespace Go.Proofs.YtcnkgddldhkddaaDoor
open Go.RowKit Go.Proofs.Rowm Go.Proofs.Treem

/-- which beads have a key -/
theorem hasB_take (l : List Bd) (key : BitVec 64) (k : Nat) (h : k < l.length) : hasB ((l.take (k + 1)).map strip) key = (hasB ((l.take k).map strip) key || decide (l[k].key = key)) := by
  rw [List.take_succ_eq_append_getElem h, List.map_append]
  simp only [hasB, List.any_append, List.map_cons, List.map_nil, List.any_cons, List.any_nil, Bool.or_false]
  rfl
end Go.Proofs.YtcnkgddldhkddaaDoor
/- The document's own answers of layer 10: Pairs (of layer 9's package), Keys. -/
namespace Go.Proofs.YtcnkgddldhkddaaDoor
open Go.RowKit Go.Proofs.Rowm Go.Proofs.Treem

theorem owned_base {w : World} {base base' n : Nat} {e : TypeId} {size : Nat} {v : Value} {xs : List Value} (h : w.ownsRow base' e size v n xs) (hb : base ≤ base') : w.ownsRow base e size v n xs := by
  refine ⟨h.1, ?_⟩
  rcases h.2 with h2 | ⟨g, cap, cur, h1, h2, h3⟩
  · exact .inl h2
  · exact .inr ⟨g, cap, cur, h1, Nat.le_trans hb h2, h3⟩
end Go.Proofs.YtcnkgddldhkddaaDoor
/- Numbers of 64 bits as the model has them: each operation of the walk is the plain one. -/
namespace Go.Proofs.YtcnkgddldhkddaaDoor
open Go.RowKit Go.Proofs.Mixm

/-- a number of 64 bits, as the model has it -/
abbrev V (b : BitVec 64) : Value := .int .u64 (b.toNat : Int)

theorem d30 (a : BitVec 64) : (a.toNat : Int) / (1073741824 : Int) = ((a >>> 30).toNat : Int) := v_shr a 30
theorem t27 (a : BitVec 64) : IntKind.u64.wrap ((a.toNat : Int).tdiv (134217728 : Int)) = ((a >>> 27).toNat : Int) := by
  rw [Int.tdiv_eq_ediv_of_nonneg (by omega)]; exact (congrArg IntKind.u64.wrap (v_shr a 27)).trans (v_wrap _)
theorem t31 (a : BitVec 64) : IntKind.u64.wrap ((a.toNat : Int).tdiv (2147483648 : Int)) = ((a >>> 31).toNat : Int) := by
  rw [Int.tdiv_eq_ediv_of_nonneg (by omega)]; exact (congrArg IntKind.u64.wrap (v_shr a 31)).trans (v_wrap _)
theorem m1 (a : BitVec 64) : IntKind.u64.wrap ((a.toNat : Int) * (13787848793156543929 : Int)) = ((a * c1).toNat : Int) := v_mul a c1
theorem m2 (a : BitVec 64) : IntKind.u64.wrap ((a.toNat : Int) * (10723151780598845931 : Int)) = ((a * c2).toNat : Int) := v_mul a c2

theorem v_fold (b : BitVec 64) (s : Nat) : bits .xor .u64 (b.toNat : Int) ((b.toNat : Int) / 2 ^ s) = ((fold s b).toNat : Int) := by
  rw [v_shr, v_xor]; rfl

theorem v_two (a : BitVec 64) : IntKind.u64.wrap (2 - (a.toNat : Int)) = ((2#64 - a).toNat : Int) := v_sub 2#64 a

theorem s63 (n : Int) : bits .and .u64 (IntKind.u64.wrap n) 63 = (by64 n : Int) := by
  have h0 : (IntKind.u64.wrap n) = (((n % 18446744073709551616).toNat : Nat) : Int) := by rw [IntKind.wrap_u64]; omega
  have h1 := bits_and_u64_nat (n % 18446744073709551616).toNat 63 (by omega) (by omega)
  rw [h0]
  refine h1.trans ?_
  have h2 := Nat.and_two_pow_sub_one_eq_mod (n % 18446744073709551616).toNat 6
  have h3 : (n % 18446744073709551616).toNat &&& 63 = (n % 18446744073709551616).toNat % 64 := h2
  rw [h3]
  unfold by64
  omega

theorem a8 (a : BitVec 64) : bits .and .u64 (a.toNat : Int) (71777214294589695 : Int) = ((a &&& 0x00ff00ff00ff00ff#64).toNat : Int) := v_and a 0x00ff00ff00ff00ff#64
theorem a16 (a : BitVec 64) : bits .and .u64 (a.toNat : Int) (281470681808895 : Int) = ((a &&& 0x0000ffff0000ffff#64).toNat : Int) := v_and a 0x0000ffff0000ffff#64
theorem a1 (a : BitVec 64) : bits .and .u64 (a.toNat : Int) (6148914691236517205 : Int) = ((a &&& 0x5555555555555555#64).toNat : Int) := v_and a 0x5555555555555555#64
theorem a2 (a : BitVec 64) : bits .and .u64 (a.toNat : Int) (3689348814741910323 : Int) = ((a &&& 0x3333333333333333#64).toNat : Int) := v_and a 0x3333333333333333#64
theorem a4 (a : BitVec 64) : bits .and .u64 (a.toNat : Int) (1085102592571150095 : Int) = ((a &&& 0x0f0f0f0f0f0f0f0f#64).toNat : Int) := v_and a 0x0f0f0f0f0f0f0f0f#64
theorem q1 (a : BitVec 64) : (a.toNat : Int) / (2 : Int) = ((a >>> 1).toNat : Int) := v_shr a 1
theorem q2 (a : BitVec 64) : (a.toNat : Int) / (4 : Int) = ((a >>> 2).toNat : Int) := v_shr a 2
theorem q4 (a : BitVec 64) : (a.toNat : Int) / (16 : Int) = ((a >>> 4).toNat : Int) := v_shr a 4
theorem q8 (a : BitVec 64) : (a.toNat : Int) / (256 : Int) = ((a >>> 8).toNat : Int) := v_shr a 8
theorem q16 (a : BitVec 64) : (a.toNat : Int) / (65536 : Int) = ((a >>> 16).toNat : Int) := v_shr a 16
theorem q32 (a : BitVec 64) : (a.toNat : Int) / (4294967296 : Int) = ((a >>> 32).toNat : Int) := v_shr a 32
theorem p1 (a : BitVec 64) : IntKind.u64.wrap ((a.toNat : Int) * (2 : Int)) = ((a <<< 1).toNat : Int) := v_shl a 1
theorem p2 (a : BitVec 64) : IntKind.u64.wrap ((a.toNat : Int) * (4 : Int)) = ((a <<< 2).toNat : Int) := v_shl a 2
theorem p4 (a : BitVec 64) : IntKind.u64.wrap ((a.toNat : Int) * (16 : Int)) = ((a <<< 4).toNat : Int) := v_shl a 4
theorem p8 (a : BitVec 64) : IntKind.u64.wrap ((a.toNat : Int) * (256 : Int)) = ((a <<< 8).toNat : Int) := v_shl a 8
theorem p16 (a : BitVec 64) : IntKind.u64.wrap ((a.toNat : Int) * (65536 : Int)) = ((a <<< 16).toNat : Int) := v_shl a 16
theorem p32 (a : BitVec 64) : IntKind.u64.wrap ((a.toNat : Int) * (4294967296 : Int)) = ((a <<< 32).toNat : Int) := v_shl a 32

theorem n64 (n : Int) : (n.tmod 64 + 64).tmod 64 = (by64 n : Int) := by
  unfold by64
  rcases Int.le_total 0 n with h | h
  · rw [Int.tmod_eq_emod_of_nonneg h, Int.tmod_eq_emod_of_nonneg (by omega)]; omega
  · have e : n.tmod 64 = -((-n) % 64) := by
      have := Int.neg_tmod (-n) 64
      rw [Int.neg_neg] at this
      rw [this, Int.tmod_eq_emod_of_nonneg (by omega)]
    rw [e, Int.tmod_eq_emod_of_nonneg (by omega)]; omega

theorem r2 (a : BitVec 64) : (a.toNat : Int) % (2 : Int) = ((bitOf a 0).toNat : Int) := by
  unfold bitOf
  rw [BitVec.toNat_and, BitVec.ushiftRight_zero, show (1#64).toNat = 1 from rfl, Nat.and_one_is_mod]; omega
theorem bitOf_shift (a : BitVec 64) (k : Nat) : bitOf (a >>> k) 0 = bitOf a k := by
  unfold bitOf; rw [BitVec.ushiftRight_zero]

theorem r2k (a : BitVec 64) (k : Nat) : ((a.toNat : Int) / 2 ^ k).tmod 2 = ((bitOf a k).toNat : Int) := by
  rw [v_shr, Int.tmod_eq_emod_of_nonneg (by omega), r2, bitOf_shift]

theorem n64w (n : Int) : (wrap64 (n.tmod 64 + 64)).tmod 64 = (by64 n : Int) := by
  have h1 : n.tmod 64 < 64 := Int.tmod_lt_of_pos n (by omega)
  have h2 : -64 < n.tmod 64 := Int.lt_tmod_of_pos n (by omega)
  rw [IntWalk.wrap64_in _ ⟨by omega, by omega⟩, n64]

theorem g64 (a : BitVec 64) (x : Int) (h : BitVec.ofInt 64 x = a) : IntKind.u64.wrap x = (a.toNat : Int) := by
  subst h
  rw [IntKind.wrap_u64, BitVec.toNat_ofInt]; omega
theorem gold (x : Int) : IntKind.u64.wrap (IntKind.u64.wrap x + (11400714819323198485 : Int)) = ((BitVec.ofInt 64 x + 0x9e3779b97f4a7c15#64).toNat : Int) := by
  rw [g64 _ x rfl]; exact v_add _ 0x9e3779b97f4a7c15#64

/-- what is nearer to the inverse of f, k times -/
def inv (f : BitVec 64) : Nat → BitVec 64
  | 0 => f
  | k + 1 => inv f k * (2#64 - f * inv f k)
theorem inv_one : inv 1#64 5 = 1#64 := by decide
theorem inv_c1 : inv c1 5 = i1 := by decide
theorem inv_c2 : inv c2 5 = i2 := by decide

end Go.Proofs.YtcnkgddldhkddaaDoor
/- The contracts of the iterator forward and of Mix of package mix: each returns what the plain mathematics says and changes nothing that lay, while the table of steps reads as its initialiser lays it. -/
namespace Go.Proofs.YtcnkgddldhkddaaDoor
open Go.RowKit Go.Shelf Go.Proofs.Mixm
attribute [local go_sem] Oper.semAt_some

/-- the three steps: each one's shift, its factor -/
def sh : Fin 3 → Nat
  | 0 => 30
  | 1 => 27
  | 2 => 31
def fc : Fin 3 → BitVec 64
  | 0 => c1
  | 1 => c2
  | 2 => 1#64
/-- the table of the steps, as it lies in memory -/
structure Steps (W : World) : Prop where
  s0 : W.cell? ⟨0, 0, none⟩ = some (.int .u64 (sh 0 : Int))
  f0 : W.cell? ⟨0, 1, none⟩ = some (V (fc 0))
  s1 : W.cell? ⟨0, 2, none⟩ = some (.int .u64 (sh 1 : Int))
  f1 : W.cell? ⟨0, 3, none⟩ = some (V (fc 1))
  s2 : W.cell? ⟨0, 4, none⟩ = some (.int .u64 (sh 2 : Int))
  f2 : W.cell? ⟨0, 5, none⟩ = some (V (fc 2))
theorem Steps.below {n₀ : Nat} (h0 : 0 < n₀) {A B : World} (hb : Below n₀ A B) (h : Steps A) : Steps B :=
  ⟨(hb.cell (p := ⟨0, 0, none⟩) h0).trans h.s0, (hb.cell (p := ⟨0, 1, none⟩) h0).trans h.f0, (hb.cell (p := ⟨0, 2, none⟩) h0).trans h.s1,
   (hb.cell (p := ⟨0, 3, none⟩) h0).trans h.f1, (hb.cell (p := ⟨0, 4, none⟩) h0).trans h.s2, (hb.cell (p := ⟨0, 5, none⟩) h0).trans h.f2⟩
abbrev encS (x : Fin 3) : Array Value := #[Value.agg #[.int .u64 (sh x : Int), V (fc x)]]

set_option maxRecDepth 100000 in
set_option maxHeartbeats 2000000 in
theorem forward_stops (F : Fence) (n : Nat) (h6 : F.fn 56) (hro : F.round = none) (hn : 1 ≤ n) (n₀ : Nat) (h0 : 0 < n₀) (w : World) (hn₀ : n₀ ≤ w.heap.size) (hs : Steps w) :
    SeqStopsK F n Tryd.prog 56 #[] encS (Below n₀) (fun ys => ys = [0, 1, 2]) (fun pre => pre <+: [0, 1, 2]) 3 w := fun l J Jx W hW _ _ hY hJ0 => by
  have hs1 : Steps W := hs.below h0 (hW.mono hn₀)
  refine callsIn_of_wp Tryd.func56 rfl h6 ?_ hro
  simp only [Tryd.ntmps56, List.size_toArray, List.length_cons, List.length_nil, Nat.reduceAdd, Nat.reduceSub, Array.replicate_succ, Array.replicate_zero, List.push_toArray, List.append_toArray, List.nil_append, List.cons_append]
  gi_wp2
  gi_loopw [3] (fun i wr => (i = .int .i64 0 ∧ J [] wr ∧ Below n₀ W wr) ∨ (i = .int .i64 1 ∧ J [0] wr ∧ Below n₀ W wr) ∨ (i = .int .i64 2 ∧ J [0, 1] wr ∧ Below n₀ W wr) ∨ (i = .int .i64 3 ∧ J [0, 1, 2] wr))
    (fun i _ => 3 - (intOf i).toNat)
  case atStart => exact .inl ⟨rfl, hJ0, Below.refl _ _⟩
  case round =>
    rcases hrel with ⟨rfl, hJs, hnx⟩ | ⟨rfl, hJs, hnx⟩ | ⟨rfl, hJs, hnx⟩ | ⟨rfl, hJs⟩
    · obtain ⟨fn, tmps, assign, body, hy, hR⟩ := hY _ 0 wr hJs (by simp)
      simp only [encS] at hy
      have hS := hs1.below h0 hnx
      have ha := hS.s0
      have hb := hS.f0
      clear hS
      gi_wp2
      refine hR.mono ?_
      rintro e W3 (⟨rfl, hJ3, hk3⟩ | ⟨rfl, hJx3⟩)
      · gi_wp2
        go_roundw
        case rel => exact .inr (.inl ⟨rfl, hJ3, hnx.trans hk3⟩)
        case measure => simp [intOf]
      · gi_wp2
        refine bodyPost_ret (results_none rfl _ _ _) rfl ?_
        exact ⟨⟨_, rfl⟩, .inr ⟨_, ⟨[(1 : Fin 3), (2 : Fin 3)], rfl⟩, hJx3⟩⟩
    · obtain ⟨fn, tmps, assign, body, hy, hR⟩ := hY _ 1 wr hJs (by simp)
      simp only [encS] at hy
      have hS := hs1.below h0 hnx
      have ha := hS.s1
      have hb := hS.f1
      clear hS
      gi_wp2
      refine hR.mono ?_
      rintro e W3 (⟨rfl, hJ3, hk3⟩ | ⟨rfl, hJx3⟩)
      · gi_wp2
        go_roundw
        case rel => exact .inr (.inr (.inl ⟨rfl, hJ3, hnx.trans hk3⟩))
        case measure => simp [intOf]
      · gi_wp2
        refine bodyPost_ret (results_none rfl _ _ _) rfl ?_
        exact ⟨⟨_, rfl⟩, .inr ⟨_, ⟨[(2 : Fin 3)], rfl⟩, hJx3⟩⟩
    · obtain ⟨fn, tmps, assign, body, hy, hR⟩ := hY _ 2 wr hJs (by simp)
      simp only [encS] at hy
      have hS := hs1.below h0 hnx
      have ha := hS.s2
      have hb := hS.f2
      clear hS
      gi_wp2
      refine hR.mono ?_
      rintro e W3 (⟨rfl, hJ3, hk3⟩ | ⟨rfl, hJx3⟩)
      · gi_wp2
        go_roundw
        case rel => exact .inr (.inr (.inr ⟨rfl, hJ3⟩))
        case measure => simp [intOf]
      · gi_wp2
        refine bodyPost_ret (results_none rfl _ _ _) rfl ?_
        exact ⟨⟨_, rfl⟩, .inr ⟨_, ⟨[], rfl⟩, hJx3⟩⟩
    · gi_wp2
      go_end0
      exact ⟨⟨_, rfl⟩, .inl ⟨_, rfl, hJs⟩⟩

/-- what steps make of a number, going forward -/
def mixL (b : BitVec 64) (l : List (Fin 3)) : BitVec 64 := l.foldl (fun x k => fold (sh k) x * fc k) b
theorem mixL_snoc (b : BitVec 64) (l : List (Fin 3)) (k : Fin 3) : mixL b (l ++ [k]) = fold (sh k) (mixL b l) * fc k := by simp [mixL]
theorem mixL_all (b : BitVec 64) : mixL b [0, 1, 2] = mix b := by
  show fold 31 (fold 27 (fold 30 b * c1) * c2) * 1#64 = _
  rw [BitVec.mul_one]; rfl
theorem sh_lo (k : Fin 3) : 16 ≤ sh k := by revert k; decide
theorem sh_hi (k : Fin 3) : sh k < 32 := by revert k; decide

/-- a variable of two cells -/
def Boxed2 (W : World) (B : Nat) (t : TypeId) (u v : Value) : Prop := W.heap[B]? = some (.cells #[u, v] t (0, 0))
theorem Boxed2.new (W : World) (t : TypeId) (u v : Value) : Boxed2 (W.alloc (.cells #[u, v] t)) W.heap.size t u v := World.alloc_heap_new W _
theorem Boxed2.cell0 {W : World} {B : Nat} {t : TypeId} {u v : Value} (h : Boxed2 W B t u v) : W.cell? ⟨B, 0, none⟩ = some u := by simp [World.cell?, show W.heap[B]? = _ from h]
theorem Boxed2.cell1 {W : World} {B : Nat} {t : TypeId} {u v : Value} (h : Boxed2 W B t u v) : W.cell? ⟨B, 1, none⟩ = some v := by simp [World.cell?, show W.heap[B]? = _ from h]
theorem Boxed2.kept {W W' : World} {row : Option Nat} {B : Nat} {t : TypeId} {u v : Value} (h : Boxed2 W B t u v) (hg : W.grownBy W' row) (hne : some B ≠ row) : Boxed2 W' B t u v := (hg.block B (Array.getElem?_eq_some_iff.1 h).1 hne).trans h
theorem Boxed2.own {W W' : World} {row : Option Nat} {B : Nat} {t : TypeId} {u v : Value} (h : Boxed2 W B t u v) (hg : W.grownBy W' row) (hr : ∀ r, row = some r → ∃ o : Obj, W.heap[r]? = some o ∧ o.isCells = false) : Boxed2 W' B t u v :=
  h.kept hg (fun e' => by obtain ⟨o, ho, hc⟩ := hr B e'.symm; rw [show W.heap[B]? = _ from h] at ho; cases ho; cases hc)

set_option maxRecDepth 100000 in
set_option maxHeartbeats 2000000 in
theorem mix_any (b : BitVec 64) (w : World) (hz : 0 < w.heap.size) (hs : Steps w) : Calls Tryd.prog 52 #[V b] w fun e w' => e = .returned (V (mix b)) ∧ Below w.heap.size w w' := by
  refine (callsIn_wide (n := 9)).1 ?_
  refine callsIn_of_wp_marks Tryd.func52 rfl trivial ?_ rfl
  simp only [Tryd.ntmps52, List.size_toArray, List.length_cons, List.length_nil, Nat.reduceAdd, Nat.reduceSub, Array.replicate_succ, Array.replicate_zero, List.push_toArray, List.append_toArray, List.nil_append, List.cons_append]
  gi_wp2
  have bX := Boxed.new w 36 (V b)
  have hB0 : Below w.heap.size w (w.alloc (.cells #[V b] 36)) := (Below.refl _ w).alloc (Nat.le_refl _) _
  have hsz : (w.alloc (.cells #[V b] 36)).heap.size = w.heap.size + 1 := by simp
  have hs0 := hs.below hz hB0
  obtain ⟨W0, hW0⟩ : ∃ W0, w.alloc (.cells #[V b] 36) = W0 := ⟨_, rfl⟩
  rw [hW0] at bX hB0 hsz hs0 ⊢
  clear hW0
  refine wpIn_rangeFunc_ownH rfl (by omega) (gf := 56) (lb := #[]) rfl trivial (enters_of Tryd.func56 (by kernel_rfl) rfl)
    (forward_stops Fence.wide _ trivial rfl (by omega) w.heap.size hz W0 (by omega) hs0) belowK_t (belowK_b (by omega)) (Below.refl _ _) (fun _ => rfl)
    (fun pre W => Boxed W w.heap.size 36 (V (mixL b pre)) ∧ Below w.heap.size w W)
    (fun _ _ _ => False)
    (OwnFrom.and (Own.from (boxed_own _ _ _) _) (ownFrom_below (Nat.le_refl _) (by omega)))
    (fun _ _ _ _ _ hs _ _ => hs)
    ⟨bX, hB0⟩
    (fun x a' W => ∃ Bx, w.heap.size < Bx ∧ Boxed2 W Bx 88 (.int .u64 (sh x : Int)) (V (fc x)) ∧ a' = { tmps := #[V b, .pointer (some ⟨w.heap.size, 0, none⟩), .int .u64 0, .pointer (some ⟨Bx, 0, none⟩), .agg #[.int .u64 (sh x : Int), V (fc x)], undef, undef, undef, undef, undef, undef, undef, undef, undef, undef], defers := [] })
    (fun x a' _ X Y row hs hg hr => by obtain ⟨Bx, h1, h2, h3⟩ := hs; exact ⟨Bx, h1, h2.own hg (fun r e => (hr r e).2), h3⟩)
    ?assign ?body ?done ?stop
  case assign =>
    rintro l pre x W K ⟨bX1, hB1⟩ hK
    gi_wp2
    exact hK _ _ ((KeepsOthers.alloc _ _).from _) ((Below.refl _ W).alloc hB1.size _) ⟨bX1.alloc _, hB1.alloc hB1.size _⟩ ⟨W.heap.size, bX1.lt, Boxed2.new W 88 _ _, rfl⟩
  case body =>
    rintro l pre x a' W hl _ ⟨bX1, hB1⟩ ⟨Bx, hBx, b2, rfl⟩ hlt
    have cX := bX1.cell
    have fX := bX1.frozen
    have c0 := b2.cell0
    have c1 := b2.cell1
    have hlo := sh_lo x
    have hhi := sh_hi x
    gi_wp2
    exact ⟨(KeepsOthers.setCell _ _ _).from _, (Below.refl _ W).setCell (p := ⟨w.heap.size, 0, none⟩) (Nat.le_refl _) _, by rw [mixL_snoc, v_fold, v_mul]; exact bX1.set _, hB1.setCell (p := ⟨w.heap.size, 0, none⟩) (Nat.le_refl _) _⟩
  case done =>
    rintro D zs W hD rfl ⟨bX1, hB1⟩ hK
    have cX := bX1.cell
    gi_wp2
    refine ⟨by simp, .inl ⟨_, _, rfl, run_takeDeferred hK, ?_⟩⟩
    exact ⟨_, results_tmp rfl _ _ _, by rw [← mixL_all]; rfl, hB1.trans (belowK_b (w := w) (Nat.le_refl _) W D _ _ (by omega) hK rfl rfl)⟩
  case stop =>
    rintro D c pre W _ _ h _
    exact h.elim

end Go.Proofs.YtcnkgddldhkddaaDoor
/- The contracts of the document's answers for layer 1: each returns what the plain mathematics says, whatever the number. -/
namespace Go.Proofs.YtcnkgddldhkddaaDoor
open Go.RowKit Go.Proofs.Mixm

set_option maxHeartbeats 400000 in
theorem refMix_any (b : BitVec 64) (w : World) : Calls Tryd.prog 53 #[V b] w fun e w' => e = .returned (V (mix b)) ∧ w = w' := by
  go_enter Tryd.func53, Tryd.ntmps53
  go_wp2
  go_ret
  refine ⟨ret_int ?_, rfl⟩
  simp only [d30, t27, t31, m1, m2, v_xor]
  rfl

end Go.Proofs.YtcnkgddldhkddaaDoor
/- The contracts of Of of package mix and of the document's answer for it: each returns what the plain mathematics says, while the table of steps reads as its initialiser lays it. -/
namespace Go.Proofs.YtcnkgddldhkddaaDoor
open Go.RowKit Go.Proofs.Mixm

set_option maxHeartbeats 400000 in
theorem refOf_any (n : Int) (z : BitVec 64) (hz : IntKind.u64.wrap (IntKind.u64.wrap n + (11400714819323198485 : Int)) = (z.toNat : Int)) (w : World) : Calls Tryd.prog 39 #[.int .i64 n] w fun e w' => e = .returned (V (mix z)) ∧ w = w' := by
  go_enter Tryd.func39, Tryd.ntmps39
  go_wp2_with (go_at_call 53; refine (refMix_any _ _).mono ?_; rintro e w' ⟨rfl, rfl⟩)
  go_ret
  exact ⟨rfl, rfl⟩

set_option maxHeartbeats 400000 in
theorem of_any (n : Int) (z : BitVec 64) (hz : IntKind.u64.wrap (IntKind.u64.wrap n + (11400714819323198485 : Int)) = (z.toNat : Int)) (w : World) (h0 : 0 < w.heap.size) (hs : Steps w) : Calls Tryd.prog 38 #[.int .i64 n] w fun e w' => e = .returned (V (mix z)) ∧ Below w.heap.size w w' := by
  have hs' := Lib.hid hs
  clear hs
  go_enter Tryd.func38, Tryd.ntmps38
  go_wp2_with fail
  refine (mix_any _ _ h0 hs'.out).mono ?_
  rintro e w' ⟨rfl, hb⟩
  go_wp2
  go_ret
  exact ⟨rfl, hb⟩

end Go.Proofs.YtcnkgddldhkddaaDoor
/- The document's own answers of layer 20: Items, Mixed. Made by wip/gen/layer20ref.py. -/
namespace Go.Proofs.YtcnkgddldhkddaaDoor
open Go.RowKit Go.Proofs.Treem Go.Proofs.Mixm
set_option maxRecDepth 100000

set_option maxHeartbeats 8000000 in
theorem refItems20 : ∀ (t : Tr) (A : Option Addr) (n c B : Nat) (l : List Bd), l.map strip = t.pre → t.size = n → n ≤ 1000 → ∀ w : World, B ≤ w.heap.size → LieB w B A n c l →
    Calls Tryd.prog 16 #[.slice A n c] w fun e w' => ∃ v, e = .returned v ∧ w'.ownsRow w.heap.size 38 3 v n (flat3 t.items) ∧ Below w.heap.size w w' := by
  intro t
  induction t with
  | e =>
    intro A n c B l hl hn h5 w hB h
    obtain rfl : n = 0 := hn.symm
    go_enter Tryd.func16, Tryd.ntmps16
    go_wp2
    go_ret
    exact ⟨_, rfl, World.ownsRow_nil _ _ _ _, Below.refl _ _⟩
  | n tl k v g tr ihl ihr =>
    intro A n c B l hl hn h5 w hB h
    obtain ⟨i0, hin, hz0, hz1, hz2⟩ := item_parts
    obtain ⟨i, hi⟩ : ∃ i, tl.size = i := ⟨_, rfl⟩
    obtain ⟨j, hj⟩ : ∃ j, tr.size = j := ⟨_, rfl⟩
    have hn2 : n = 1 + i + j := by rw [← hn, Tr.size, hi, hj]
    have hparts := Lib.hid (parts9_any A n c B l tl tr k v g hl w hB h (by omega))
    rw [hi, hj] at hparts
    have hL := Lib.hid (fun A c B la hla w hB h => ihl A i c B la hla hi (by omega) w hB h)
    have hR := Lib.hid (fun A c B la hla w hB h => ihr A j c B la hla hj (by omega) w hB h)
    have d1 : ((n : Int) == 0) = false := by simp; omega
    have hn2' := Lib.hid hn2
    have hj' := Lib.hid hj
    have hi5 : i ≤ 1000 := by omega
    have hj5 : j ≤ 1000 := by omega
    have hij : i + j ≤ 1000 := by omega
    clear h hl ihl ihr hi hj hn hn2
    go_enter Tryd.func16, Tryd.ntmps16
    go_wp2_with fail
    refine hparts.out.mono ?_
    rintro e w1 ⟨A1, c1, A2, c2, x, la, lb, rfl, rfl, hx, hla, hlb, K1, K2, hb⟩
    clear hparts
    have hit : (⟨x.key, x.val, x.tag⟩ : It) = ⟨k, v, g⟩ := by
      have h1 : x.key = k := congrArg St.key hx
      have h2 : x.val = v := congrArg St.val hx
      have h3 : x.tag = g := congrArg St.tag hx
      rw [h1, h2, h3]
    have cI := Lib.hid (fun w => refItem20 x w)
    rw [hit] at cI
    have b1 := Lib.hid hb
    have hla' := Lib.hid hla
    have hlb' := Lib.hid hlb
    have K1' := Lib.hid K1
    have K2' := Lib.hid K2
    clear hb hx hla hlb K1 K2 hit
    go_wp2_with fail
    obtain ⟨W2, hW2⟩ : ∃ W2, w1.alloc (.cells #[K x.key, K x.val, K x.sum, K x.size, G64 x.tag, .bool x.left, .bool x.right] 52) = W2 := ⟨_, rfl⟩
    have gx : Hid (Has W2 w1.heap.size 52 #[K x.key, K x.val, K x.sum, K x.size, G64 x.tag, .bool x.left, .bool x.right]) := hW2 ▸ Has.new w1 _ _
    have b2 : Hid (Below w.heap.size w W2) := hW2 ▸ b1.out.alloc b1.out.size _
    rw [hW2]
    clear hW2
    obtain ⟨p, hp⟩ : ∃ p, w1.heap.size = p := ⟨_, rfl⟩
    rw [hp] at gx ⊢
    clear hp b1
    have hcall := Lib.hid (fun (W : World) (hW : Below w.heap.size w W) => hL.out A1 c1 B la hla'.out W (Nat.le_trans hB hW.size) (K1'.out.next (hW.mono hB)))
    have hcallR := Lib.hid (fun (W : World) (hW : Below w.heap.size w W) => hR.out A2 c2 B lb hlb'.out W (Nat.le_trans hB hW.size) (K2'.out.next (hW.mono hB)))
    obtain ⟨y0, y1, y2, y3, y4, y5, y6⟩ := gx.out.seven
    go_region_law (first
      | (go_simp; go_at_call 16; refine (hcall.out _ b2.out.drew).mono ?_
         rintro e w5 ⟨v5, rfl, ho5, hb5⟩
         have o5 := Lib.hid (owned_base ho5 (base := w.heap.size) b2.out.drew.size)
         have b5 := Lib.hid (Below.after b2.out.drew hb5)
         have g5 := Lib.hid (Has.next (w := W2.drew) gx.out hb5)
         obtain ⟨x0, x1, x2, x3, x4, x5, x6⟩ := g5.out.seven
         clear hb5 ho5)
      | (go_simp; go_at_call 36; refine (cI.out _).mono ?_
         rintro e w6 ⟨rfl, hb6⟩
         have o6 := Lib.hid (owned_next o5.out hb6)
         have b6 := Lib.hid (Below.after b5.out hb6)
         clear hb6)
      | (refine step_append_row (by rfl) _ _ 33 (by rfl) w.heap.size 38 i0 (.agg #[.int .i64 0, .int .i64 0, .int .u64 0]) 3 24 Tryd.underlying33 hin hz0 hz1 hz2 rfl (by decide) v5 i (flat3 tl.items) (by rfl) (o6.out.alloc _) (some ⟨w6.heap.size, 0, none⟩) 1 1 [K k, K v, G64 g] (by rfl) (by simp) (Nat.le_refl _) rfl _ (Has.new w6 38 #[K k, K v, G64 g]).row (flat3_one [⟨k, v, g⟩]) (by unfold maxLen; omega) (by omega) (by have := b6.out.size; simp only [World.size_alloc]; omega) ?_
         intro v7 w7 hown hgrow
         have o7 := Lib.hid hown
         have b7 := Lib.hid ((b6.out.alloc b6.out.size _).grown hgrow (by have := b6.out.size; simp only [World.size_alloc]; omega) (fun r e => (o6.out.lt r e).1))
         clear hown hgrow)
      | fail)
    all_goals
      clear hcall b5 g5 o5 o6 b6 x0 x1 x2 x3 x4 x5 x6 y0 y1 y2 y3 y4 y5 y6
      go_wp2_with fail
    all_goals
      refine (hcallR.out w7 b7.out).mono ?_
      rintro e w8 ⟨v8, rfl, ho8, hb8⟩
      obtain ⟨A8, c8, rfl, q8, -, nz8⟩ := own_slice ho8
      have rw8 := Lib.hid (Row.of_own ho8)
      have o8 := Lib.hid (owned_next o7.out hb8)
      have b8 := Lib.hid (Below.after b7.out hb8)
      have rlen : (flat3 tr.items).length = j * 3 := by rw [flat3_length, items_len, hj'.out]
      clear hb8 ho8 hcallR o7 b7
      go_wp2_with (at_builtin; refine wpList_append_row rfl _ _ 33 rfl w.heap.size 38 i0 (.agg #[.int .i64 0, .int .i64 0, .int .u64 0]) 3 24 Tryd.underlying33 hin hz0 hz1 hz2 rfl (by decide) v7 (i + 1) (flat3 tl.items ++ [K k, K v, G64 g]) rfl o8.out A8 j c8 (flat3 tr.items) rfl nz8 q8 rlen w8.heap.size rw8.out (flat3_one _) (by unfold maxLen; omega) (by omega) b8.out.size ?_)
      intro v9 w9 hown hgrow
      have o9 := Lib.hid hown
      have b9 := Lib.hid (b8.out.grown hgrow b8.out.size (fun r e => (o8.out.lt r e).1))
      clear hown hgrow
      go_wp2
      go_ret
      refine ⟨v9, rfl, ?_, b9.out⟩
      have := o9.out
      rw [hn2'.out, show 1 + i + j = i + 1 + j by omega, Tr.items, flat3_append, flat3_cons]
      exact this
/-- the tag that a key asks for -/
def mixK (k : BitVec 64) : BitVec 64 := mix (k + 11400714819323198485#64)
theorem mixK_z (k : BitVec 64) : IntKind.u64.wrap (IntKind.u64.wrap k.toInt + (11400714819323198485 : Int)) = ((k + 11400714819323198485#64).toNat : Int) := by
  have := k.isLt
  rw [IntKind.wrap_u64, IntKind.wrap_u64, BitVec.toNat_add, BitVec.toInt_eq_toNat_cond, show (11400714819323198485#64).toNat = 11400714819323198485 from rfl]
  split <;> omega
def mixedT : Tr → Bool
  | .e => true
  | .n l k _ g r => decide (g = mixK k) && (mixedT l && mixedT r)
theorem mixed_pre : ∀ t : Tr, mixedT t = t.pre.all (fun s => decide (s.tag = mixK s.key))
  | .e => rfl
  | .n l k v g r => by rw [mixedT, Tr.pre, List.all_cons, List.all_append, mixed_pre l, mixed_pre r]
set_option maxHeartbeats 8000000 in
theorem refMixed20 (t : Tr) (A : Option Addr) (n c : Nat) (l : List Bd) (hl : l.map strip = t.pre) (w : World) (h : LieB w w.heap.size A n c l) : Calls Tryd.prog 18 #[.slice A n c] w fun e w' => e = .returned (.bool (mixedT t)) ∧ Below w.heap.size w w' := by
  have hm : mixedT t = l.all (fun b => decide (b.tag = mixK b.key)) := by rw [mixed_pre, ← hl, List.all_map]; rfl
  rw [hm]
  have h' := Lib.hid h
  have hl' := Lib.hid h.len
  have hf := h.few
  obtain ⟨b, hb⟩ : ∃ b, l.all (fun b => decide (b.tag = mixK b.key)) = b := ⟨_, rfl⟩
  rw [hb]
  have hb' := Lib.hid hb
  clear h hb hm hl
  go_enter Tryd.func18, Tryd.ntmps18
  go_wp2
  go_loopw [3] (fun i wr => ∃ m : Nat, m ≤ n ∧ i = .int .i64 m ∧ Below w.heap.size w wr ∧ Hid (∀ x ∈ l.take m, x.tag = mixK x.key)) (fun i _ => n - (intOf i).toNat)
  case atStart => exact ⟨0, Nat.zero_le _, rfl, Below.refl _ _, by intro x hx; simp at hx⟩
  case round =>
    obtain ⟨m, hk, rfl, hbw, he⟩ := hrel
    have hbw' := Lib.hid hbw
    clear hbw
    by_cases hlt : m < n
    · have hkl : m < l.length := by rw [hl'.out]; exact hlt
      obtain ⟨ad, rfl, hb2, g0, g1, g2, g3, g4, g5, g6⟩ := bead_at (h'.out.next hbw'.out) m hkl
      have cO := Lib.hid (fun w => refOf_any (l[m]).key.toInt _ (mixK_z (l[m]).key) w)
      rw [show mix ((l[m]).key + 11400714819323198485#64) = mixK (l[m]).key from rfl] at cO
      have hcmp := toNat_beq (l[m]).tag (mixK (l[m]).key)
      have cO : Hid (∀ w, Calls Tryd.prog 39 #[.int .i64 (l[m]).key.toInt] w fun e w' => e = .returned (.int .u64 ((mixK (l[m]).key).toNat : Int)) ∧ w = w') := cO.out
      have g4 : wr.cell? ⟨(ad.add (m * 7)).block, (ad.add (m * 7)).off + 4, none⟩ = some (.int .u64 ((l[m]).tag.toNat : Int)) := g4
      have g0 : wr.cell? (ad.add (m * 7)) = some (.int .i64 (l[m]).key.toInt) := g0
      obtain ⟨eq, heq⟩ : ∃ x, decide ((l[m]).tag = mixK (l[m]).key) = x := ⟨_, rfl⟩
      have hq := Lib.hid heq
      rw [heq] at hcmp
      obtain ⟨kz, hkz⟩ : ∃ x, (l[m]).key.toInt = x := ⟨_, rfl⟩
      obtain ⟨gz, hgz⟩ : ∃ x : Int, ((l[m]).tag.toNat : Int) = x := ⟨_, rfl⟩
      obtain ⟨mz, hmz⟩ : ∃ x : Int, ((mixK (l[m]).key).toNat : Int) = x := ⟨_, rfl⟩
      rw [hkz] at g0 cO
      rw [hgz] at g4 hcmp
      rw [hmz] at cO hcmp
      have hcmp2 : (gz != mz) = !eq := by rw [bne, hcmp]
      clear heq hkz hgz hmz g1 g2 g3 g5 g6 hcmp
      cases eq with
      | true =>
        have hcmp3 : (gz != mz) = false := hcmp2
        have hnx : Hid (∀ x ∈ l.take (m + 1), x.tag = mixK x.key) := by
          intro x hx
          rw [List.take_succ_eq_append_getElem hkl, List.mem_append, List.mem_singleton] at hx
          rcases hx with hx | rfl
          · exact he.out x hx
          · exact of_decide_eq_true hq.out
        clear hcmp2
        go_wp2_with fail
        refine wp_region_held_drew (S := fun W => W.cell? (ad.add (m * 7)) = some (.int .i64 kz) ∧ W.cell? ⟨(ad.add (m * 7)).block, (ad.add (m * 7)).off + 4, none⟩ = some (.int .u64 gz) ∧ Below wr.heap.size wr W) (by kernel_rfl) ⟨g0, g4, (Below.refl _ wr).drew⟩ (fun hS => ?_)
        refine wpAnyH_take (i := 0) (oi := ?dqr6q0) (v := ?dvr6q0) ?hir6q0 (by kernel_rfl) (by kernel_rfl) (by kernel_rfl) ?hQr6q0 (Or.inl ⟨?hwr6q0, ?hyr6q0⟩) hS ?hrr6q0
        case hir6q0 => simp only [List.getElem?_toArray, List.getElem?_cons_zero]; rfl
        case hQr6q0 => exact fun _ _ _ h => h
        case hwr6q0 => rfl
        case hyr6q0 => (intro w hSw; (try dsimp only at hSw); go_simp; (try with_reducible rfl))
        simp only [Act.put, List.setIfInBounds_toArray, List.set_cons_zero, List.set_cons_succ]
        refine wpAnyH_take (i := 1) (oi := ?dqr6q1) (v := ?dvr6q1) ?hir6q1 (by kernel_rfl) (by kernel_rfl) (by kernel_rfl) ?hQr6q1 (Or.inl ⟨?hwr6q1, ?hyr6q1⟩) hS ?hrr6q1
        case hir6q1 => simp only [List.getElem?_toArray, List.getElem?_cons_succ, List.getElem?_cons_zero]; rfl
        case hQr6q1 => exact fun _ _ _ h => h
        case hwr6q1 => rfl
        case hyr6q1 => (intro w hSw; (try dsimp only at hSw); go_simp; (try with_reducible rfl))
        simp only [Act.put, List.setIfInBounds_toArray, List.set_cons_zero, List.set_cons_succ]
        refine wpAnyH_take (i := 2) (oi := ?dqr6q2) (v := ?dvr6q2) ?hir6q2 (by kernel_rfl) (by kernel_rfl) (by kernel_rfl) ?hQr6q2 (Or.inl ⟨?hwr6q2, ?hyr6q2⟩) hS ?hrr6q2
        case hir6q2 => simp only [List.getElem?_toArray, List.getElem?_cons_succ, List.getElem?_cons_zero]; rfl
        case hQr6q2 => exact fun _ _ _ h => h
        case hwr6q2 => rfl
        case hyr6q2 => (intro w hSw; (try dsimp only at hSw); go_simp; (try with_reducible rfl))
        simp only [Act.put, List.setIfInBounds_toArray, List.set_cons_zero, List.set_cons_succ]
        refine wpAnyH_take (i := 3) (oi := ?dqr6q3) (v := ?dvr6q3) ?hir6q3 (by kernel_rfl) (by kernel_rfl) (by kernel_rfl) ?hQr6q3 (Or.inl ⟨?hwr6q3, ?hyr6q3⟩) hS ?hrr6q3
        case hir6q3 => simp only [List.getElem?_toArray, List.getElem?_cons_succ, List.getElem?_cons_zero]; rfl
        case hQr6q3 => exact fun _ _ _ h => h
        case hwr6q3 => rfl
        case hyr6q3 => (intro w hSw; (try dsimp only at hSw); go_simp; (try with_reducible rfl))
        simp only [Act.put, List.setIfInBounds_toArray, List.set_cons_zero, List.set_cons_succ]
        refine wpAnyH_take (i := 4) (oi := ?dqr6q4) (v := ?dvr6q4) ?hir6q4 (by kernel_rfl) (by kernel_rfl) (by kernel_rfl) ?hQr6q4 (Or.inl ⟨?hwr6q4, ?hyr6q4⟩) hS ?hrr6q4
        case hir6q4 => simp only [List.getElem?_toArray, List.getElem?_cons_succ, List.getElem?_cons_zero]; rfl
        case hQr6q4 => exact fun _ _ _ h => h
        case hwr6q4 => rfl
        case hyr6q4 => (intro w hSw; (try dsimp only at hSw); go_simp; (try with_reducible rfl))
        simp only [Act.put, List.setIfInBounds_toArray, List.set_cons_zero, List.set_cons_succ]
        refine wpAnyH_take (i := 5) (oi := ?dqr6q5) (v := ?dvr6q5) ?hir6q5 (by kernel_rfl) (by kernel_rfl) (by kernel_rfl) ?hQr6q5 (Or.inl ⟨?hwr6q5, ?hyr6q5⟩) hS ?hrr6q5
        case hir6q5 => simp only [List.getElem?_toArray, List.getElem?_cons_succ, List.getElem?_cons_zero]; rfl
        case hQr6q5 => exact fun _ _ _ h => h
        case hwr6q5 => rfl
        case hyr6q5 => (intro w hSw; (try dsimp only at hSw); go_simp; (try with_reducible rfl))
        simp only [Act.put, List.setIfInBounds_toArray, List.set_cons_zero, List.set_cons_succ]
        refine wpAnyH_take (i := 6) (oi := ?dqr6q6) (v := ?dvr6q6) ?hir6q6 (by kernel_rfl) (by kernel_rfl) (by kernel_rfl) ?hQr6q6 (Or.inl ⟨?hwr6q6, ?hyr6q6⟩) hS ?hrr6q6
        case hir6q6 => simp only [List.getElem?_toArray, List.getElem?_cons_succ, List.getElem?_cons_zero]; rfl
        case hQr6q6 => exact fun _ _ _ h => h
        case hwr6q6 => rfl
        case hyr6q6 => (intro w hSw; (try dsimp only at hSw); go_simp; (try with_reducible rfl))
        simp only [Act.put, List.setIfInBounds_toArray, List.set_cons_zero, List.set_cons_succ]
        refine wpAnyH_take (i := 7) (oi := ?dqr6q7) (v := ?dvr6q7) ?hir6q7 (by kernel_rfl) (by kernel_rfl) (by kernel_rfl) ?hQr6q7 (Or.inl ⟨?hwr6q7, ?hyr6q7⟩) hS ?hrr6q7
        case hir6q7 => simp only [List.getElem?_toArray, List.getElem?_cons_succ, List.getElem?_cons_zero]; rfl
        case hQr6q7 => exact fun _ _ _ h => h
        case hwr6q7 => rfl
        case hyr6q7 => (intro w hSw; (try dsimp only at hSw); go_simp; (try with_reducible rfl))
        simp only [Act.put, List.setIfInBounds_toArray, List.set_cons_zero, List.set_cons_succ]
        refine wpAnyH_take (i := 8) (oi := ?dqr6q8) (v := ?dvr6q8) ?hir6q8 (by kernel_rfl) (by kernel_rfl) (by kernel_rfl) ?hQr6q8 (Or.inl ⟨?hwr6q8, ?hyr6q8⟩) hS ?hrr6q8
        case hir6q8 => simp only [List.getElem?_toArray, List.getElem?_cons_succ, List.getElem?_cons_zero]; rfl
        case hQr6q8 => exact fun _ _ _ h => h
        case hwr6q8 => rfl
        case hyr6q8 => (intro w hSw; (try dsimp only at hSw); go_simp; (try with_reducible rfl))
        simp only [Act.put, List.setIfInBounds_toArray, List.set_cons_zero, List.set_cons_succ]
        refine wpAnyH_take (i := 9) (oi := ?dqr6q9) (v := ?dvr6q9) ?hir6q9 (by kernel_rfl) (by kernel_rfl) (by kernel_rfl) ?hQr6q9 (Or.inl ⟨?hwr6q9, ?hyr6q9⟩) hS ?hrr6q9
        case hir6q9 => simp only [List.getElem?_toArray, List.getElem?_cons_succ, List.getElem?_cons_zero]; rfl
        case hQr6q9 => exact fun _ _ _ h => h
        case hwr6q9 => rfl
        case hyr6q9 => (intro w hSw; (try dsimp only at hSw); go_simp; (try with_reducible rfl))
        simp only [Act.put, List.setIfInBounds_toArray, List.set_cons_zero, List.set_cons_succ]
        refine wpAnyH_ready (rs := [10]) (by kernel_rfl) (by simp) ?_
        refine AllReadyH.cons (o := ?dqr6q10) ?hir6q10 (fun K hK => ?_) AllReadyH.nil
        case hir6q10 => simp only [List.getElem?_toArray, List.getElem?_cons_succ, List.getElem?_cons_zero]; rfl
        go_simp
        go_at_call 39
        refine (cO.out _).mono ?_
        rintro e u1 ⟨rfl, rfl⟩
        have hS2 := hS
        clear hS
        refine hK.out _ _ hS2 (fun hS => ?_)
        clear hS2 hK K
        try simp only [Act.put, List.setIfInBounds_toArray, List.set_cons_zero, List.set_cons_succ]
        refine wpAnyH_take (i := 11) (oi := ?dqr6q11) (v := ?dvr6q11) ?hir6q11 (by kernel_rfl) (by kernel_rfl) (by kernel_rfl) ?hQr6q11 (Or.inl ⟨?hwr6q11, ?hyr6q11⟩) hS ?hrr6q11
        case hir6q11 => simp only [List.getElem?_toArray, List.getElem?_cons_succ, List.getElem?_cons_zero]; rfl
        case hQr6q11 => exact fun _ _ _ h => h
        case hwr6q11 => rfl
        case hyr6q11 => (intro w hSw; (try dsimp only at hSw); go_simp; (try with_reducible rfl))
        simp only [Act.put, List.setIfInBounds_toArray, List.set_cons_zero, List.set_cons_succ]
        refine wpAnyH_done (by kernel_rfl) ?_ _
        have hb3 := Lib.hid hS.2.2
        clear hS cO g0 g4
        go_wp2_with fail
        go_roundw
        case rel => exact ⟨m + 1, by omega, by go_num, hbw'.out.trans (hb3.out.mono hbw'.out.size), hnx⟩
        case measure => simp [intOf]; omega
      | false =>
        have hcmp3 : (gz != mz) = true := hcmp2
        have hbf : Hid (b = false) := by
          have h1 := hb'.out
          cases b with
          | false => rfl
          | true =>
            rw [List.all_eq_true] at h1
            have := h1 _ (List.getElem_mem hkl)
            rw [hq.out] at this
            cases this
        clear hcmp2
        go_wp2_with fail
        refine wp_region_held_drew (S := fun W => W.cell? (ad.add (m * 7)) = some (.int .i64 kz) ∧ W.cell? ⟨(ad.add (m * 7)).block, (ad.add (m * 7)).off + 4, none⟩ = some (.int .u64 gz) ∧ Below wr.heap.size wr W) (by kernel_rfl) ⟨g0, g4, (Below.refl _ wr).drew⟩ (fun hS => ?_)
        refine wpAnyH_take (i := 0) (oi := ?dqr7q0) (v := ?dvr7q0) ?hir7q0 (by kernel_rfl) (by kernel_rfl) (by kernel_rfl) ?hQr7q0 (Or.inl ⟨?hwr7q0, ?hyr7q0⟩) hS ?hrr7q0
        case hir7q0 => simp only [List.getElem?_toArray, List.getElem?_cons_zero]; rfl
        case hQr7q0 => exact fun _ _ _ h => h
        case hwr7q0 => rfl
        case hyr7q0 => (intro w hSw; (try dsimp only at hSw); go_simp; (try with_reducible rfl))
        simp only [Act.put, List.setIfInBounds_toArray, List.set_cons_zero, List.set_cons_succ]
        refine wpAnyH_take (i := 1) (oi := ?dqr7q1) (v := ?dvr7q1) ?hir7q1 (by kernel_rfl) (by kernel_rfl) (by kernel_rfl) ?hQr7q1 (Or.inl ⟨?hwr7q1, ?hyr7q1⟩) hS ?hrr7q1
        case hir7q1 => simp only [List.getElem?_toArray, List.getElem?_cons_succ, List.getElem?_cons_zero]; rfl
        case hQr7q1 => exact fun _ _ _ h => h
        case hwr7q1 => rfl
        case hyr7q1 => (intro w hSw; (try dsimp only at hSw); go_simp; (try with_reducible rfl))
        simp only [Act.put, List.setIfInBounds_toArray, List.set_cons_zero, List.set_cons_succ]
        refine wpAnyH_take (i := 2) (oi := ?dqr7q2) (v := ?dvr7q2) ?hir7q2 (by kernel_rfl) (by kernel_rfl) (by kernel_rfl) ?hQr7q2 (Or.inl ⟨?hwr7q2, ?hyr7q2⟩) hS ?hrr7q2
        case hir7q2 => simp only [List.getElem?_toArray, List.getElem?_cons_succ, List.getElem?_cons_zero]; rfl
        case hQr7q2 => exact fun _ _ _ h => h
        case hwr7q2 => rfl
        case hyr7q2 => (intro w hSw; (try dsimp only at hSw); go_simp; (try with_reducible rfl))
        simp only [Act.put, List.setIfInBounds_toArray, List.set_cons_zero, List.set_cons_succ]
        refine wpAnyH_take (i := 3) (oi := ?dqr7q3) (v := ?dvr7q3) ?hir7q3 (by kernel_rfl) (by kernel_rfl) (by kernel_rfl) ?hQr7q3 (Or.inl ⟨?hwr7q3, ?hyr7q3⟩) hS ?hrr7q3
        case hir7q3 => simp only [List.getElem?_toArray, List.getElem?_cons_succ, List.getElem?_cons_zero]; rfl
        case hQr7q3 => exact fun _ _ _ h => h
        case hwr7q3 => rfl
        case hyr7q3 => (intro w hSw; (try dsimp only at hSw); go_simp; (try with_reducible rfl))
        simp only [Act.put, List.setIfInBounds_toArray, List.set_cons_zero, List.set_cons_succ]
        refine wpAnyH_take (i := 4) (oi := ?dqr7q4) (v := ?dvr7q4) ?hir7q4 (by kernel_rfl) (by kernel_rfl) (by kernel_rfl) ?hQr7q4 (Or.inl ⟨?hwr7q4, ?hyr7q4⟩) hS ?hrr7q4
        case hir7q4 => simp only [List.getElem?_toArray, List.getElem?_cons_succ, List.getElem?_cons_zero]; rfl
        case hQr7q4 => exact fun _ _ _ h => h
        case hwr7q4 => rfl
        case hyr7q4 => (intro w hSw; (try dsimp only at hSw); go_simp; (try with_reducible rfl))
        simp only [Act.put, List.setIfInBounds_toArray, List.set_cons_zero, List.set_cons_succ]
        refine wpAnyH_take (i := 5) (oi := ?dqr7q5) (v := ?dvr7q5) ?hir7q5 (by kernel_rfl) (by kernel_rfl) (by kernel_rfl) ?hQr7q5 (Or.inl ⟨?hwr7q5, ?hyr7q5⟩) hS ?hrr7q5
        case hir7q5 => simp only [List.getElem?_toArray, List.getElem?_cons_succ, List.getElem?_cons_zero]; rfl
        case hQr7q5 => exact fun _ _ _ h => h
        case hwr7q5 => rfl
        case hyr7q5 => (intro w hSw; (try dsimp only at hSw); go_simp; (try with_reducible rfl))
        simp only [Act.put, List.setIfInBounds_toArray, List.set_cons_zero, List.set_cons_succ]
        refine wpAnyH_take (i := 6) (oi := ?dqr7q6) (v := ?dvr7q6) ?hir7q6 (by kernel_rfl) (by kernel_rfl) (by kernel_rfl) ?hQr7q6 (Or.inl ⟨?hwr7q6, ?hyr7q6⟩) hS ?hrr7q6
        case hir7q6 => simp only [List.getElem?_toArray, List.getElem?_cons_succ, List.getElem?_cons_zero]; rfl
        case hQr7q6 => exact fun _ _ _ h => h
        case hwr7q6 => rfl
        case hyr7q6 => (intro w hSw; (try dsimp only at hSw); go_simp; (try with_reducible rfl))
        simp only [Act.put, List.setIfInBounds_toArray, List.set_cons_zero, List.set_cons_succ]
        refine wpAnyH_take (i := 7) (oi := ?dqr7q7) (v := ?dvr7q7) ?hir7q7 (by kernel_rfl) (by kernel_rfl) (by kernel_rfl) ?hQr7q7 (Or.inl ⟨?hwr7q7, ?hyr7q7⟩) hS ?hrr7q7
        case hir7q7 => simp only [List.getElem?_toArray, List.getElem?_cons_succ, List.getElem?_cons_zero]; rfl
        case hQr7q7 => exact fun _ _ _ h => h
        case hwr7q7 => rfl
        case hyr7q7 => (intro w hSw; (try dsimp only at hSw); go_simp; (try with_reducible rfl))
        simp only [Act.put, List.setIfInBounds_toArray, List.set_cons_zero, List.set_cons_succ]
        refine wpAnyH_take (i := 8) (oi := ?dqr7q8) (v := ?dvr7q8) ?hir7q8 (by kernel_rfl) (by kernel_rfl) (by kernel_rfl) ?hQr7q8 (Or.inl ⟨?hwr7q8, ?hyr7q8⟩) hS ?hrr7q8
        case hir7q8 => simp only [List.getElem?_toArray, List.getElem?_cons_succ, List.getElem?_cons_zero]; rfl
        case hQr7q8 => exact fun _ _ _ h => h
        case hwr7q8 => rfl
        case hyr7q8 => (intro w hSw; (try dsimp only at hSw); go_simp; (try with_reducible rfl))
        simp only [Act.put, List.setIfInBounds_toArray, List.set_cons_zero, List.set_cons_succ]
        refine wpAnyH_take (i := 9) (oi := ?dqr7q9) (v := ?dvr7q9) ?hir7q9 (by kernel_rfl) (by kernel_rfl) (by kernel_rfl) ?hQr7q9 (Or.inl ⟨?hwr7q9, ?hyr7q9⟩) hS ?hrr7q9
        case hir7q9 => simp only [List.getElem?_toArray, List.getElem?_cons_succ, List.getElem?_cons_zero]; rfl
        case hQr7q9 => exact fun _ _ _ h => h
        case hwr7q9 => rfl
        case hyr7q9 => (intro w hSw; (try dsimp only at hSw); go_simp; (try with_reducible rfl))
        simp only [Act.put, List.setIfInBounds_toArray, List.set_cons_zero, List.set_cons_succ]
        refine wpAnyH_ready (rs := [10]) (by kernel_rfl) (by simp) ?_
        refine AllReadyH.cons (o := ?dqr7q10) ?hir7q10 (fun K hK => ?_) AllReadyH.nil
        case hir7q10 => simp only [List.getElem?_toArray, List.getElem?_cons_succ, List.getElem?_cons_zero]; rfl
        go_simp
        go_at_call 39
        refine (cO.out _).mono ?_
        rintro e u1 ⟨rfl, rfl⟩
        have hS2 := hS
        clear hS
        refine hK.out _ _ hS2 (fun hS => ?_)
        clear hS2 hK K
        try simp only [Act.put, List.setIfInBounds_toArray, List.set_cons_zero, List.set_cons_succ]
        refine wpAnyH_take (i := 11) (oi := ?dqr7q11) (v := ?dvr7q11) ?hir7q11 (by kernel_rfl) (by kernel_rfl) (by kernel_rfl) ?hQr7q11 (Or.inl ⟨?hwr7q11, ?hyr7q11⟩) hS ?hrr7q11
        case hir7q11 => simp only [List.getElem?_toArray, List.getElem?_cons_succ, List.getElem?_cons_zero]; rfl
        case hQr7q11 => exact fun _ _ _ h => h
        case hwr7q11 => rfl
        case hyr7q11 => (intro w hSw; (try dsimp only at hSw); go_simp; (try with_reducible rfl))
        simp only [Act.put, List.setIfInBounds_toArray, List.set_cons_zero, List.set_cons_succ]
        refine wpAnyH_done (by kernel_rfl) ?_ _
        have hb3 := Lib.hid hS.2.2
        clear hS cO g0 g4
        go_wp2_with fail
        go_ret
        exact ⟨by rw [hbf.out]; rfl, hbw'.out.trans (hb3.out.mono hbw'.out.size)⟩
    · have hbt : Hid (b = true) := by
        obtain rfl : m = n := by omega
        have h1 := he.out
        rw [List.take_of_length_le (by rw [hl'.out]; exact Nat.le_refl _)] at h1
        rw [← hb'.out]
        show l.all _ = true
        rw [List.all_eq_true]
        intro x hx
        exact decide_eq_true (h1 x hx)
      go_wp2
      go_ret
      exact ⟨by rw [hbt.out]; rfl, hbw'.out⟩
end Go.Proofs.YtcnkgddldhkddaaDoor
/- The document's own answers of layer 20: Of. Made by wip/gen/layer20ref.py. -/
namespace Go.Proofs.YtcnkgddldhkddaaDoor
open Go.RowKit Go.Proofs.Treem
set_option maxRecDepth 100000

theorem size_item (W : World) : (sizeOf 38).run Tryd.prog W = .ok 3 W := by kernel_rfl
/-- what is ahead of an item, and what is behind it -/
theorem cut_items {w : World} {B : Nat} {A : Option Addr} {n c : Nat} {l : List It} (h : LieI w B A n c l) (k : Nat) (hk : k < n) :
    (∀ W, (Instr.slice 33 (.slice A n c) none (some (.int .i64 (k : Int))) none).run Tryd.prog W = .ok (.slice A k c) W) ∧
    ∃ A2, (∀ W, (Instr.slice 33 (.slice A n c) (some (.int .i64 ((k : Int) + 1))) none none).run Tryd.prog W = .ok (.slice A2 (n - (k + 1)) (c - (k + 1))) W) ∧ LieI w B A2 (n - (k + 1)) (c - (k + 1)) (l.drop (k + 1)) := by
  have hcap := h.cap
  have hmax := h.max
  have hf := h.few
  refine ⟨cut_to (P := Tryd.prog) Tryd.underlying33 size_item A n c k (k : Int) rfl (by omega), ?_⟩
  obtain ⟨A2, h3, h4, g2⟩ := cut_from2 (P := Tryd.prog) Tryd.underlying33 size_item A n c (k + 1) ((k : Int) + 1) (by omega) (by omega) (by omega)
  refine ⟨A2, h3, by rw [List.length_drop, h.len], by omega, by omega, by omega, fun e => by have := h.nil (g2 e); omega, ?_⟩
  rw [flat3_drop]
  exact h4 w B _ h.row (by rw [flat3_length, h.len]; exact Nat.le_refl _)
theorem topK_step {l : List It} {j : Nat} (h : j + 1 < l.length) (hk : topK l j < l.length) : topK l (j + 1) = if aboveI (l[j + 1]) (l[topK l j]) = true then j + 1 else topK l j := by
  rw [topK, List.getD_eq_getElem?_getD, List.getD_eq_getElem?_getD, List.getElem?_eq_getElem h, List.getElem?_eq_getElem hk]
  rfl
set_option maxHeartbeats 8000000 in
theorem refOf20 (n : Nat) : ∀ (l : List It) (A : Option Addr) (c : Nat), l.length = n → n ≤ 1000 → ∀ w : World, LieI w w.heap.size A n c l → Calls Tryd.prog 24 #[.slice A n c] w (MadeB w n (ofT l).told) := by
  induction n using Nat.strongRecOn with
  | ind n ih =>
    intro l A c hl h5 w h
    by_cases hne : l = []
    · subst hne
      obtain rfl : n = 0 := hl.symm
      rw [ofT_nil]
      clear ih h
      go_enter Tryd.func24, Tryd.ntmps24
      go_wp2
      go_ret
      exact ⟨none, 0, rfl, ⟨rfl, by omega, Nat.le_refl _, Nat.zero_le _, fun _ => rfl, Row.none_ _ _ _⟩, Below.refl _ _⟩
    · have hn0 : 0 < n := by rw [← hl]; exact List.length_pos_iff.2 hne
      obtain ⟨la, x, lb, hlab, hlen, htop⟩ := parts_top hne
      have ht := ofT_parts htop
      rw [← hlab] at ht
      have hlab2 : la.length + 1 + lb.length = n := by rw [← hl, hlab, List.length_append, List.length_cons]; omega
      have htk : topK l (n - 1) = la.length := by rw [← hl]; exact hlen.symm
      obtain ⟨s1, A2, s2, hL2⟩ := cut_items h la.length (by omega)
      have hL1 := h.take la.length (by omega)
      have e1 : l.take la.length = la := by rw [hlab]; simp
      have e2 : l.drop (la.length + 1) = lb := by rw [hlab]; simp
      have e3 : n - (la.length + 1) = lb.length := by omega
      rw [e1] at hL1
      rw [e2, e3] at hL2
      rw [e3] at s2
      have hA : Hid (∀ W, Below w.heap.size w W → Calls Tryd.prog 24 #[.slice A la.length c] W (MadeB W la.length (ofT la).told)) := fun W hW => ih la.length (by omega) la A c rfl (by omega) W (hL1.more (Nat.le_refl _) |>.next hW |>.more hW.size)
      have hB : Hid (∀ W, Below w.heap.size w W → Calls Tryd.prog 24 #[.slice A2 lb.length (c - (la.length + 1))] W (MadeB W lb.length (ofT lb).told)) := fun W hW => ih lb.length (by omega) lb A2 _ rfl (by omega) W ((hL2.next hW).more hW.size)
      have hN := Lib.hid (fun W A A' c c' h q => Node9 (ofT la) (ofT lb) (ofT l) x.k x.v x.g ht.symm n (by rw [size_of, hl]) (by omega) W A A' la.length lb.length c c' h q)
      have hx : l[la.length]? = some x := by rw [hlab]; simp
      have h' := Lib.hid h
      have hl' := Lib.hid hl
      have hx' := Lib.hid hx
      have htk' := Lib.hid htk
      have d1 : ((n : Int) == 0) = false := by rw [beq_eq_false_iff_ne]; omega
      have d2 : ¬ n = 0 := by omega
      obtain ⟨TT, hTT⟩ : ∃ T, (ofT l).told = T := ⟨_, rfl⟩
      rw [hTT] at hN ⊢
      obtain ⟨q, hq⟩ : ∃ q, la.length = q := ⟨_, rfl⟩
      rw [hq] at hA hB hN hx' htk' s1 s2 hlab2
      have hqn : q < n := by omega
      clear ih h hl hlen htop ht hL1 hL2 e1 e2 e3 hx htk hlab hTT hne hq
      go_enter Tryd.func24, Tryd.ntmps24
      go_wp2
      go_loopw [3, 4] (fun kk i wr => ∃ j : Nat, j + 1 ≤ n ∧ kk = nI (topK l j) ∧ i = nI (j + 1) ∧ Below w.heap.size w wr) (fun _ i _ => n - (intOf i).toNat)
      case atStart => exact ⟨0, by omega, rfl, rfl, Below.refl _ _⟩
      case round =>
        obtain ⟨j, hj, rfl, rfl, hbw⟩ := hrel
        have BW := Lib.hid hbw
        clear hbw
        have hkj := topK_le l j
        by_cases hlt : j + 1 < n
        · have hj1 : j + 1 < l.length := by rw [hl'.out]; exact hlt
          have hk1 : topK l j < l.length := by omega
          have hst := Lib.hid (topK_step hj1 hk1)
          obtain ⟨ad, rfl, hb2, g0, g1, g2⟩ := item_at (h'.out.next BW.out) (j + 1) hj1
          obtain ⟨ad', e, hb3, f0, f1, f2⟩ := item_at (h'.out.next BW.out) (topK l j) hk1
          cases e
          obtain ⟨x, hx⟩ : ∃ x, l[j + 1] = x := ⟨_, rfl⟩
          obtain ⟨y, hy⟩ : ∃ x, l[topK l j] = x := ⟨_, rfl⟩
          rw [hx] at g0 g1 g2 hst
          rw [hy] at f0 f1 f2 hst
          obtain ⟨tk, htk⟩ : ∃ k, topK l j = k := ⟨_, rfl⟩
          rw [htk] at f0 f1 f2 hst hkj hk1 ⊢
          have cA := Lib.hid (fun w => refAbove20 x y w)
          obtain ⟨ab, hab⟩ : ∃ b, aboveI x y = b := ⟨_, rfl⟩
          rw [hab] at cA hst
          have hkn : tk < n := by omega
          have hj9 : j ≤ 1000 := by omega
          have d3 : decide ((j : Int) + 1 < (n : Int)) = true := decide_eq_true (by omega)
          have n3 : (j : Int) + 1 < (n : Int) := by omega
          have n4 : (0 : Int) ≤ (j : Int) + 1 := by omega
          clear hx hy htk hab s1 s2
          cases ab with
          | true =>
            rw [if_pos rfl] at hst
            go_wp2_with fail
            refine wp_region_held_drew (S := fun W => W.cell? (ad.add ((j + 1) * 3)) = some (K x.k) ∧ W.cell? ⟨(ad.add ((j + 1) * 3)).block, (ad.add ((j + 1) * 3)).off + 1, none⟩ = some (K x.v) ∧ W.cell? ⟨(ad.add ((j + 1) * 3)).block, (ad.add ((j + 1) * 3)).off + 2, none⟩ = some (G64 x.g) ∧ W.cell? (ad.add (tk * 3)) = some (K y.k) ∧ W.cell? ⟨(ad.add (tk * 3)).block, (ad.add (tk * 3)).off + 1, none⟩ = some (K y.v) ∧ W.cell? ⟨(ad.add (tk * 3)).block, (ad.add (tk * 3)).off + 2, none⟩ = some (G64 y.g) ∧ Below wr.heap.size wr W) (by kernel_rfl) ⟨g0, g1, g2, f0, f1, f2, (Below.refl _ wr).drew⟩ (fun hS => ?_)
            refine wpAnyH_take (i := 0) (oi := ?dqr8q0) (v := ?dvr8q0) ?hir8q0 (by kernel_rfl) (by kernel_rfl) (by kernel_rfl) ?hQr8q0 (Or.inl ⟨?hwr8q0, ?hyr8q0⟩) hS ?hrr8q0
            case hir8q0 => simp only [List.getElem?_toArray, List.getElem?_cons_zero]; rfl
            case hQr8q0 => exact fun _ _ _ h => h
            case hwr8q0 => rfl
            case hyr8q0 => (intro w hSw; (try dsimp only at hSw); go_simp; (try with_reducible rfl))
            simp only [Act.put, List.setIfInBounds_toArray, List.set_cons_zero, List.set_cons_succ]
            refine wpAnyH_take (i := 1) (oi := ?dqr8q1) (v := ?dvr8q1) ?hir8q1 (by kernel_rfl) (by kernel_rfl) (by kernel_rfl) ?hQr8q1 (Or.inl ⟨?hwr8q1, ?hyr8q1⟩) hS ?hrr8q1
            case hir8q1 => simp only [List.getElem?_toArray, List.getElem?_cons_succ, List.getElem?_cons_zero]; rfl
            case hQr8q1 => exact fun _ _ _ h => h
            case hwr8q1 => rfl
            case hyr8q1 => (intro w hSw; (try dsimp only at hSw); go_simp; (try with_reducible rfl))
            simp only [Act.put, List.setIfInBounds_toArray, List.set_cons_zero, List.set_cons_succ]
            refine wpAnyH_take (i := 2) (oi := ?dqr8q2) (v := ?dvr8q2) ?hir8q2 (by kernel_rfl) (by kernel_rfl) (by kernel_rfl) ?hQr8q2 (Or.inl ⟨?hwr8q2, ?hyr8q2⟩) hS ?hrr8q2
            case hir8q2 => simp only [List.getElem?_toArray, List.getElem?_cons_succ, List.getElem?_cons_zero]; rfl
            case hQr8q2 => exact fun _ _ _ h => h
            case hwr8q2 => rfl
            case hyr8q2 => (intro w hSw; (try dsimp only at hSw); go_simp; (try with_reducible rfl))
            simp only [Act.put, List.setIfInBounds_toArray, List.set_cons_zero, List.set_cons_succ]
            refine wpAnyH_take (i := 3) (oi := ?dqr8q3) (v := ?dvr8q3) ?hir8q3 (by kernel_rfl) (by kernel_rfl) (by kernel_rfl) ?hQr8q3 (Or.inl ⟨?hwr8q3, ?hyr8q3⟩) hS ?hrr8q3
            case hir8q3 => simp only [List.getElem?_toArray, List.getElem?_cons_succ, List.getElem?_cons_zero]; rfl
            case hQr8q3 => exact fun _ _ _ h => h
            case hwr8q3 => rfl
            case hyr8q3 => (intro w hSw; (try dsimp only at hSw); go_simp; (try with_reducible rfl))
            simp only [Act.put, List.setIfInBounds_toArray, List.set_cons_zero, List.set_cons_succ]
            refine wpAnyH_take (i := 4) (oi := ?dqr8q4) (v := ?dvr8q4) ?hir8q4 (by kernel_rfl) (by kernel_rfl) (by kernel_rfl) ?hQr8q4 (Or.inl ⟨?hwr8q4, ?hyr8q4⟩) hS ?hrr8q4
            case hir8q4 => simp only [List.getElem?_toArray, List.getElem?_cons_succ, List.getElem?_cons_zero]; rfl
            case hQr8q4 => exact fun _ _ _ h => h
            case hwr8q4 => rfl
            case hyr8q4 => (intro w hSw; (try dsimp only at hSw); go_simp; (try with_reducible rfl))
            simp only [Act.put, List.setIfInBounds_toArray, List.set_cons_zero, List.set_cons_succ]
            refine wpAnyH_take (i := 5) (oi := ?dqr8q5) (v := ?dvr8q5) ?hir8q5 (by kernel_rfl) (by kernel_rfl) (by kernel_rfl) ?hQr8q5 (Or.inl ⟨?hwr8q5, ?hyr8q5⟩) hS ?hrr8q5
            case hir8q5 => simp only [List.getElem?_toArray, List.getElem?_cons_succ, List.getElem?_cons_zero]; rfl
            case hQr8q5 => exact fun _ _ _ h => h
            case hwr8q5 => rfl
            case hyr8q5 => (intro w hSw; (try dsimp only at hSw); go_simp; (try with_reducible rfl))
            simp only [Act.put, List.setIfInBounds_toArray, List.set_cons_zero, List.set_cons_succ]
            refine wpAnyH_take (i := 6) (oi := ?dqr8q6) (v := ?dvr8q6) ?hir8q6 (by kernel_rfl) (by kernel_rfl) (by kernel_rfl) ?hQr8q6 (Or.inl ⟨?hwr8q6, ?hyr8q6⟩) hS ?hrr8q6
            case hir8q6 => simp only [List.getElem?_toArray, List.getElem?_cons_succ, List.getElem?_cons_zero]; rfl
            case hQr8q6 => exact fun _ _ _ h => h
            case hwr8q6 => rfl
            case hyr8q6 => (intro w hSw; (try dsimp only at hSw); go_simp; (try with_reducible rfl))
            simp only [Act.put, List.setIfInBounds_toArray, List.set_cons_zero, List.set_cons_succ]
            refine wpAnyH_take (i := 7) (oi := ?dqr8q7) (v := ?dvr8q7) ?hir8q7 (by kernel_rfl) (by kernel_rfl) (by kernel_rfl) ?hQr8q7 (Or.inl ⟨?hwr8q7, ?hyr8q7⟩) hS ?hrr8q7
            case hir8q7 => simp only [List.getElem?_toArray, List.getElem?_cons_succ, List.getElem?_cons_zero]; rfl
            case hQr8q7 => exact fun _ _ _ h => h
            case hwr8q7 => rfl
            case hyr8q7 => (intro w hSw; (try dsimp only at hSw); go_simp; (try with_reducible rfl))
            simp only [Act.put, List.setIfInBounds_toArray, List.set_cons_zero, List.set_cons_succ]
            refine wpAnyH_ready (rs := [8]) (by kernel_rfl) (by simp) ?_
            refine AllReadyH.cons (o := ?dqr8q8) ?hir8q8 (fun K hK => ?_) AllReadyH.nil
            case hir8q8 => simp only [List.getElem?_toArray, List.getElem?_cons_succ, List.getElem?_cons_zero]; rfl
            go_simp
            go_at_call 21
            refine (cA.out _).mono ?_
            rintro e u1 ⟨rfl, hb⟩
            have hS2 := (And.intro (keep_cell hb hS.1) (And.intro (keep_cell hb hS.2.1) (And.intro (keep_cell hb hS.2.2.1) (And.intro (keep_cell hb hS.2.2.2.1) (And.intro (keep_cell hb hS.2.2.2.2.1) (And.intro (keep_cell hb hS.2.2.2.2.2.1) (Below.after hS.2.2.2.2.2.2 hb)))))))
            clear hS
            refine hK.out _ _ hS2 (fun hS => ?_)
            clear hS2 hK K
            try simp only [Act.put, List.setIfInBounds_toArray, List.set_cons_zero, List.set_cons_succ]
            refine wpAnyH_done (by kernel_rfl) ?_ _
            have hb4 := Lib.hid hS.2.2.2.2.2.2
            clear hS cA g0 g1 g2 f0 f1 f2
            go_wp2_with fail
            go_roundw
            case rel => exact ⟨j + 1, by omega, by rw [hst.out], by go_num, BW.out.trans (hb4.out.mono BW.out.size)⟩
            case measure => simp [intOf]; omega
          | false =>
            rw [if_neg (by decide)] at hst
            go_wp2_with fail
            refine wp_region_held_drew (S := fun W => W.cell? (ad.add ((j + 1) * 3)) = some (K x.k) ∧ W.cell? ⟨(ad.add ((j + 1) * 3)).block, (ad.add ((j + 1) * 3)).off + 1, none⟩ = some (K x.v) ∧ W.cell? ⟨(ad.add ((j + 1) * 3)).block, (ad.add ((j + 1) * 3)).off + 2, none⟩ = some (G64 x.g) ∧ W.cell? (ad.add (tk * 3)) = some (K y.k) ∧ W.cell? ⟨(ad.add (tk * 3)).block, (ad.add (tk * 3)).off + 1, none⟩ = some (K y.v) ∧ W.cell? ⟨(ad.add (tk * 3)).block, (ad.add (tk * 3)).off + 2, none⟩ = some (G64 y.g) ∧ Below wr.heap.size wr W) (by kernel_rfl) ⟨g0, g1, g2, f0, f1, f2, (Below.refl _ wr).drew⟩ (fun hS => ?_)
            refine wpAnyH_take (i := 0) (oi := ?dqr9q0) (v := ?dvr9q0) ?hir9q0 (by kernel_rfl) (by kernel_rfl) (by kernel_rfl) ?hQr9q0 (Or.inl ⟨?hwr9q0, ?hyr9q0⟩) hS ?hrr9q0
            case hir9q0 => simp only [List.getElem?_toArray, List.getElem?_cons_zero]; rfl
            case hQr9q0 => exact fun _ _ _ h => h
            case hwr9q0 => rfl
            case hyr9q0 => (intro w hSw; (try dsimp only at hSw); go_simp; (try with_reducible rfl))
            simp only [Act.put, List.setIfInBounds_toArray, List.set_cons_zero, List.set_cons_succ]
            refine wpAnyH_take (i := 1) (oi := ?dqr9q1) (v := ?dvr9q1) ?hir9q1 (by kernel_rfl) (by kernel_rfl) (by kernel_rfl) ?hQr9q1 (Or.inl ⟨?hwr9q1, ?hyr9q1⟩) hS ?hrr9q1
            case hir9q1 => simp only [List.getElem?_toArray, List.getElem?_cons_succ, List.getElem?_cons_zero]; rfl
            case hQr9q1 => exact fun _ _ _ h => h
            case hwr9q1 => rfl
            case hyr9q1 => (intro w hSw; (try dsimp only at hSw); go_simp; (try with_reducible rfl))
            simp only [Act.put, List.setIfInBounds_toArray, List.set_cons_zero, List.set_cons_succ]
            refine wpAnyH_take (i := 2) (oi := ?dqr9q2) (v := ?dvr9q2) ?hir9q2 (by kernel_rfl) (by kernel_rfl) (by kernel_rfl) ?hQr9q2 (Or.inl ⟨?hwr9q2, ?hyr9q2⟩) hS ?hrr9q2
            case hir9q2 => simp only [List.getElem?_toArray, List.getElem?_cons_succ, List.getElem?_cons_zero]; rfl
            case hQr9q2 => exact fun _ _ _ h => h
            case hwr9q2 => rfl
            case hyr9q2 => (intro w hSw; (try dsimp only at hSw); go_simp; (try with_reducible rfl))
            simp only [Act.put, List.setIfInBounds_toArray, List.set_cons_zero, List.set_cons_succ]
            refine wpAnyH_take (i := 3) (oi := ?dqr9q3) (v := ?dvr9q3) ?hir9q3 (by kernel_rfl) (by kernel_rfl) (by kernel_rfl) ?hQr9q3 (Or.inl ⟨?hwr9q3, ?hyr9q3⟩) hS ?hrr9q3
            case hir9q3 => simp only [List.getElem?_toArray, List.getElem?_cons_succ, List.getElem?_cons_zero]; rfl
            case hQr9q3 => exact fun _ _ _ h => h
            case hwr9q3 => rfl
            case hyr9q3 => (intro w hSw; (try dsimp only at hSw); go_simp; (try with_reducible rfl))
            simp only [Act.put, List.setIfInBounds_toArray, List.set_cons_zero, List.set_cons_succ]
            refine wpAnyH_take (i := 4) (oi := ?dqr9q4) (v := ?dvr9q4) ?hir9q4 (by kernel_rfl) (by kernel_rfl) (by kernel_rfl) ?hQr9q4 (Or.inl ⟨?hwr9q4, ?hyr9q4⟩) hS ?hrr9q4
            case hir9q4 => simp only [List.getElem?_toArray, List.getElem?_cons_succ, List.getElem?_cons_zero]; rfl
            case hQr9q4 => exact fun _ _ _ h => h
            case hwr9q4 => rfl
            case hyr9q4 => (intro w hSw; (try dsimp only at hSw); go_simp; (try with_reducible rfl))
            simp only [Act.put, List.setIfInBounds_toArray, List.set_cons_zero, List.set_cons_succ]
            refine wpAnyH_take (i := 5) (oi := ?dqr9q5) (v := ?dvr9q5) ?hir9q5 (by kernel_rfl) (by kernel_rfl) (by kernel_rfl) ?hQr9q5 (Or.inl ⟨?hwr9q5, ?hyr9q5⟩) hS ?hrr9q5
            case hir9q5 => simp only [List.getElem?_toArray, List.getElem?_cons_succ, List.getElem?_cons_zero]; rfl
            case hQr9q5 => exact fun _ _ _ h => h
            case hwr9q5 => rfl
            case hyr9q5 => (intro w hSw; (try dsimp only at hSw); go_simp; (try with_reducible rfl))
            simp only [Act.put, List.setIfInBounds_toArray, List.set_cons_zero, List.set_cons_succ]
            refine wpAnyH_take (i := 6) (oi := ?dqr9q6) (v := ?dvr9q6) ?hir9q6 (by kernel_rfl) (by kernel_rfl) (by kernel_rfl) ?hQr9q6 (Or.inl ⟨?hwr9q6, ?hyr9q6⟩) hS ?hrr9q6
            case hir9q6 => simp only [List.getElem?_toArray, List.getElem?_cons_succ, List.getElem?_cons_zero]; rfl
            case hQr9q6 => exact fun _ _ _ h => h
            case hwr9q6 => rfl
            case hyr9q6 => (intro w hSw; (try dsimp only at hSw); go_simp; (try with_reducible rfl))
            simp only [Act.put, List.setIfInBounds_toArray, List.set_cons_zero, List.set_cons_succ]
            refine wpAnyH_take (i := 7) (oi := ?dqr9q7) (v := ?dvr9q7) ?hir9q7 (by kernel_rfl) (by kernel_rfl) (by kernel_rfl) ?hQr9q7 (Or.inl ⟨?hwr9q7, ?hyr9q7⟩) hS ?hrr9q7
            case hir9q7 => simp only [List.getElem?_toArray, List.getElem?_cons_succ, List.getElem?_cons_zero]; rfl
            case hQr9q7 => exact fun _ _ _ h => h
            case hwr9q7 => rfl
            case hyr9q7 => (intro w hSw; (try dsimp only at hSw); go_simp; (try with_reducible rfl))
            simp only [Act.put, List.setIfInBounds_toArray, List.set_cons_zero, List.set_cons_succ]
            refine wpAnyH_ready (rs := [8]) (by kernel_rfl) (by simp) ?_
            refine AllReadyH.cons (o := ?dqr9q8) ?hir9q8 (fun K hK => ?_) AllReadyH.nil
            case hir9q8 => simp only [List.getElem?_toArray, List.getElem?_cons_succ, List.getElem?_cons_zero]; rfl
            go_simp
            go_at_call 21
            refine (cA.out _).mono ?_
            rintro e u1 ⟨rfl, hb⟩
            have hS2 := (And.intro (keep_cell hb hS.1) (And.intro (keep_cell hb hS.2.1) (And.intro (keep_cell hb hS.2.2.1) (And.intro (keep_cell hb hS.2.2.2.1) (And.intro (keep_cell hb hS.2.2.2.2.1) (And.intro (keep_cell hb hS.2.2.2.2.2.1) (Below.after hS.2.2.2.2.2.2 hb)))))))
            clear hS
            refine hK.out _ _ hS2 (fun hS => ?_)
            clear hS2 hK K
            try simp only [Act.put, List.setIfInBounds_toArray, List.set_cons_zero, List.set_cons_succ]
            refine wpAnyH_done (by kernel_rfl) ?_ _
            have hb4 := Lib.hid hS.2.2.2.2.2.2
            clear hS cA g0 g1 g2 f0 f1 f2
            go_wp2_with fail
            go_roundw
            case rel => exact ⟨j + 1, by omega, by rw [hst.out], by go_num, BW.out.trans (hb4.out.mono BW.out.size)⟩
            case measure => simp [intOf]; omega
        · have hjn : j + 1 = n := by omega
          have htq : topK l j = q := by have := htk'.out; rwa [show n - 1 = j by omega] at this
          rw [htq] at hkj ⊢
          rw [hjn]
          have hql : q < l.length := by rw [hl'.out]; omega
          obtain ⟨ad, rfl, hb2, f0, f1, f2⟩ := item_at (h'.out.next BW.out) q hql
          have hxq : l[q] = x := by have := hx'.out; rw [List.getElem?_eq_getElem hql] at this; exact Option.some.inj this
          rw [hxq] at f0 f1 f2
          have e4 : IntKind.i64.wrap ((q : Int) + 1) = (q : Int) + 1 := IntWalk.i64_in _ (by omega)
          obtain ⟨tk, htk⟩ : ∃ k, q = k := ⟨_, rfl⟩
          rw [htk] at f0 f1 f2 s1 s2 hA hB hN hqn e4 ⊢
          clear htk hx' htk' hxq htq hkj hlab2 hjn hj hlt
          go_wp2_with fail
          refine wp_region_held_drew (S := fun W => W.cell? (ad.add (tk * 3)) = some (K x.k) ∧ W.cell? ⟨(ad.add (tk * 3)).block, (ad.add (tk * 3)).off + 1, none⟩ = some (K x.v) ∧ W.cell? ⟨(ad.add (tk * 3)).block, (ad.add (tk * 3)).off + 2, none⟩ = some (G64 x.g) ∧ Below wr.heap.size wr W) (by kernel_rfl) ⟨f0, f1, f2, (Below.refl _ wr).drew⟩ (fun hS => ?_)
          refine wpAnyH_take (i := 0) (oi := ?dqr10q0) (v := ?dvr10q0) ?hir10q0 (by kernel_rfl) (by kernel_rfl) (by kernel_rfl) ?hQr10q0 (Or.inl ⟨?hwr10q0, ?hyr10q0⟩) hS ?hrr10q0
          case hir10q0 => simp only [List.getElem?_toArray, List.getElem?_cons_zero]; rfl
          case hQr10q0 => exact fun _ _ _ h => h
          case hwr10q0 => rfl
          case hyr10q0 => (intro w hSw; (try dsimp only at hSw); go_simp; (try with_reducible rfl))
          simp only [Act.put, List.setIfInBounds_toArray, List.set_cons_zero, List.set_cons_succ]
          refine wpAnyH_take (i := 1) (oi := ?dqr10q1) (v := ?dvr10q1) ?hir10q1 (by kernel_rfl) (by kernel_rfl) (by kernel_rfl) ?hQr10q1 (Or.inl ⟨?hwr10q1, ?hyr10q1⟩) hS ?hrr10q1
          case hir10q1 => simp only [List.getElem?_toArray, List.getElem?_cons_succ, List.getElem?_cons_zero]; rfl
          case hQr10q1 => exact fun _ _ _ h => h
          case hwr10q1 => rfl
          case hyr10q1 => (intro w hSw; (try dsimp only at hSw); go_simp; (try with_reducible rfl))
          simp only [Act.put, List.setIfInBounds_toArray, List.set_cons_zero, List.set_cons_succ]
          refine wpAnyH_take (i := 2) (oi := ?dqr10q2) (v := ?dvr10q2) ?hir10q2 (by kernel_rfl) (by kernel_rfl) (by kernel_rfl) ?hQr10q2 (Or.inl ⟨?hwr10q2, ?hyr10q2⟩) hS ?hrr10q2
          case hir10q2 => simp only [List.getElem?_toArray, List.getElem?_cons_succ, List.getElem?_cons_zero]; rfl
          case hQr10q2 => exact fun _ _ _ h => h
          case hwr10q2 => rfl
          case hyr10q2 => (intro w hSw; (try dsimp only at hSw); go_simp; (try with_reducible rfl))
          simp only [Act.put, List.setIfInBounds_toArray, List.set_cons_zero, List.set_cons_succ]
          refine wpAnyH_take (i := 4) (oi := ?dqr10q4) (v := ?dvr10q4) ?hir10q4 (by kernel_rfl) (by kernel_rfl) (by kernel_rfl) ?hQr10q4 (Or.inl ⟨?hwr10q4, ?hyr10q4⟩) hS ?hrr10q4
          case hir10q4 => simp only [List.getElem?_toArray, List.getElem?_cons_succ, List.getElem?_cons_zero]; rfl
          case hQr10q4 => exact fun _ _ _ h => h
          case hwr10q4 => rfl
          case hyr10q4 => (intro w hSw; (try dsimp only at hSw); go_simp; (try with_reducible rfl))
          simp only [Act.put, List.setIfInBounds_toArray, List.set_cons_zero, List.set_cons_succ]
          refine wpAnyH_take (i := 5) (oi := ?dqr10q5) (v := ?dvr10q5) ?hir10q5 (by kernel_rfl) (by kernel_rfl) (by kernel_rfl) ?hQr10q5 (Or.inl ⟨?hwr10q5, ?hyr10q5⟩) hS ?hrr10q5
          case hir10q5 => simp only [List.getElem?_toArray, List.getElem?_cons_succ, List.getElem?_cons_zero]; rfl
          case hQr10q5 => exact fun _ _ _ h => h
          case hwr10q5 => rfl
          case hyr10q5 => (intro w hSw; (try dsimp only at hSw); go_simp; (try with_reducible rfl))
          simp only [Act.put, List.setIfInBounds_toArray, List.set_cons_zero, List.set_cons_succ]
          refine wpAnyH_take (i := 6) (oi := ?dqr10q6) (v := ?dvr10q6) ?hir10q6 (by kernel_rfl) (by kernel_rfl) (by kernel_rfl) ?hQr10q6 (Or.inl ⟨?hwr10q6, ?hyr10q6⟩) hS ?hrr10q6
          case hir10q6 => simp only [List.getElem?_toArray, List.getElem?_cons_succ, List.getElem?_cons_zero]; rfl
          case hQr10q6 => exact fun _ _ _ h => h
          case hwr10q6 => rfl
          case hyr10q6 => (intro w hSw; (try dsimp only at hSw); go_simp; (try with_reducible rfl))
          simp only [Act.put, List.setIfInBounds_toArray, List.set_cons_zero, List.set_cons_succ]
          refine wpAnyH_take (i := 7) (oi := ?dqr10q7) (v := ?dvr10q7) ?hir10q7 (by kernel_rfl) (by kernel_rfl) (by kernel_rfl) ?hQr10q7 (Or.inl ⟨?hwr10q7, ?hyr10q7⟩) hS ?hrr10q7
          case hir10q7 => simp only [List.getElem?_toArray, List.getElem?_cons_succ, List.getElem?_cons_zero]; rfl
          case hQr10q7 => exact fun _ _ _ h => h
          case hwr10q7 => rfl
          case hyr10q7 => (intro w hSw; (try dsimp only at hSw); go_simp; (try with_reducible rfl))
          simp only [Act.put, List.setIfInBounds_toArray, List.set_cons_zero, List.set_cons_succ]
          refine wpAnyH_take (i := 8) (oi := ?dqr10q8) (v := ?dvr10q8) ?hir10q8 (by kernel_rfl) (by kernel_rfl) (by kernel_rfl) ?hQr10q8 (Or.inl ⟨?hwr10q8, ?hyr10q8⟩) hS ?hrr10q8
          case hir10q8 => simp only [List.getElem?_toArray, List.getElem?_cons_succ, List.getElem?_cons_zero]; rfl
          case hQr10q8 => exact fun _ _ _ h => h
          case hwr10q8 => rfl
          case hyr10q8 => (intro w hSw; (try dsimp only at hSw); go_simp; (try with_reducible rfl))
          simp only [Act.put, List.setIfInBounds_toArray, List.set_cons_zero, List.set_cons_succ]
          refine wpAnyH_take (i := 9) (oi := ?dqr10q9) (v := ?dvr10q9) ?hir10q9 (by kernel_rfl) (by kernel_rfl) (by kernel_rfl) ?hQr10q9 (Or.inl ⟨?hwr10q9, ?hyr10q9⟩) hS ?hrr10q9
          case hir10q9 => simp only [List.getElem?_toArray, List.getElem?_cons_succ, List.getElem?_cons_zero]; rfl
          case hQr10q9 => exact fun _ _ _ h => h
          case hwr10q9 => rfl
          case hyr10q9 => (intro w hSw; (try dsimp only at hSw); go_simp; (try with_reducible rfl))
          simp only [Act.put, List.setIfInBounds_toArray, List.set_cons_zero, List.set_cons_succ]
          refine wpAnyH_take (i := 10) (oi := ?dqr10q10) (v := ?dvr10q10) ?hir10q10 (by kernel_rfl) (by kernel_rfl) (by kernel_rfl) ?hQr10q10 (Or.inl ⟨?hwr10q10, ?hyr10q10⟩) hS ?hrr10q10
          case hir10q10 => simp only [List.getElem?_toArray, List.getElem?_cons_succ, List.getElem?_cons_zero]; rfl
          case hQr10q10 => exact fun _ _ _ h => h
          case hwr10q10 => rfl
          case hyr10q10 => (intro w hSw; (try dsimp only at hSw); go_simp; (try with_reducible rfl))
          simp only [Act.put, List.setIfInBounds_toArray, List.set_cons_zero, List.set_cons_succ]
          refine wpAnyH_take (i := 11) (oi := ?dqr10q11) (v := ?dvr10q11) ?hir10q11 (by kernel_rfl) (by kernel_rfl) (by kernel_rfl) ?hQr10q11 (Or.inl ⟨?hwr10q11, ?hyr10q11⟩) hS ?hrr10q11
          case hir10q11 => simp only [List.getElem?_toArray, List.getElem?_cons_succ, List.getElem?_cons_zero]; rfl
          case hQr10q11 => exact fun _ _ _ h => h
          case hwr10q11 => rfl
          case hyr10q11 => (intro w hSw; (try dsimp only at hSw); go_simp; (try with_reducible rfl))
          simp only [Act.put, List.setIfInBounds_toArray, List.set_cons_zero, List.set_cons_succ]
          refine wpAnyH_take (i := 12) (oi := ?dqr10q12) (v := ?dvr10q12) ?hir10q12 (by kernel_rfl) (by kernel_rfl) (by kernel_rfl) ?hQr10q12 (Or.inl ⟨?hwr10q12, ?hyr10q12⟩) hS ?hrr10q12
          case hir10q12 => simp only [List.getElem?_toArray, List.getElem?_cons_succ, List.getElem?_cons_zero]; rfl
          case hQr10q12 => exact fun _ _ _ h => h
          case hwr10q12 => rfl
          case hyr10q12 => (intro w hSw; (try dsimp only at hSw); go_simp; (try with_reducible rfl))
          simp only [Act.put, List.setIfInBounds_toArray, List.set_cons_zero, List.set_cons_succ]
          refine wpAnyH_take (i := 13) (oi := ?dqr10q13) (v := ?dvr10q13) ?hir10q13 (by kernel_rfl) (by kernel_rfl) (by kernel_rfl) ?hQr10q13 (Or.inl ⟨?hwr10q13, ?hyr10q13⟩) hS ?hrr10q13
          case hir10q13 => simp only [List.getElem?_toArray, List.getElem?_cons_succ, List.getElem?_cons_zero]; rfl
          case hQr10q13 => exact fun _ _ _ h => h
          case hwr10q13 => rfl
          case hyr10q13 => (intro w hSw; (try dsimp only at hSw); go_simp; (try with_reducible rfl))
          simp only [Act.put, List.setIfInBounds_toArray, List.set_cons_zero, List.set_cons_succ]
          refine wpAnyH_take (i := 14) (oi := ?dqr10q14) (v := ?dvr10q14) ?hir10q14 (by kernel_rfl) (by kernel_rfl) (by kernel_rfl) ?hQr10q14 (Or.inl ⟨?hwr10q14, ?hyr10q14⟩) hS ?hrr10q14
          case hir10q14 => simp only [List.getElem?_toArray, List.getElem?_cons_succ, List.getElem?_cons_zero]; rfl
          case hQr10q14 => exact fun _ _ _ h => h
          case hwr10q14 => rfl
          case hyr10q14 => (intro w hSw; (try dsimp only at hSw); go_simp; (try with_reducible rfl))
          simp only [Act.put, List.setIfInBounds_toArray, List.set_cons_zero, List.set_cons_succ]
          refine wpAnyH_take (i := 15) (oi := ?dqr10q15) (v := ?dvr10q15) ?hir10q15 (by kernel_rfl) (by kernel_rfl) (by kernel_rfl) ?hQr10q15 (Or.inl ⟨?hwr10q15, ?hyr10q15⟩) hS ?hrr10q15
          case hir10q15 => simp only [List.getElem?_toArray, List.getElem?_cons_succ, List.getElem?_cons_zero]; rfl
          case hQr10q15 => exact fun _ _ _ h => h
          case hwr10q15 => rfl
          case hyr10q15 => (intro w hSw; (try dsimp only at hSw); go_simp; (try with_reducible rfl))
          simp only [Act.put, List.setIfInBounds_toArray, List.set_cons_zero, List.set_cons_succ]
          refine wpAnyH_take (i := 16) (oi := ?dqr10q16) (v := ?dvr10q16) ?hir10q16 (by kernel_rfl) (by kernel_rfl) (by kernel_rfl) ?hQr10q16 (Or.inl ⟨?hwr10q16, ?hyr10q16⟩) hS ?hrr10q16
          case hir10q16 => simp only [List.getElem?_toArray, List.getElem?_cons_succ, List.getElem?_cons_zero]; rfl
          case hQr10q16 => exact fun _ _ _ h => h
          case hwr10q16 => rfl
          case hyr10q16 => (intro w hSw; (try dsimp only at hSw); go_simp; (try with_reducible rfl))
          simp only [Act.put, List.setIfInBounds_toArray, List.set_cons_zero, List.set_cons_succ]
          refine wpAnyH_take (i := 17) (oi := ?dqr10q17) (v := ?dvr10q17) ?hir10q17 (by kernel_rfl) (by kernel_rfl) (by kernel_rfl) ?hQr10q17 (Or.inl ⟨?hwr10q17, ?hyr10q17⟩) hS ?hrr10q17
          case hir10q17 => simp only [List.getElem?_toArray, List.getElem?_cons_succ, List.getElem?_cons_zero]; rfl
          case hQr10q17 => exact fun _ _ _ h => h
          case hwr10q17 => rfl
          case hyr10q17 => (intro w hSw; (try dsimp only at hSw); go_simp; (try with_reducible rfl))
          simp only [Act.put, List.setIfInBounds_toArray, List.set_cons_zero, List.set_cons_succ]
          refine wpAnyH_take (i := 18) (oi := ?dqr10q18) (v := ?dvr10q18) ?hir10q18 (by kernel_rfl) (by kernel_rfl) (by kernel_rfl) ?hQr10q18 (Or.inl ⟨?hwr10q18, ?hyr10q18⟩) hS ?hrr10q18
          case hir10q18 => simp only [List.getElem?_toArray, List.getElem?_cons_succ, List.getElem?_cons_zero]; rfl
          case hQr10q18 => exact fun _ _ _ h => h
          case hwr10q18 => rfl
          case hyr10q18 => (intro w hSw; (try dsimp only at hSw); go_simp; (try with_reducible rfl))
          simp only [Act.put, List.setIfInBounds_toArray, List.set_cons_zero, List.set_cons_succ]
          refine wpAnyH_take (i := 19) (oi := ?dqr10q19) (v := ?dvr10q19) ?hir10q19 (by kernel_rfl) (by kernel_rfl) (by kernel_rfl) ?hQr10q19 (Or.inl ⟨?hwr10q19, ?hyr10q19⟩) hS ?hrr10q19
          case hir10q19 => simp only [List.getElem?_toArray, List.getElem?_cons_succ, List.getElem?_cons_zero]; rfl
          case hQr10q19 => exact fun _ _ _ h => h
          case hwr10q19 => rfl
          case hyr10q19 => (intro w hSw; (try dsimp only at hSw); go_simp; (try with_reducible rfl))
          simp only [Act.put, List.setIfInBounds_toArray, List.set_cons_zero, List.set_cons_succ]
          refine wpAnyH_take (i := 20) (oi := ?dqr10q20) (v := ?dvr10q20) ?hir10q20 (by kernel_rfl) (by kernel_rfl) (by kernel_rfl) ?hQr10q20 (Or.inl ⟨?hwr10q20, ?hyr10q20⟩) hS ?hrr10q20
          case hir10q20 => simp only [List.getElem?_toArray, List.getElem?_cons_succ, List.getElem?_cons_zero]; rfl
          case hQr10q20 => exact fun _ _ _ h => h
          case hwr10q20 => rfl
          case hyr10q20 => (intro w hSw; (try dsimp only at hSw); go_simp; (try with_reducible rfl))
          simp only [Act.put, List.setIfInBounds_toArray, List.set_cons_zero, List.set_cons_succ]
          refine wpAnyH_take (i := 21) (oi := ?dqr10q21) (v := ?dvr10q21) ?hir10q21 (by kernel_rfl) (by kernel_rfl) (by kernel_rfl) ?hQr10q21 (Or.inl ⟨?hwr10q21, ?hyr10q21⟩) hS ?hrr10q21
          case hir10q21 => simp only [List.getElem?_toArray, List.getElem?_cons_succ, List.getElem?_cons_zero]; rfl
          case hQr10q21 => exact fun _ _ _ h => h
          case hwr10q21 => rfl
          case hyr10q21 => (intro w hSw; (try dsimp only at hSw); go_simp; (try with_reducible rfl))
          simp only [Act.put, List.setIfInBounds_toArray, List.set_cons_zero, List.set_cons_succ]
          refine wpAnyH_take (i := 22) (oi := ?dqr10q22) (v := ?dvr10q22) ?hir10q22 (by kernel_rfl) (by kernel_rfl) (by kernel_rfl) ?hQr10q22 (Or.inl ⟨?hwr10q22, ?hyr10q22⟩) hS ?hrr10q22
          case hir10q22 => simp only [List.getElem?_toArray, List.getElem?_cons_succ, List.getElem?_cons_zero]; rfl
          case hQr10q22 => exact fun _ _ _ h => h
          case hwr10q22 => rfl
          case hyr10q22 => (intro w hSw; (try dsimp only at hSw); go_simp; (try with_reducible rfl))
          simp only [Act.put, List.setIfInBounds_toArray, List.set_cons_zero, List.set_cons_succ]
          refine wpAnyH_ready (rs := [3]) (by kernel_rfl) (by simp) ?_
          refine AllReadyH.cons (o := ?dqr10q3) ?hir10q3 (fun K hK => ?_) AllReadyH.nil
          case hir10q3 => simp only [List.getElem?_toArray, List.getElem?_cons_succ, List.getElem?_cons_zero]; rfl
          go_simp
          go_at_call 24
          refine (hA.out _ (BW.out.trans (hS.2.2.2.mono BW.out.size))).mono ?_
          rintro e u1 ⟨A3, c3, rfl, hL3, hb⟩
          have L3 := Lib.hid hL3
          clear hL3
          have hS2 := (And.intro (keep_cell hb hS.1) (And.intro (keep_cell hb hS.2.1) (And.intro (keep_cell hb hS.2.2.1) (Below.after hS.2.2.2 hb))))
          clear hS
          refine hK.out _ _ hS2 (fun hS => ?_)
          clear hS2 hK K
          try simp only [Act.put, List.setIfInBounds_toArray, List.set_cons_zero, List.set_cons_succ]
          refine wpAnyH_ready (rs := [23]) (by kernel_rfl) (by simp) ?_
          refine AllReadyH.cons (o := ?dqr10q23) ?hir10q23 (fun K hK => ?_) AllReadyH.nil
          case hir10q23 => simp only [List.getElem?_toArray, List.getElem?_cons_succ, List.getElem?_cons_zero]; rfl
          go_simp
          go_at_call 24
          refine (hB.out _ (BW.out.trans (hS.2.2.2.mono BW.out.size))).mono ?_
          rintro e u2 ⟨A4, c4, rfl, hL4, hb⟩
          have L3 := Lib.hid (L3.out.after hb)
          have L4 := Lib.hid hL4
          clear hL4
          have hS2 := (And.intro (keep_cell hb hS.1) (And.intro (keep_cell hb hS.2.1) (And.intro (keep_cell hb hS.2.2.1) (Below.after hS.2.2.2 hb))))
          clear hS
          refine hK.out _ _ hS2 (fun hS => ?_)
          clear hS2 hK K
          try simp only [Act.put, List.setIfInBounds_toArray, List.set_cons_zero, List.set_cons_succ]
          refine wpAnyH_ready (rs := [24]) (by kernel_rfl) (by simp) ?_
          refine AllReadyH.cons (o := ?dqr10q24) ?hir10q24 (fun K hK => ?_) AllReadyH.nil
          case hir10q24 => simp only [List.getElem?_toArray, List.getElem?_cons_succ, List.getElem?_cons_zero]; rfl
          go_simp
          go_at_call 46
          refine (hN.out _ _ _ _ _ L3.out L4.out).mono ?_
          rintro e u3 ⟨A5, c5, rfl, hL5, hb⟩
          have L5 := Lib.hid hL5
          clear hL5
          have hS2 := (And.intro (keep_cell hb hS.1) (And.intro (keep_cell hb hS.2.1) (And.intro (keep_cell hb hS.2.2.1) (Below.after hS.2.2.2 hb))))
          clear hS
          refine hK.out _ _ hS2 (fun hS => ?_)
          clear hS2 hK K
          try simp only [Act.put, List.setIfInBounds_toArray, List.set_cons_zero, List.set_cons_succ]
          refine wpAnyH_take (i := 25) (oi := ?dqr10q25) (v := ?dvr10q25) ?hir10q25 (by kernel_rfl) (by kernel_rfl) (by kernel_rfl) ?hQr10q25 (Or.inl ⟨?hwr10q25, ?hyr10q25⟩) hS ?hrr10q25
          case hir10q25 => simp only [List.getElem?_toArray, List.getElem?_cons_succ, List.getElem?_cons_zero]; rfl
          case hQr10q25 => exact fun _ _ _ h => h
          case hwr10q25 => rfl
          case hyr10q25 => (intro w hSw; (try dsimp only at hSw); go_simp; (try with_reducible rfl))
          simp only [Act.put, List.setIfInBounds_toArray, List.set_cons_zero, List.set_cons_succ]
          refine wpAnyH_done (by kernel_rfl) ?_ _
          have hb4 := Lib.hid hS.2.2.2
          clear hS hA hB hN f0 f1 f2
          go_wp2_with fail
          go_ret
          exact ⟨A5, c5, rfl, L5.out, BW.out.trans (hb4.out.mono BW.out.size)⟩
end Go.Proofs.YtcnkgddldhkddaaDoor
namespace Go.Proofs.YtcnkgddldhkddaaDoor
open Go.RowKit Go.Proofs.Treem
set_option maxRecDepth 100000
variable {Nd : NdP} {T : World → Prop}

/-- the root of a tree stands above that of another one -/
def aboveT : Tr → Tr → Bool
  | .n _ k v g _, .n _ k' v' g' _ => aboveI ⟨k, v, g⟩ ⟨k', v', g'⟩
  | _, _ => false
/-- what the functions of package treap have to answer, over a condition on the world (what package mix has laid) -/
structure TreapSays (Nd : NdP) (T : World → Prop) : Prop where
  now : ∀ (w w' : World), T w → Below w.heap.size w w' → T w'
  above : ∀ (w : World) (t u : Tr) (p q : Option Addr), TreeAt Nd w w.heap.size t p → TreeAt Nd w w.heap.size u q → Calls Tryd.prog 20 #[.pointer p, .pointer q] w fun e w' => e = .returned (.bool (aboveT t u)) ∧ Below w.heap.size w w'
  check : ∀ (w : World) (t : Tr) (p : Option Addr), TreeAt Nd w w.heap.size t p → t.size ≤ 5000 → Calls Tryd.prog 10 #[.pointer p] w fun e w' => e = .returned (.tuple #[nI (placeF rootP t), nI (errF rootP t)]) ∧ Below w.heap.size w w'
  may : ∀ (w : World) (t : Tr) (p : Option Addr), TreeAt Nd w w.heap.size t p → t.size ≤ 5000 → Calls Tryd.prog 12 #[.pointer p] w fun e w' => e = .returned (.bool (mayP t)) ∧ Below w.heap.size w w'
  mixed : ∀ (w : World) (t : Tr) (p : Option Addr), T w → TreeAt Nd w w.heap.size t p → t.size ≤ 5000 → Calls Tryd.prog 17 #[.pointer p] w fun e w' => e = .returned (.bool (mixedT t)) ∧ Below w.heap.size w w'
  of : ∀ (w : World) (A : Option Addr) (n c : Nat) (l : List It), n ≤ 1000 → LieI w w.heap.size A n c l → Calls Tryd.prog 22 #[.slice A n c] w fun e w' => ∃ p, e = .returned (.pointer p) ∧ TreeAt Nd w' w'.heap.size (ofT l) p ∧ Below w.heap.size w w'
  items : ∀ (w : World) (t : Tr) (p : Option Addr), TreeAt Nd w w.heap.size t p → t.size ≤ 1000 → Calls Tryd.prog 15 #[.pointer p] w fun e w' => ∃ A c, e = .returned (.slice A t.size c) ∧ LieI w' w'.heap.size A t.size c t.items ∧ Below w.heap.size w w'
/-- whether a tree is just that of some beads -/
theorem Is9_any (hN : NodeSays Nd) (t : Tr) (p : Option Addr) (h2 : t.size ≤ 2000) (A : Option Addr) (m c : Nat) (l : List Bd) (b : Bool) (hb : b = true ↔ t.told = l) (w : World) (hT : TreeAt Nd w w.heap.size t p) (hl : LieB w w.heap.size A m c l) :
    Calls Tryd.prog 23 #[.pointer p, .slice A m c] w fun e w' => e = .returned (.bool b) ∧ Below w.heap.size w w' := by
  have c0 := Lib.hid (See9 hN t p h2 w hT)
  have hl' := Lib.hid hl
  have ht := Lib.hid (told_len t)
  have hn6 : t.size ≤ 6000 := by omega
  obtain ⟨n, hn⟩ : ∃ n, t.size = n := ⟨_, rfl⟩
  have cS := Lib.hid (fun A1 c1 w1 h1 h2 => same9_any A1 A n m c1 c t.told l b hb w1 h1 h2)
  rw [hn] at c0 ht hn6
  clear h2 hT hN hl hb hn
  go_enter Tryd.func23, Tryd.ntmps23
  go_wp2_with fail
  refine c0.out.mono ?_
  rintro e w1 ⟨v1, rfl, o1, b1⟩
  obtain ⟨A1, c1, rfl, q1⟩ := LieB.of_own ht.out hn6 o1
  have q1' := Lib.hid q1
  have b1' := Lib.hid b1
  clear q1 b1 o1 c0
  cases b with
  | true =>
    go_wp2_with fail
    refine (cS.out A1 c1 w1 q1'.out (hl'.out.after b1'.out)).mono ?_
    rintro e w2 ⟨rfl, hb2⟩
    have b2 := Lib.hid (Below.after b1'.out hb2)
    clear hb2
    go_wp2
    go_ret
    exact ⟨rfl, b2.out⟩
  | false =>
    go_wp2_with fail
    refine (cS.out A1 c1 w1 q1'.out (hl'.out.after b1'.out)).mono ?_
    rintro e w2 ⟨rfl, hb2⟩
    have b2 := Lib.hid (Below.after b1'.out hb2)
    clear hb2
    go_wp2
    go_ret
    exact ⟨rfl, b2.out⟩
theorem told_same {t u : Tr} (h : t.told = u.told) : t = u := pre_same (by rw [← told_strip, ← told_strip, h])
/-- the example's items, and their tree -/
def exI : List It := [⟨1#64, 0#64, 5#64⟩, ⟨2#64, 0#64, 9#64⟩, ⟨3#64, 0#64, 5#64⟩]
def exT : Tr := .n (.n .e 1#64 0#64 5#64 .e) 2#64 0#64 9#64 (.n .e 3#64 0#64 5#64 .e)
theorem top_one (x : It) : Top [] x [] := ⟨fun y hy => (by cases hy), fun y hy => (by cases hy)⟩
theorem of_one (x : It) : ofT [x] = .n .e x.k x.v x.g .e := by
  have := ofT_parts (top_one x)
  rw [ofT_nil] at this
  exact this
theorem of_ex : ofT exI = exT := by
  have h : Top [⟨1#64, 0#64, 5#64⟩] ⟨2#64, 0#64, 9#64⟩ [⟨3#64, 0#64, 5#64⟩] := ⟨fun y hy => (by rw [List.mem_singleton.1 hy]; decide), fun y hy => (by rw [List.mem_singleton.1 hy]; decide)⟩
  have := ofT_parts h
  rw [of_one, of_one] at this
  exact this
theorem items_ex : exT.items = exI := rfl
end Go.Proofs.YtcnkgddldhkddaaDoor
