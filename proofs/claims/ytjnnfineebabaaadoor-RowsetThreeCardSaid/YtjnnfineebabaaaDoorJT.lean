/- The document's own answer of layer 5: Cut. -/
import Derived.Test.YtjnnfineebabaaaDoorL5Ref
import Derived.BigRegion
import Derived.RegionTactic
import Derived.Outline
import Derived.Sort.QuietIn
import Derived.BigRegionIn
import Derived.Test.YtjnnfineebabaaaDoorL4Find
import Derived.WalkLawsBesides
/- Two rows gone over at once: whose, and the iterator keys, of package rowset. -/
namespace Go.Proofs.YtjnnfineebabaaaDoor
open Go.RowKit Go.Shelf Go.Proofs.Rowm
attribute [local go_sem] Oper.semAt_some

theorem walk_left (o : Nat) (p : Pr) (a : List Pr) : walk o (p :: a) [] = (p.1, some p.2, none) :: walk o a [] := by
  cases a <;> simp [walk]
theorem walk_right (o : Nat) (q : Pr) (b : List Pr) : walk o [] (q :: b) = (q.1, none, some q.2) :: walk o [] b := by simp [walk]
theorem walk_end (o : Nat) : walk o [] [] = [] := by simp [walk]
theorem walk_length (o : Nat) (a b : List Pr) : (walk o a b).length ≤ a.length + b.length := by
  fun_induction walk o a b with
  | case1 b => simp
  | case2 p a => simp
  | case3 p a q b h ih => simp only [List.length_cons] at ih ⊢; omega
  | case4 p a q b h h2 ih => simp only [List.length_cons] at ih ⊢; omega
  | case5 p a q b h h2 ih => simp only [List.length_cons] at ih ⊢; omega
/-- does the first row have the first key of all? the second one? -/
def inF (o : Nat) : List Pr → List Pr → Bool
  | [], _ => false
  | _ :: _, [] => true
  | p :: _, q :: _ => decide (Ordm.stand o p.1 q.1 ≤ 0)
def inS (o : Nat) : List Pr → List Pr → Bool
  | _, [] => false
  | [], _ :: _ => true
  | p :: _, q :: _ => decide (0 ≤ Ordm.stand o p.1 q.1)
/-- the three ways on -/
theorem walk_step (o : Nat) (a b : List Pr) (h : a ≠ [] ∨ b ≠ []) :
    (∃ p a', a = p :: a' ∧ inF o a b = true ∧ inS o a b = false ∧ walk o a b = (p.1, some p.2, none) :: walk o a' b) ∨
    (∃ q b', b = q :: b' ∧ inF o a b = false ∧ inS o a b = true ∧ walk o a b = (q.1, none, some q.2) :: walk o a b') ∨
    (∃ p a' q b', a = p :: a' ∧ b = q :: b' ∧ inF o a b = true ∧ inS o a b = true ∧ walk o a b = (p.1, some p.2, some q.2) :: walk o a' b' ∧ q.1 = p.1) := by
  match a, b with
  | [], [] => simp at h
  | p :: a, [] => exact .inl ⟨p, a, rfl, rfl, rfl, walk_left o p a⟩
  | [], q :: b => exact .inr (.inl ⟨q, b, rfl, rfl, rfl, walk_right o q b⟩)
  | p :: a, q :: b =>
    rcases stand_cases o p.1 q.1 with ⟨h, e⟩ | ⟨h, e⟩ | ⟨h, e⟩
    · refine .inl ⟨p, a, rfl, by show decide (Ordm.stand o p.1 q.1 ≤ 0) = _; rw [e]; rfl, by show decide (0 ≤ Ordm.stand o p.1 q.1) = _; rw [e]; rfl, ?_⟩
      rw [walk, if_pos h]
    · refine .inr (.inl ⟨q, b, rfl, by show decide (Ordm.stand o p.1 q.1 ≤ 0) = _; rw [e]; rfl, by show decide (0 ≤ Ordm.stand o p.1 q.1) = _; rw [e]; rfl, ?_⟩)
      rw [walk, if_neg (by omega), if_pos h]
    · refine .inr (.inr ⟨p, a, q, b, rfl, rfl, by show decide (Ordm.stand o p.1 q.1 ≤ 0) = _; rw [e]; rfl, by show decide (0 ≤ Ordm.stand o p.1 q.1) = _; rw [e]; rfl, ?_, h.symm⟩)
      rw [walk, if_neg (by rw [h]; omega), if_neg (by rw [h]; omega)]

theorem near_next {W x y : World} {a b : Addr} {u v : Value} (h : x.cell? a = some u ∧ x.cell? b = some v ∧ Below W.heap.size W x) (hb : Below x.heap.size x y) : y.cell? a = some u ∧ y.cell? b = some v ∧ Below W.heap.size W y :=
  ⟨keep_cell hb h.1, keep_cell hb h.2.1, Below.after h.2.2 hb⟩
set_option maxRecDepth 100000 in
set_option maxHeartbeats 2000000 in
theorem whose_any (o : Nat) (h1 : 1 ≤ o) (h7 : o ≤ 7) (A B : Option Addr) (n c m d : Nat) (a b : List Pr) (ha : a.length = n) (hb : b.length = m) (w : World) (h0 : 0 < w.heap.size) (hs : Steps w) (hr : Row w w.heap.size A (flat a)) (hq : Row w w.heap.size B (flat b)) :
    Calls Tryd.prog 65 #[.int .u8 o, .slice A n c, .slice B m d] w fun e w' => e = .returned (.tuple #[.bool (inF o a b), .bool (inS o a b)]) ∧ Below w.heap.size w w' := by
  match a, b with
  | [], [] =>
    obtain rfl : 0 = n := ha
    obtain rfl : 0 = m := hb
    clear hr hq hs
    go_enter Tryd.func65, Tryd.ntmps65
    go_wp2
    go_ret2
    exact ⟨rfl, Below.refl _ _⟩
  | p :: a, [] =>
    obtain ⟨k, rfl⟩ : ∃ k, n = k + 1 := ⟨a.length, by simpa using ha.symm⟩
    obtain rfl : 0 = m := hb
    have e1 : ((k : Int) + 1 == 0) = false := by simp; omega
    have e2 : decide ((0 : Int) < (k : Int) + 1) = true := decide_eq_true (by omega)
    clear hr hq hs ha
    go_enter Tryd.func65, Tryd.ntmps65
    go_wp2
    go_ret2
    exact ⟨rfl, Below.refl _ _⟩
  | [], q :: b =>
    obtain ⟨k, rfl⟩ : ∃ k, m = k + 1 := ⟨b.length, by simpa using hb.symm⟩
    obtain rfl : 0 = n := ha
    have e2 : decide ((0 : Int) < (k : Int) + 1) = true := decide_eq_true (by omega)
    clear hr hq hs hb
    go_enter Tryd.func65, Tryd.ntmps65
    go_wp2
    go_ret2
    exact ⟨rfl, Below.refl _ _⟩
  | p :: a, q :: b =>
    obtain ⟨k, rfl⟩ : ∃ k, n = k + 1 := ⟨a.length, by simpa using ha.symm⟩
    obtain ⟨j, rfl⟩ : ∃ j, m = j + 1 := ⟨b.length, by simpa using hb.symm⟩
    have e1 : ((k : Int) + 1 == 0) = false := by simp; omega
    have e3 : ((j : Int) + 1 == 0) = false := by simp; omega
    have e4 : (0 : Int) < (k : Int) + 1 := by omega
    have e5 : (0 : Int) < (j : Int) + 1 := by omega
    obtain ⟨ad, rfl, _, g1, _⟩ := pair_at hr 0 (by simp)
    obtain ⟨ad', rfl, _, g2, _⟩ := pair_at hq 0 (by simp)
    have g1' : w.cell? ad = some (K p.1) := by simpa [Addr.add] using g1
    have g2' : w.cell? ad' = some (K q.1) := by simpa [Addr.add] using g2
    obtain ⟨s, hs'⟩ : ∃ s, Ordm.stand o p.1 q.1 = s := ⟨_, rfl⟩
    have hcmp := Lib.hid fun x (hx : Below w.heap.size w x) => compare_at o h1 h7 p.1 q.1 x (Nat.lt_of_lt_of_le h0 hx.size) (hs.below h0 hx)
    have hgo : Hid (inF o (p :: a) (q :: b) = decide (s ≤ 0) ∧ inS o (p :: a) (q :: b) = decide (0 ≤ s)) := by show decide (Ordm.stand o p.1 q.1 ≤ 0) = _ ∧ decide (0 ≤ Ordm.stand o p.1 q.1) = _; rw [hs']; exact ⟨rfl, rfl⟩
    rw [hs'] at hcmp
    clear hr hq hs ha hb g1 g2 hs'
    go_enter Tryd.func65, Tryd.ntmps65
    go_wp2
    go_region_held3 (fun w' => w'.cell? ad = some (K p.1) ∧ w'.cell? ad' = some (K q.1) ∧ Below w.heap.size w w') (first | exact ⟨g1', g2', (Below.refl _ _).drew⟩ | assumption)
      ((go_at_call 46; (with_reducible refine (hcmp.out _ (And.right (And.right (by assumption)))).mono ?_); rintro e w' ⟨rfl, hb⟩; have hS' := near_next (W := w) (by assumption) hb; clear hb))
    clear e1 e3 e4 e5
    go_wp2
    have b3 := Lib.hid hS'.2.2
    clear hS'
    go_ret2
    exact ⟨by rw [hgo.out.1, hgo.out.2]; rfl, b3.out⟩

set_option maxHeartbeats 400000 in
theorem keys_any (o : Nat) (A B : Option Addr) (n c m d : Nat) (w : World) : Calls Tryd.prog 53 #[.int .u8 o, .slice A n c, .slice B m d] w fun e w' => e = .returned (.func (.func 64) #[] #[.pointer (some ⟨w.heap.size + 1, 0, none⟩), .pointer (some ⟨w.heap.size + 2, 0, none⟩), .pointer (some ⟨w.heap.size, 0, none⟩)]) ∧ ((w.alloc (.cells #[.int .u8 o] 5)).alloc (.cells #[.slice A n c] 22)).alloc (.cells #[.slice B m d] 22) = w' := by
  go_enter Tryd.func53, Tryd.ntmps53
  go_wp2
  go_ret
  exact ⟨rfl, rfl⟩
end Go.Proofs.YtjnnfineebabaaaDoor
/- The iterator keys of package rowset: what it says, key by key. -/
namespace Go.Proofs.YtjnnfineebabaaaDoor
open Go.RowKit Go.Shelf Go.Proofs.Rowm
attribute [local go_sem] Oper.semAt_some

/-- what is said of a key: whose it is, and its pair in each row that has it -/
def fcells (e : En) : Array Value := #[.bool e.2.1.isSome, .bool e.2.2.isSome, K (if e.2.1.isSome then e.1 else 0#64), K (e.2.1.getD 0#64), K (if e.2.2.isSome then e.1 else 0#64), K (e.2.2.getD 0#64)]
abbrev encF (e : En) : Array Value := #[.agg (fcells e)]
def sliceLen : Value → Nat
  | .slice _ n _ => n
  | _ => 0
/-- nothing below n₀ is changed, nor block b -/
def KB (n₀ b : Nat) (W W' : World) : Prop := Below n₀ W W' ∧ W'.heap[b]? = W.heap[b]?
theorem cell_same {W W' : World} {b i : Nat} (h : W'.heap[b]? = W.heap[b]?) : W'.cell? ⟨b, i, none⟩ = W.cell? ⟨b, i, none⟩ := by
  simp only [World.cell?, h]
theorem grown_below {W W' : World} (h : Below W.heap.size W W') : W.grownBy W' none := ⟨h.os, h.tape, h.output, h.size, fun k hk _ => h.block k hk⟩

theorem first_at {w : World} {B : Nat} {A : Option Addr} {p : Pr} {l : List Pr} (h : Row w B A (flat (p :: l))) : ∃ ad, A = some ad ∧ w.cell? ad = some (K p.1) ∧ w.cell? ⟨ad.block, ad.off + 1, none⟩ = some (K p.2) := by
  obtain ⟨ad, e, _, g1, g2⟩ := pair_at h 0 (by simp)
  exact ⟨ad, e, by simpa [Addr.add] using g1, by simpa [Addr.add] using g2⟩
/-- the first pair of a slice is taken off -/
theorem cut_one {A : Option Addr} {k c : Nat} (hc : k + 1 ≤ c) : ∃ A', (∀ W, (Instr.slice 22 (.slice A (k + 1) c) (some (.int .i64 1)) none none).run Tryd.prog W = .ok (.slice A' k (c - 1)) W) ∧ ∀ w B (p : Pr) l, Row w B A (flat (p :: l)) → l.length = k → Row w B A' (flat l) := by
  obtain ⟨A', h1, h2⟩ := cut_from (P := Tryd.prog) (size := 2) Tryd.underlying22 size_pair A (k + 1) c 1 1 rfl (by omega) hc
  exact ⟨A', h1, fun w B p l h hl => h2 w B _ h (by rw [flat_length, List.length_cons]; omega)⟩
section
variable {w : World} {g : Nat} {T : TypeId} {a b c d e f : Value}
theorem has_drew {cs : Array Value} (h : Has w g T cs) : Has w.drew g T cs := h
theorem has01 (h : Has w g T #[a, b, c, d, e, f]) (x y : Value) : Has ((w.setCell ⟨g, 0, none⟩ x).setCell ⟨g, 1, none⟩ y) g T #[x, y, c, d, e, f] := (h.set 0 x).set 1 y
theorem has23 (h : Has w g T #[a, b, c, d, e, f]) (x y : Value) : Has ((w.setCell ⟨g, 2, none⟩ x).setCell ⟨g, 3, none⟩ y) g T #[a, b, x, y, e, f] := (h.set 2 x).set 3 y
theorem has45 (h : Has w g T #[a, b, c, d, e, f]) (x y : Value) : Has ((w.setCell ⟨g, 4, none⟩ x).setCell ⟨g, 5, none⟩ y) g T #[a, b, c, d, x, y] := (h.set 4 x).set 5 y
end
theorem whose_named {o : Nat} (h1 : 1 ≤ o) (h7 : o ≤ 7) {A B : Option Addr} {n c m d : Nat} {a b : List Pr} {s t : Bool} (hf : inF o a b = s) (hg : inS o a b = t) (ha : a.length = n) (hb : b.length = m) {w : World} (h0 : 0 < w.heap.size) (hs : Steps w) (hr : Row w w.heap.size A (flat a)) (hq : Row w w.heap.size B (flat b)) :
    Calls Tryd.prog 65 #[.int .u8 o, .slice A n c, .slice B m d] w fun e w' => e = .returned (.tuple #[.bool s, .bool t]) ∧ Below w.heap.size w w' := hf ▸ hg ▸ whose_any o h1 h7 A B n c m d a b ha hb w h0 hs hr hq

set_option maxRecDepth 100000 in
set_option maxHeartbeats 8000000 in
theorem keys_stops (n : Nat) (hn : 1 ≤ n) (n₀ Ba Bb Bo o : Nat) (h1 : 1 ≤ o) (h7 : o ≤ 7) (A B : Option Addr) (na ca nb cb : Nat) (a b : List Pr) (ha : a.length = na) (hb : b.length = nb) (hca : na ≤ ca) (hcb : nb ≤ cb) (hab : na + nb ≤ 900) (w : World) (hn₀ : n₀ ≤ w.heap.size) (hBa : Ba < w.heap.size) (hBb : Bb < w.heap.size) (hBo : Bo < w.heap.size)
    (cA : w.cell? ⟨Ba, 0, none⟩ = some (.slice A na ca)) (cB : w.cell? ⟨Bb, 0, none⟩ = some (.slice B nb cb)) (cO : w.cell? ⟨Bo, 0, none⟩ = some (.int .u8 (o : Int))) (rA : Row w n₀ A (flat a)) (rB : Row w n₀ B (flat b)) (h0 : 0 < n₀) (hs : Steps w) :
    SeqStopsK Fence.wide n Tryd.prog 64 #[.pointer (some ⟨Ba, 0, none⟩), .pointer (some ⟨Bb, 0, none⟩), .pointer (some ⟨Bo, 0, none⟩)] encF (KB n₀ Bo) (fun ys => ys = walk o a b) (fun pre => pre <+: walk o a b) 1000 w := fun L J Jx W hW hJa _ hY hJ0 => by
  have hW' := hW.mono hn₀
  have dA : W.cell? ⟨Ba, 0, none⟩ = some (.slice A na ca) := (hW.cell (p := ⟨Ba, 0, none⟩) hBa).trans cA
  have dB : W.cell? ⟨Bb, 0, none⟩ = some (.slice B nb cb) := (hW.cell (p := ⟨Bb, 0, none⟩) hBb).trans cB
  have dO := Lib.hid ((hW.cell (p := ⟨Bo, 0, none⟩) hBo).trans cO)
  have rA' := Lib.hid (rA.below hW')
  have rB' := Lib.hid (rB.below hW')
  have hs' := Lib.hid (hs.below h0 hW')
  have ha' := Lib.hid ha
  have hb' := Lib.hid hb
  have hJa' := Lib.hid hJa
  have hY' := Lib.hid hY
  have hmx : Tryd.prog.follows .mixedOrders = true := by kernel_rfl
  have hwl := walk_length o a b
  rw [ha, hb] at hwl
  clear rA rB ha hb hJa hY cA cB cO hs
  refine callsIn_of_wp Tryd.func64 rfl trivial ?_ rfl
  simp only [Tryd.ntmps64, List.size_toArray, List.length_cons, List.length_nil, Nat.reduceAdd, Nat.reduceSub, Array.replicate_succ, Array.replicate_zero, List.push_toArray, List.append_toArray, List.nil_append, List.cons_append]
  gi_wp2
  gi_quiet (fail)
  gi_wp2
  have hJ1 := Lib.hid (hJa'.out [] W (W.drewN nq) none hJ0 ⟨rfl, rfl, rfl, Nat.le_refl _, fun _ _ _ => rfl⟩ (fun r e => by cases e))
  clear dA dB hJ0
  gi_loopw [5, 6] (fun v u wr => ∃ pre ra rb A1 n1 c1 B1 m1 d1, v = .slice A1 n1 c1 ∧ u = .slice B1 m1 d1 ∧ Hid (pre ++ walk o ra rb = walk o a b) ∧ Hid (ra.length = n1) ∧ Hid (rb.length = m1) ∧ n1 ≤ c1 ∧ m1 ≤ d1 ∧ n1 + m1 ≤ 900 ∧ Row W n₀ A1 (flat ra) ∧ Row W n₀ B1 (flat rb) ∧ J pre wr ∧ KB n₀ Bo W wr) (fun v u _ => sliceLen v + sliceLen u)
  case atStart => exact ⟨[], a, b, A, na, ca, B, nb, cb, rfl, rfl, Lib.hid (List.nil_append _), ha', hb', hca, hcb, hab, rA'.out, rB'.out, hJ1.out, ⟨below_drewN (Below.refl _ _) _, rfl⟩⟩
  case round =>
    obtain ⟨pre, ra, rb, A1, n1, c1, B1, m1, d1, rfl, rfl, hpre, hra, hrb, hn1, hm1, hnm, hrA, hrB, hJs, hbw⟩ := hrel
    have r1 := Lib.hid hrA
    have r2 := Lib.hid hrB
    have j0 := Lib.hid hJs
    have b0 := Lib.hid hbw.1
    have k0 := Lib.hid hbw.2
    have cO : wr.cell? ⟨Bo, 0, none⟩ = some (.int .u8 (o : Int)) := (cell_same hbw.2).trans dO.out
    have hBx : Bo < wr.heap.size := by have := hbw.1.size; have := hW.size; omega
    clear hrA hrB hJs hbw
    by_cases hne : ra ≠ [] ∨ rb ≠ []
    · rcases walk_step o ra rb hne with ⟨p, a2, hra2, hf, hsnd, hwk⟩ | ⟨q, b2, hrb2, hf, hsnd, hwk⟩ | ⟨p, a2, q, b2, hra2, hrb2, hf, hsnd, hwk, hkk⟩
      · have f' := Lib.hid hf
        have s' := Lib.hid hsnd
        have w' := Lib.hid hwk
        obtain ⟨k, rfl⟩ : ∃ k, n1 = k + 1 := ⟨a2.length, by have := hra.out; rw [hra2] at this; simpa using this.symm⟩
        have la : Hid (a2.length = k) := by show _ = _; have := hra.out; rw [hra2] at this; simpa using this
        obtain ⟨A2, cutA, rowA⟩ := cut_one (A := A1) hn1
        have rA2 := Lib.hid (rowA _ _ p a2 (hra2 ▸ r1.out) la.out)
        obtain ⟨ad, rfl, g1, g2⟩ := first_at (hra2 ▸ (r1.out.below b0.out))
        have t1 : decide ((0 : Int) < (k : Int) + 1) = true := decide_eq_true (by omega)
        have t3 : (0 : Int) < (k : Int) + 1 := by omega
        clear hra2 rowA hf hsnd hwk hne
        obtain ⟨e, he⟩ : ∃ e : En, (p.1, some p.2, none) = e := ⟨_, rfl⟩
        rw [he] at w'
        have hpre2 : Hid ((pre ++ [e]) ++ walk o a2 rb = walk o a b) := by show _ = _; rw [← hpre.out, w'.out]; simp
        have hpl : pre.length < 1000 := by have := congrArg List.length hpre.out; rw [List.length_append] at this; omega
        have hpx : Hid (pre ++ [e] <+: walk o a b) := ⟨_, hpre2.out⟩
        gi_wp2_with fail
        refine ⟨trivial, ?_⟩
        have bz := (Below.refl wr.heap.size wr).alloc (Nat.le_refl _) (.cells #[.bool false, .bool false, K 0#64, K 0#64, K 0#64, K 0#64] 84)
        have gz := Has.new wr 84 #[.bool false, .bool false, K 0#64, K 0#64, K 0#64, K 0#64]
        obtain ⟨Wz, hWz⟩ : ∃ Wz, wr.alloc (.cells #[.bool false, .bool false, K 0#64, K 0#64, K 0#64, K 0#64] 84) = Wz := ⟨_, rfl⟩
        rw [hWz] at bz gz
        rw [show wr.alloc (.cells #[.bool false, .bool false, .int .i64 0, .int .i64 0, .int .i64 0, .int .i64 0] 84) = Wz from hWz]
        have hzz : n₀ ≤ wr.heap.size := by have := b0.out.size; have := hW.size; omega
        have bzz := b0.out.trans (bz.mono hzz)
        have zc := Lib.hid (whose_named h1 h7 (A := some ad) (B := B1) (c := c1) (d := d1) f'.out s'.out hra.out hrb.out (Nat.lt_of_lt_of_le h0 (Nat.le_trans hzz bz.size)) (hs'.out.below h0 bzz) ((r1.out.below bzz).more (Nat.le_trans hzz bz.size)) ((r2.out.below bzz).more (Nat.le_trans hzz bz.size)))
        have gz' := Lib.hid gz
        have bz' := Lib.hid bz
        have hBx2 := Lib.hid hBx
        clear hWz bz gz bzz cO hBx
        (refine (callsIn_wide.2 zc.out).mono ?_)
        rintro e2 W2 ⟨rfl, hb2⟩
        have gy := gz'.out.next hb2
        have by' := Lib.hid (Below.after bz'.out hb2)
        have c0 := gy.cell 0
        have cx1 := gy.cell 1
        have y0 := gy.free 0
        have y1 := gy.free 1
        simp only [List.getElem?_toArray, List.getElem?_cons_zero, List.getElem?_cons_succ] at c0 cx1
        have gy' := Lib.hid gy
        clear hb2 zc gz' bz' gy
        gi_wp2_with fail
        obtain ⟨W3, hW3⟩ : ∃ W3, (W2.setCell ⟨wr.heap.size, 0, none⟩ (.bool true)).setCell ⟨wr.heap.size, 1, none⟩ (.bool false) = W3 := ⟨_, rfl⟩
        have g3' : Hid (Has W3 wr.heap.size 84 #[.bool true, .bool false, K 0#64, K 0#64, K 0#64, K 0#64]) := by show Has _ _ _ _; rw [← hW3]; exact has01 gy'.out _ _
        have b3 : Hid (Below wr.heap.size wr W3) := by show Below _ _ _; rw [← hW3]; exact (by'.out.setCell (p := ⟨wr.heap.size, 0, none⟩) (Nat.le_refl _) _).setCell (p := ⟨wr.heap.size, 1, none⟩) (Nat.le_refl _) _
        rw [hW3]
        clear hW3 c0 cx1 y0 y1 gy' by'
        have q0 := g3'.out.cell 0
        have q1 := g3'.out.cell 1
        simp only [List.getElem?_toArray, List.getElem?_cons_zero, List.getElem?_cons_succ] at q0 q1
        gi_wp2_with fail
        have z2 := g3'.out.cell 2
        have z3 := g3'.out.cell 3
        simp only [List.getElem?_toArray, List.getElem?_cons_zero, List.getElem?_cons_succ] at z2 z3
        have x2 := g3'.out.free 2
        have x3 := g3'.out.free 3
        have p1 : W3.cell? ad = some (K p.1) := keep_cell b3.out g1
        have p2 : W3.cell? ⟨ad.block, ad.off + 1, none⟩ = some (K p.2) := keep_cell b3.out g2
        gi_region
        obtain ⟨W4, hW4⟩ : ∃ W4, ((W3.setCell ⟨wr.heap.size, 2, none⟩ (K p.1)).setCell ⟨wr.heap.size, 3, none⟩ (K p.2)).drew = W4 := ⟨_, rfl⟩
        have g4' : Hid (Has W4 wr.heap.size 84 #[.bool true, .bool false, K p.1, K p.2, K 0#64, K 0#64]) := by show Has _ _ _ _; rw [← hW4]; exact has_drew (has23 g3'.out _ _)
        have b4 : Hid (Below wr.heap.size wr W4) := by show Below _ _ _; rw [← hW4]; exact ((b3.out.setCell (p := ⟨wr.heap.size, 2, none⟩) (Nat.le_refl _) _).setCell (p := ⟨wr.heap.size, 3, none⟩) (Nat.le_refl _) _).drew
        rw [show ((W3.setCell ⟨wr.heap.size, 2, none⟩ (.int .i64 p.1.toInt)).setCell ⟨wr.heap.size, 3, none⟩ (.int .i64 p.2.toInt)).drew = W4 from hW4]
        clear hW4 z2 z3 x2 x3 p1 p2 cutA q0 q1
        have q1 := g4'.out.cell 1
        simp only [List.getElem?_toArray, List.getElem?_cons_zero, List.getElem?_cons_succ] at q1
        have hy0 := hY'.out pre e W4 (hJa'.out pre wr W4 none j0.out (grown_below b4.out) (fun r e => by cases e)) hpl
        obtain ⟨fn, tmps, assign, body, hy, hR⟩ := hy0
        have hy1 : _ := hy
        rw [← he] at hy1
        simp only [encF, fcells, Option.isSome_some, Option.isSome_none, if_true, if_false, Option.getD_some, Option.getD_none, Bool.false_eq_true] at hy1
        clear hy
        clear q1
        have v0 := g4'.out.cell 0
        have v1 := g4'.out.cell 1
        have v2 := g4'.out.cell 2
        have v3 := g4'.out.cell 3
        have v4 := g4'.out.cell 4
        have v5 := g4'.out.cell 5
        simp only [List.getElem?_toArray, List.getElem?_cons_zero, List.getElem?_cons_succ] at v0 v1 v2 v3 v4 v5
        gi_wp2
        refine hR.mono ?_
        rintro e3 W7 (⟨rfl, hJ3, hk3⟩ | ⟨rfl, hJx3⟩)
        · gi_wp2
          go_roundw
          case rel => exact ⟨pre ++ [e], a2, rb, A2, k, c1 - 1, B1, m1, d1, rfl, rfl, hpre2, la, hrb, by omega, hm1, by omega, rA2.out, r2.out, hJ3, ⟨b0.out.trans ((b4.out.mono hzz).trans hk3.1), hk3.2.trans ((b4.out.block Bo hBx2.out).trans k0.out)⟩⟩
          case measure => simp [sliceLen]
        · gi_wp2
          refine bodyPost_ret (results_none rfl _ _ _) rfl ?_
          exact ⟨⟨_, rfl⟩, .inr ⟨_, hpx.out, hJx3⟩⟩
      · have f' := Lib.hid hf
        have s' := Lib.hid hsnd
        have w' := Lib.hid hwk
        obtain ⟨j, rfl⟩ : ∃ j, m1 = j + 1 := ⟨b2.length, by have := hrb.out; rw [hrb2] at this; simpa using this.symm⟩
        have lb : Hid (b2.length = j) := by show _ = _; have := hrb.out; rw [hrb2] at this; simpa using this
        obtain ⟨B2, cutB, rowB⟩ := cut_one (A := B1) hm1
        have rB2 := Lib.hid (rowB _ _ q b2 (hrb2 ▸ r2.out) lb.out)
        obtain ⟨bd, rfl, g3, g4⟩ := first_at (hrb2 ▸ (r2.out.below b0.out))
        have t2 : decide ((0 : Int) < (j : Int) + 1) = true := decide_eq_true (by omega)
        have t4 : (0 : Int) < (j : Int) + 1 := by omega
        clear hrb2 rowB hf hsnd hwk hne
        obtain ⟨e, he⟩ : ∃ e : En, (q.1, none, some q.2) = e := ⟨_, rfl⟩
        rw [he] at w'
        have hpre2 : Hid ((pre ++ [e]) ++ walk o ra b2 = walk o a b) := by show _ = _; rw [← hpre.out, w'.out]; simp
        have hpl : pre.length < 1000 := by have := congrArg List.length hpre.out; rw [List.length_append] at this; omega
        have hpx : Hid (pre ++ [e] <+: walk o a b) := ⟨_, hpre2.out⟩
        rcases Nat.eq_zero_or_pos n1 with hn0 | hn0
        · subst hn0
          gi_wp2_with fail
          refine ⟨trivial, ?_⟩
          have bz := (Below.refl wr.heap.size wr).alloc (Nat.le_refl _) (.cells #[.bool false, .bool false, K 0#64, K 0#64, K 0#64, K 0#64] 84)
          have gz := Has.new wr 84 #[.bool false, .bool false, K 0#64, K 0#64, K 0#64, K 0#64]
          obtain ⟨Wz, hWz⟩ : ∃ Wz, wr.alloc (.cells #[.bool false, .bool false, K 0#64, K 0#64, K 0#64, K 0#64] 84) = Wz := ⟨_, rfl⟩
          rw [hWz] at bz gz
          rw [show wr.alloc (.cells #[.bool false, .bool false, .int .i64 0, .int .i64 0, .int .i64 0, .int .i64 0] 84) = Wz from hWz]
          have hzz : n₀ ≤ wr.heap.size := by have := b0.out.size; have := hW.size; omega
          have bzz := b0.out.trans (bz.mono hzz)
          have zc := Lib.hid (whose_named h1 h7 (A := A1) (B := some bd) (c := c1) (d := d1) f'.out s'.out hra.out hrb.out (Nat.lt_of_lt_of_le h0 (Nat.le_trans hzz bz.size)) (hs'.out.below h0 bzz) ((r1.out.below bzz).more (Nat.le_trans hzz bz.size)) ((r2.out.below bzz).more (Nat.le_trans hzz bz.size)))
          have gz' := Lib.hid gz
          have bz' := Lib.hid bz
          have hBx2 := Lib.hid hBx
          clear hWz bz gz bzz cO hBx
          (refine (callsIn_wide.2 zc.out).mono ?_)
          rintro e2 W2 ⟨rfl, hb2⟩
          have gy := gz'.out.next hb2
          have by' := Lib.hid (Below.after bz'.out hb2)
          have c0 := gy.cell 0
          have cx1 := gy.cell 1
          have y0 := gy.free 0
          have y1 := gy.free 1
          simp only [List.getElem?_toArray, List.getElem?_cons_zero, List.getElem?_cons_succ] at c0 cx1
          have gy' := Lib.hid gy
          clear hb2 zc gz' bz' gy
          gi_wp2_with fail
          obtain ⟨W3, hW3⟩ : ∃ W3, (W2.setCell ⟨wr.heap.size, 0, none⟩ (.bool false)).setCell ⟨wr.heap.size, 1, none⟩ (.bool true) = W3 := ⟨_, rfl⟩
          have g3' : Hid (Has W3 wr.heap.size 84 #[.bool false, .bool true, K 0#64, K 0#64, K 0#64, K 0#64]) := by show Has _ _ _ _; rw [← hW3]; exact has01 gy'.out _ _
          have b3 : Hid (Below wr.heap.size wr W3) := by show Below _ _ _; rw [← hW3]; exact (by'.out.setCell (p := ⟨wr.heap.size, 0, none⟩) (Nat.le_refl _) _).setCell (p := ⟨wr.heap.size, 1, none⟩) (Nat.le_refl _) _
          rw [hW3]
          clear hW3 c0 cx1 y0 y1 gy' by'
          have q0 := g3'.out.cell 0
          have q1 := g3'.out.cell 1
          simp only [List.getElem?_toArray, List.getElem?_cons_zero, List.getElem?_cons_succ] at q0 q1
          gi_wp2_with fail
          have z4 := g3'.out.cell 4
          have z5 := g3'.out.cell 5
          simp only [List.getElem?_toArray, List.getElem?_cons_zero, List.getElem?_cons_succ] at z4 z5
          have x4 := g3'.out.free 4
          have x5 := g3'.out.free 5
          have p1 : W3.cell? bd = some (K q.1) := keep_cell b3.out g3
          have p2 : W3.cell? ⟨bd.block, bd.off + 1, none⟩ = some (K q.2) := keep_cell b3.out g4
          gi_region
          obtain ⟨W5, hW5⟩ : ∃ W5, ((W3.setCell ⟨wr.heap.size, 4, none⟩ (K q.1)).setCell ⟨wr.heap.size, 5, none⟩ (K q.2)).drew = W5 := ⟨_, rfl⟩
          have g5' : Hid (Has W5 wr.heap.size 84 #[.bool false, .bool true, K 0#64, K 0#64, K q.1, K q.2]) := by show Has _ _ _ _; rw [← hW5]; exact has_drew (has45 g3'.out _ _)
          have b5 : Hid (Below wr.heap.size wr W5) := by show Below _ _ _; rw [← hW5]; exact ((b3.out.setCell (p := ⟨wr.heap.size, 4, none⟩) (Nat.le_refl _) _).setCell (p := ⟨wr.heap.size, 5, none⟩) (Nat.le_refl _) _).drew
          rw [show ((W3.setCell ⟨wr.heap.size, 4, none⟩ (.int .i64 q.1.toInt)).setCell ⟨wr.heap.size, 5, none⟩ (.int .i64 q.2.toInt)).drew = W5 from hW5]
          clear hW5 z4 z5 x4 x5 p1 p2 cutB q1 q0
          have hy0 := hY'.out pre e W5 (hJa'.out pre wr W5 none j0.out (grown_below b5.out) (fun r e => by cases e)) hpl
          obtain ⟨fn, tmps, assign, body, hy, hR⟩ := hy0
          have hy1 : _ := hy
          rw [← he] at hy1
          simp only [encF, fcells, Option.isSome_some, Option.isSome_none, if_true, if_false, Option.getD_some, Option.getD_none, Bool.false_eq_true] at hy1
          clear hy
          have v0 := g5'.out.cell 0
          have v1 := g5'.out.cell 1
          have v2 := g5'.out.cell 2
          have v3 := g5'.out.cell 3
          have v4 := g5'.out.cell 4
          have v5 := g5'.out.cell 5
          simp only [List.getElem?_toArray, List.getElem?_cons_zero, List.getElem?_cons_succ] at v0 v1 v2 v3 v4 v5
          gi_wp2
          refine hR.mono ?_
          rintro e3 W7 (⟨rfl, hJ3, hk3⟩ | ⟨rfl, hJx3⟩)
          · gi_wp2
            go_roundw
            case rel => exact ⟨pre ++ [e], ra, b2, A1, _, c1, B2, j, d1 - 1, rfl, rfl, hpre2, hra, lb, hn1, by omega, by omega, r1.out, rB2.out, hJ3, ⟨b0.out.trans ((b5.out.mono hzz).trans hk3.1), hk3.2.trans ((b5.out.block Bo hBx2.out).trans k0.out)⟩⟩
            case measure => simp [sliceLen]
          · gi_wp2
            refine bodyPost_ret (results_none rfl _ _ _) rfl ?_
            exact ⟨⟨_, rfl⟩, .inr ⟨_, hpx.out, hJx3⟩⟩
        · have t0 : decide ((0 : Int) < (n1 : Int)) = true := decide_eq_true (by omega)
          gi_wp2_with fail
          refine ⟨trivial, ?_⟩
          have bz := (Below.refl wr.heap.size wr).alloc (Nat.le_refl _) (.cells #[.bool false, .bool false, K 0#64, K 0#64, K 0#64, K 0#64] 84)
          have gz := Has.new wr 84 #[.bool false, .bool false, K 0#64, K 0#64, K 0#64, K 0#64]
          obtain ⟨Wz, hWz⟩ : ∃ Wz, wr.alloc (.cells #[.bool false, .bool false, K 0#64, K 0#64, K 0#64, K 0#64] 84) = Wz := ⟨_, rfl⟩
          rw [hWz] at bz gz
          rw [show wr.alloc (.cells #[.bool false, .bool false, .int .i64 0, .int .i64 0, .int .i64 0, .int .i64 0] 84) = Wz from hWz]
          have hzz : n₀ ≤ wr.heap.size := by have := b0.out.size; have := hW.size; omega
          have bzz := b0.out.trans (bz.mono hzz)
          have zc := Lib.hid (whose_named h1 h7 (A := A1) (B := some bd) (c := c1) (d := d1) f'.out s'.out hra.out hrb.out (Nat.lt_of_lt_of_le h0 (Nat.le_trans hzz bz.size)) (hs'.out.below h0 bzz) ((r1.out.below bzz).more (Nat.le_trans hzz bz.size)) ((r2.out.below bzz).more (Nat.le_trans hzz bz.size)))
          have gz' := Lib.hid gz
          have bz' := Lib.hid bz
          have hBx2 := Lib.hid hBx
          clear hWz bz gz bzz cO hBx
          (refine (callsIn_wide.2 zc.out).mono ?_)
          rintro e2 W2 ⟨rfl, hb2⟩
          have gy := gz'.out.next hb2
          have by' := Lib.hid (Below.after bz'.out hb2)
          have c0 := gy.cell 0
          have cx1 := gy.cell 1
          have y0 := gy.free 0
          have y1 := gy.free 1
          simp only [List.getElem?_toArray, List.getElem?_cons_zero, List.getElem?_cons_succ] at c0 cx1
          have gy' := Lib.hid gy
          clear hb2 zc gz' bz' gy
          gi_wp2_with fail
          obtain ⟨W3, hW3⟩ : ∃ W3, (W2.setCell ⟨wr.heap.size, 0, none⟩ (.bool false)).setCell ⟨wr.heap.size, 1, none⟩ (.bool true) = W3 := ⟨_, rfl⟩
          have g3' : Hid (Has W3 wr.heap.size 84 #[.bool false, .bool true, K 0#64, K 0#64, K 0#64, K 0#64]) := by show Has _ _ _ _; rw [← hW3]; exact has01 gy'.out _ _
          have b3 : Hid (Below wr.heap.size wr W3) := by show Below _ _ _; rw [← hW3]; exact (by'.out.setCell (p := ⟨wr.heap.size, 0, none⟩) (Nat.le_refl _) _).setCell (p := ⟨wr.heap.size, 1, none⟩) (Nat.le_refl _) _
          rw [hW3]
          clear hW3 c0 cx1 y0 y1 gy' by'
          have q0 := g3'.out.cell 0
          have q1 := g3'.out.cell 1
          simp only [List.getElem?_toArray, List.getElem?_cons_zero, List.getElem?_cons_succ] at q0 q1
          gi_wp2_with fail
          have z4 := g3'.out.cell 4
          have z5 := g3'.out.cell 5
          simp only [List.getElem?_toArray, List.getElem?_cons_zero, List.getElem?_cons_succ] at z4 z5
          have x4 := g3'.out.free 4
          have x5 := g3'.out.free 5
          have p1 : W3.cell? bd = some (K q.1) := keep_cell b3.out g3
          have p2 : W3.cell? ⟨bd.block, bd.off + 1, none⟩ = some (K q.2) := keep_cell b3.out g4
          gi_region
          obtain ⟨W5, hW5⟩ : ∃ W5, ((W3.setCell ⟨wr.heap.size, 4, none⟩ (K q.1)).setCell ⟨wr.heap.size, 5, none⟩ (K q.2)).drew = W5 := ⟨_, rfl⟩
          have g5' : Hid (Has W5 wr.heap.size 84 #[.bool false, .bool true, K 0#64, K 0#64, K q.1, K q.2]) := by show Has _ _ _ _; rw [← hW5]; exact has_drew (has45 g3'.out _ _)
          have b5 : Hid (Below wr.heap.size wr W5) := by show Below _ _ _; rw [← hW5]; exact ((b3.out.setCell (p := ⟨wr.heap.size, 4, none⟩) (Nat.le_refl _) _).setCell (p := ⟨wr.heap.size, 5, none⟩) (Nat.le_refl _) _).drew
          rw [show ((W3.setCell ⟨wr.heap.size, 4, none⟩ (.int .i64 q.1.toInt)).setCell ⟨wr.heap.size, 5, none⟩ (.int .i64 q.2.toInt)).drew = W5 from hW5]
          clear hW5 z4 z5 x4 x5 p1 p2 cutB q1 q0
          have hy0 := hY'.out pre e W5 (hJa'.out pre wr W5 none j0.out (grown_below b5.out) (fun r e => by cases e)) hpl
          obtain ⟨fn, tmps, assign, body, hy, hR⟩ := hy0
          have hy1 : _ := hy
          rw [← he] at hy1
          simp only [encF, fcells, Option.isSome_some, Option.isSome_none, if_true, if_false, Option.getD_some, Option.getD_none, Bool.false_eq_true] at hy1
          clear hy
          have v0 := g5'.out.cell 0
          have v1 := g5'.out.cell 1
          have v2 := g5'.out.cell 2
          have v3 := g5'.out.cell 3
          have v4 := g5'.out.cell 4
          have v5 := g5'.out.cell 5
          simp only [List.getElem?_toArray, List.getElem?_cons_zero, List.getElem?_cons_succ] at v0 v1 v2 v3 v4 v5
          gi_wp2
          refine hR.mono ?_
          rintro e3 W7 (⟨rfl, hJ3, hk3⟩ | ⟨rfl, hJx3⟩)
          · gi_wp2
            go_roundw
            case rel => exact ⟨pre ++ [e], ra, b2, A1, _, c1, B2, j, d1 - 1, rfl, rfl, hpre2, hra, lb, hn1, by omega, by omega, r1.out, rB2.out, hJ3, ⟨b0.out.trans ((b5.out.mono hzz).trans hk3.1), hk3.2.trans ((b5.out.block Bo hBx2.out).trans k0.out)⟩⟩
            case measure => simp [sliceLen]
          · gi_wp2
            refine bodyPost_ret (results_none rfl _ _ _) rfl ?_
            exact ⟨⟨_, rfl⟩, .inr ⟨_, hpx.out, hJx3⟩⟩
      · obtain ⟨qk, qv⟩ := q
        obtain rfl : qk = p.1 := hkk
        have f' := Lib.hid hf
        have s' := Lib.hid hsnd
        have w' := Lib.hid hwk
        obtain ⟨k, rfl⟩ : ∃ k, n1 = k + 1 := ⟨a2.length, by have := hra.out; rw [hra2] at this; simpa using this.symm⟩
        have la : Hid (a2.length = k) := by show _ = _; have := hra.out; rw [hra2] at this; simpa using this
        obtain ⟨A2, cutA, rowA⟩ := cut_one (A := A1) hn1
        have rA2 := Lib.hid (rowA _ _ p a2 (hra2 ▸ r1.out) la.out)
        obtain ⟨ad, rfl, g1, g2⟩ := first_at (hra2 ▸ (r1.out.below b0.out))
        have t1 : decide ((0 : Int) < (k : Int) + 1) = true := decide_eq_true (by omega)
        have t3 : (0 : Int) < (k : Int) + 1 := by omega
        obtain ⟨j, rfl⟩ : ∃ j, m1 = j + 1 := ⟨b2.length, by have := hrb.out; rw [hrb2] at this; simpa using this.symm⟩
        have lb : Hid (b2.length = j) := by show _ = _; have := hrb.out; rw [hrb2] at this; simpa using this
        obtain ⟨B2, cutB, rowB⟩ := cut_one (A := B1) hm1
        have rB2 := Lib.hid (rowB _ _ (p.1, qv) b2 (hrb2 ▸ r2.out) lb.out)
        obtain ⟨bd, rfl, g3, g4⟩ := first_at (hrb2 ▸ (r2.out.below b0.out))
        have t2 : decide ((0 : Int) < (j : Int) + 1) = true := decide_eq_true (by omega)
        have t4 : (0 : Int) < (j : Int) + 1 := by omega
        clear hra2 hrb2 rowA rowB hf hsnd hwk hne
        obtain ⟨e, he⟩ : ∃ e : En, (p.1, some p.2, some qv) = e := ⟨_, rfl⟩
        rw [he] at w'
        have hpre2 : Hid ((pre ++ [e]) ++ walk o a2 b2 = walk o a b) := by show _ = _; rw [← hpre.out, w'.out]; simp
        have hpl : pre.length < 1000 := by have := congrArg List.length hpre.out; rw [List.length_append] at this; omega
        have hpx : Hid (pre ++ [e] <+: walk o a b) := ⟨_, hpre2.out⟩
        gi_wp2_with fail
        refine ⟨trivial, ?_⟩
        have bz := (Below.refl wr.heap.size wr).alloc (Nat.le_refl _) (.cells #[.bool false, .bool false, K 0#64, K 0#64, K 0#64, K 0#64] 84)
        have gz := Has.new wr 84 #[.bool false, .bool false, K 0#64, K 0#64, K 0#64, K 0#64]
        obtain ⟨Wz, hWz⟩ : ∃ Wz, wr.alloc (.cells #[.bool false, .bool false, K 0#64, K 0#64, K 0#64, K 0#64] 84) = Wz := ⟨_, rfl⟩
        rw [hWz] at bz gz
        rw [show wr.alloc (.cells #[.bool false, .bool false, .int .i64 0, .int .i64 0, .int .i64 0, .int .i64 0] 84) = Wz from hWz]
        have hzz : n₀ ≤ wr.heap.size := by have := b0.out.size; have := hW.size; omega
        have bzz := b0.out.trans (bz.mono hzz)
        have zc := Lib.hid (whose_named h1 h7 (A := some ad) (B := some bd) (c := c1) (d := d1) f'.out s'.out hra.out hrb.out (Nat.lt_of_lt_of_le h0 (Nat.le_trans hzz bz.size)) (hs'.out.below h0 bzz) ((r1.out.below bzz).more (Nat.le_trans hzz bz.size)) ((r2.out.below bzz).more (Nat.le_trans hzz bz.size)))
        have gz' := Lib.hid gz
        have bz' := Lib.hid bz
        have hBx2 := Lib.hid hBx
        clear hWz bz gz bzz cO hBx
        (refine (callsIn_wide.2 zc.out).mono ?_)
        rintro e2 W2 ⟨rfl, hb2⟩
        have gy := gz'.out.next hb2
        have by' := Lib.hid (Below.after bz'.out hb2)
        have c0 := gy.cell 0
        have cx1 := gy.cell 1
        have y0 := gy.free 0
        have y1 := gy.free 1
        simp only [List.getElem?_toArray, List.getElem?_cons_zero, List.getElem?_cons_succ] at c0 cx1
        have gy' := Lib.hid gy
        clear hb2 zc gz' bz' gy
        gi_wp2_with fail
        obtain ⟨W3, hW3⟩ : ∃ W3, (W2.setCell ⟨wr.heap.size, 0, none⟩ (.bool true)).setCell ⟨wr.heap.size, 1, none⟩ (.bool true) = W3 := ⟨_, rfl⟩
        have g3' : Hid (Has W3 wr.heap.size 84 #[.bool true, .bool true, K 0#64, K 0#64, K 0#64, K 0#64]) := by show Has _ _ _ _; rw [← hW3]; exact has01 gy'.out _ _
        have b3 : Hid (Below wr.heap.size wr W3) := by show Below _ _ _; rw [← hW3]; exact (by'.out.setCell (p := ⟨wr.heap.size, 0, none⟩) (Nat.le_refl _) _).setCell (p := ⟨wr.heap.size, 1, none⟩) (Nat.le_refl _) _
        rw [hW3]
        clear hW3 c0 cx1 y0 y1 gy' by'
        have q0 := g3'.out.cell 0
        have q1 := g3'.out.cell 1
        simp only [List.getElem?_toArray, List.getElem?_cons_zero, List.getElem?_cons_succ] at q0 q1
        gi_wp2_with fail
        have z2 := g3'.out.cell 2
        have z3 := g3'.out.cell 3
        simp only [List.getElem?_toArray, List.getElem?_cons_zero, List.getElem?_cons_succ] at z2 z3
        have x2 := g3'.out.free 2
        have x3 := g3'.out.free 3
        have p1 : W3.cell? ad = some (K p.1) := keep_cell b3.out g1
        have p2 : W3.cell? ⟨ad.block, ad.off + 1, none⟩ = some (K p.2) := keep_cell b3.out g2
        gi_region
        obtain ⟨W4, hW4⟩ : ∃ W4, ((W3.setCell ⟨wr.heap.size, 2, none⟩ (K p.1)).setCell ⟨wr.heap.size, 3, none⟩ (K p.2)).drew = W4 := ⟨_, rfl⟩
        have g4' : Hid (Has W4 wr.heap.size 84 #[.bool true, .bool true, K p.1, K p.2, K 0#64, K 0#64]) := by show Has _ _ _ _; rw [← hW4]; exact has_drew (has23 g3'.out _ _)
        have b4 : Hid (Below wr.heap.size wr W4) := by show Below _ _ _; rw [← hW4]; exact ((b3.out.setCell (p := ⟨wr.heap.size, 2, none⟩) (Nat.le_refl _) _).setCell (p := ⟨wr.heap.size, 3, none⟩) (Nat.le_refl _) _).drew
        rw [show ((W3.setCell ⟨wr.heap.size, 2, none⟩ (.int .i64 p.1.toInt)).setCell ⟨wr.heap.size, 3, none⟩ (.int .i64 p.2.toInt)).drew = W4 from hW4]
        clear hW4 z2 z3 x2 x3 p1 p2 cutA q0 q1
        have q1 := g4'.out.cell 1
        simp only [List.getElem?_toArray, List.getElem?_cons_zero, List.getElem?_cons_succ] at q1
        gi_wp2_with fail
        have z4 := g4'.out.cell 4
        have z5 := g4'.out.cell 5
        simp only [List.getElem?_toArray, List.getElem?_cons_zero, List.getElem?_cons_succ] at z4 z5
        have x4 := g4'.out.free 4
        have x5 := g4'.out.free 5
        have p1 : W4.cell? bd = some (K p.1) := keep_cell b4.out g3
        have p2 : W4.cell? ⟨bd.block, bd.off + 1, none⟩ = some (K qv) := keep_cell b4.out g4
        gi_region
        obtain ⟨W5, hW5⟩ : ∃ W5, ((W4.setCell ⟨wr.heap.size, 4, none⟩ (K p.1)).setCell ⟨wr.heap.size, 5, none⟩ (K qv)).drew = W5 := ⟨_, rfl⟩
        have g5' : Hid (Has W5 wr.heap.size 84 #[.bool true, .bool true, K p.1, K p.2, K p.1, K qv]) := by show Has _ _ _ _; rw [← hW5]; exact has_drew (has45 g4'.out _ _)
        have b5 : Hid (Below wr.heap.size wr W5) := by show Below _ _ _; rw [← hW5]; exact ((b4.out.setCell (p := ⟨wr.heap.size, 4, none⟩) (Nat.le_refl _) _).setCell (p := ⟨wr.heap.size, 5, none⟩) (Nat.le_refl _) _).drew
        rw [show ((W4.setCell ⟨wr.heap.size, 4, none⟩ (.int .i64 p.1.toInt)).setCell ⟨wr.heap.size, 5, none⟩ (.int .i64 qv.toInt)).drew = W5 from hW5]
        clear hW5 z4 z5 x4 x5 p1 p2 cutB q1
        have hy0 := hY'.out pre e W5 (hJa'.out pre wr W5 none j0.out (grown_below b5.out) (fun r e => by cases e)) hpl
        obtain ⟨fn, tmps, assign, body, hy, hR⟩ := hy0
        have hy1 : _ := hy
        rw [← he] at hy1
        simp only [encF, fcells, Option.isSome_some, if_true, Option.getD_some] at hy1
        clear hy
        have v0 := g5'.out.cell 0
        have v1 := g5'.out.cell 1
        have v2 := g5'.out.cell 2
        have v3 := g5'.out.cell 3
        have v4 := g5'.out.cell 4
        have v5 := g5'.out.cell 5
        simp only [List.getElem?_toArray, List.getElem?_cons_zero, List.getElem?_cons_succ] at v0 v1 v2 v3 v4 v5
        gi_wp2
        refine hR.mono ?_
        rintro e3 W7 (⟨rfl, hJ3, hk3⟩ | ⟨rfl, hJx3⟩)
        · gi_wp2
          go_roundw
          case rel => exact ⟨pre ++ [e], a2, b2, A2, k, c1 - 1, B2, j, d1 - 1, rfl, rfl, hpre2, la, lb, by omega, by omega, by omega, rA2.out, rB2.out, hJ3, ⟨b0.out.trans ((b5.out.mono hzz).trans hk3.1), hk3.2.trans ((b5.out.block Bo hBx2.out).trans k0.out)⟩⟩
          case measure => simp [sliceLen]; omega
        · gi_wp2
          refine bodyPost_ret (results_none rfl _ _ _) rfl ?_
          exact ⟨⟨_, rfl⟩, .inr ⟨_, hpx.out, hJx3⟩⟩
    · have er : ra = [] := Classical.byContradiction fun h => hne (.inl h)
      have es : rb = [] := Classical.byContradiction fun h => hne (.inr h)
      subst er es
      obtain rfl : 0 = n1 := hra.out
      obtain rfl : 0 = m1 := hrb.out
      have j1 : Hid (J (walk o a b) wr) := by have := hpre.out; rw [walk_end, List.append_nil] at this; show J _ _; rw [← this]; exact j0.out
      clear hne
      gi_wp2
      go_end0
      first | exact ⟨⟨_, rfl⟩, .inl j1.out⟩ | exact ⟨⟨_, rfl⟩, .inl ⟨_, rfl, j1.out⟩⟩
end Go.Proofs.YtjnnfineebabaaaDoor
/- The contracts of Cut and Range of package rowset, and of the library's Clone at pairs. -/
namespace Go.Proofs.YtjnnfineebabaaaDoor
open Go.RowKit Go.Shelf Go.Proofs.Rowm

/-- a slice, made anew -/
def NewRow (w : World) (n : Nat) (l : List Pr) (e : Ending) (w' : World) : Prop := ∃ A c, e = .returned (.slice A n c) ∧ Here w' A n c l ∧ Below w.heap.size w w'
set_option maxRecDepth 100000 in
set_option maxHeartbeats 2000000 in
theorem clone_any (A : Option Addr) (n c : Nat) (l : List Pr) (w : World) (h : Here w A n c l) : Calls Tryd.prog 41 #[.slice A n c] w (NewRow w n l) := by
  obtain ⟨i0, hi, hz0, hz1, hz2⟩ := info_parts info_pair
  have heq := fun w A n c => Lib.run_eql_slice_nil (P := Tryd.prog) w 22 42 A n c 0 0 Tryd.underlying22
  cases A with
  | none =>
    obtain rfl := h.nil rfl
    obtain rfl : n = 0 := by have := h.cap; omega
    have h' := Lib.hid h
    clear h
    go_enter Tryd.func41, Tryd.ntmps41
    go_wp2
    go_ret
    exact ⟨_, _, rfl, h'.out, Below.refl _ _⟩
  | some ad =>
    have h' := Lib.hid h
    have h9 := h.few
    clear h
    go_enter Tryd.func41, Tryd.ntmps41
    go_wp2_with (at_builtin; refine wpList_append_row rfl _ _ 22 rfl w.heap.size 42 i0 (.agg #[.int .i64 0, .int .i64 0]) 2 16 Tryd.underlying22 hi hz0 hz1 hz2 rfl (by decide) _ 0 [] rfl (World.ownsRow_made w #[] 0 (Nat.le_refl _) (Nat.zero_le _) rfl) (some ad) n c (flat l) rfl (fun e => by cases e) h'.out.cap ?c1 _ (h'.out.row.alloc (Nat.le_refl _) _) (flat_one l) (by unfold maxLen; omega) (by omega) (by simp) ?_)
    case c1 => rw [flat_length, h'.out.len]
    intro v w1 hown hgrow
    have hb := Lib.hid (((Below.refl w.heap.size w).alloc (Nat.le_refl _) (.cells #[] 42)).grown hgrow (by simp) (fun r e => by simp [Value.ownBlock] at e; omega))
    have ho : w1.ownsRow w.heap.size 42 2 v n (flat l) := by simpa using hown
    obtain ⟨A', c', rfl, k1, k2, k3⟩ := own_slice ho
    have hh := Lib.hid (Here.mk h'.out.len h'.out.few k1 k3 (Nat.lt_of_lt_of_le h'.out.pos hb.out.size) (h'.out.steps.below h'.out.pos hb.out) (Row.of_own ho))
    clear hown hgrow ho k1 k2 k3 heq
    go_wp2
    go_ret
    exact ⟨_, _, rfl, hh.out, hb.out⟩

/-- what is left of a slice behind i pairs -/
theorem here_from {A : Option Addr} {n c i : Nat} {l : List Pr} {w : World} (h : Here w A n c l) (hi : i ≤ n) : ∃ A', (∀ W, (Instr.slice 22 (.slice A n c) (some (.int .i64 (i : Int))) none none).run Tryd.prog W = .ok (.slice A' (n - i) (c - i)) W) ∧ Here w A' (n - i) (c - i) (l.drop i) := by
  have hi' : (i : Int) ≤ (n : Int) := by omega
  refine ⟨if c = i then A else A.map (·.add (i * 2)), fun W => ?_, ⟨by rw [List.length_drop, h.len], by have := h.few; omega, by have := h.cap; omega, fun e => ?_, h.pos, h.steps, ?_⟩⟩
  · simp [Instr.slice, run_underlying Tryd.underlying22, Instr.sliceBounds, run_sliceBound, hi', Result.andThen]
  · split at e
    · omega
    · have := h.nil (by simpa using e); omega
  · rw [flat_drop]
    exact h.row.drop _ rfl (by rw [flat_length, h.len]; exact Nat.mul_le_mul_right _ h.cap)
theorem here_to {A : Option Addr} {n c i : Nat} {l : List Pr} {w : World} (h : Here w A n c l) (hi : i ≤ n) : (∀ W, (Instr.slice 22 (.slice A n c) none (some (.int .i64 (i : Int))) none).run Tryd.prog W = .ok (.slice A i c) W) ∧ Here w A i c (l.take i) :=
  ⟨cut_to Tryd.underlying22 size_pair A n c i _ rfl (by have := h.cap; omega), by rw [List.length_take, h.len]; omega, by have := h.few; omega, by have := h.cap; omega, h.nil, h.pos, h.steps, by rw [flat_take]; exact h.row.take _⟩
theorem here_mid {A : Option Addr} {n c i k : Nat} {l : List Pr} {w : World} (h : Here w A n c l) (hi : i ≤ k) (hk : k ≤ n) : ∃ A', (∀ W, (Instr.slice 22 (.slice A n c) (some (.int .i64 (i : Int))) (some (.int .i64 (k : Int))) none).run Tryd.prog W = .ok (.slice A' (k - i) (c - i)) W) ∧ Here w A' (k - i) (c - i) ((l.take k).drop i) := by
  have hi' : (i : Int) ≤ (k : Int) := by omega
  have hk' : (k : Int) ≤ (c : Int) := by have := h.cap; omega
  obtain ⟨_, h2⟩ := here_to h hk
  refine ⟨if c = i then A else A.map (·.add (i * 2)), fun W => ?_, ⟨by rw [List.length_drop, h2.len], by have := h2.few; omega, by have := h2.cap; omega, fun e => ?_, h.pos, h.steps, ?_⟩⟩
  · simp [Instr.slice, run_underlying Tryd.underlying22, Instr.sliceBounds, run_sliceBound, hi', hk', Result.andThen]
  · split at e
    · omega
    · have := h.nil (by simpa using e); omega
  · rw [flat_drop]
    exact h2.row.drop _ rfl (by rw [flat_length, h2.len]; exact Nat.mul_le_mul_right _ h2.cap)
theorem here_drewN {A : Option Addr} {n c : Nat} {l : List Pr} {w : World} (h : Here w A n c l) (k : Nat) : Here (w.drewN k) A n c l := h.next (below_drewN (Below.refl _ _) _)

/-- a row cut at a key -/
def CutH (W : World) (i m : Nat) (a b : List Pr) (v : BitVec 64) (t : Bool) (e : Ending) (w' : World) : Prop :=
  ∃ A1 c1 A2 c2, e = .returned (.tuple #[.slice A1 i c1, K v, .bool t, .slice A2 m c2]) ∧ Here w' A1 i c1 a ∧ Here w' A2 m c2 b ∧ Below W.heap.size W w'

set_option maxRecDepth 100000 in
set_option maxHeartbeats 2000000 in
theorem cut_no (o : Nat) (A : Option Addr) (n c : Nat) (l : List Pr) (key : BitVec 64) (hm : mayB o l = false) (w : World) (h : Here w A n c l) :
    Calls Tryd.prog 22 #[.int .u8 o, .slice A n c, K key] w (CutH w 0 0 [] [] 0#64 false) := by
  have h' := Lib.hid h
  have hm' := Lib.hid hm
  clear h hm
  go_enter Tryd.func22, Tryd.ntmps22
  go_wp2_with fail
  (with_reducible refine (rowMay_is hm'.out h'.out.len h'.out.k h'.out.pos h'.out.steps h'.out.row).mono ?_)
  rintro e w1 ⟨rfl, hb⟩
  have b1 := Lib.hid hb
  have h1 := Lib.hid (h'.out.next hb)
  clear hb
  go_wp2
  refine bodyPost_ret (v := .tuple #[.slice none 0 0, K 0#64, .bool false, .slice none 0 0]) (by simp [results, Tryd.results22, go_sem]) rfl ?_
  exact ⟨none, 0, none, 0, rfl, here_nil h1.out.pos h1.out.steps, here_nil h1.out.pos h1.out.steps, b1.out⟩

set_option maxRecDepth 100000 in
set_option maxHeartbeats 4000000 in
theorem cut_yes (o : Nat) (A : Option Addr) (n c : Nat) (l : List Pr) (key : BitVec 64) (i j m : Nat) (t : Bool) (v : BitVec 64) (ht : decide (i < j) = t) (hv : valAt l i j = v) (hm : mayB o l = true) (ha : At o l key i j) (hjm : n - j = m) (w : World) (h : Here w A n c l) :
    Calls Tryd.prog 22 #[.int .u8 o, .slice A n c, K key] w (CutH w i m (l.take i) (l.drop j) v t) := by
  have hij := ha.le
  have hone := ha.one
  have hjl := ha.len
  rw [h.len] at hjl
  have h9 := h.few
  have h' := Lib.hid h
  have hm' := Lib.hid hm
  have ha' := Lib.hid ha
  have hv' := Lib.hid hv
  have hjm' := Lib.hid hjm
  have hl := h.len
  have hl' := Lib.hid hl
  clear h hm hv ha hjm hl
  cases t with
  | false =>
    obtain rfl : j = i := by simp at ht; omega
    have ht' := Lib.hid ht
    clear ht
    go_enter Tryd.func22, Tryd.ntmps22
    go_wp2_with fail
    (with_reducible refine (rowMay_is hm'.out h'.out.len h'.out.k h'.out.pos h'.out.steps h'.out.row).mono ?_)
    rintro e w1 ⟨rfl, hb⟩
    have b1 := Lib.hid hb
    have h1 := Lib.hid (h'.out.next hb)
    clear hb
    go_wp2_with fail
    (with_reducible refine (find_yes o A n c l key j j false ht'.out hm'.out ha'.out h1.out.len h1.out.k _ h1.out.pos h1.out.steps h1.out.row).mono ?_)
    rintro e w2 ⟨rfl, hb⟩
    have b2 := Lib.hid (Below.after b1.out hb)
    have h2 := Lib.hid (h1.out.next hb)
    clear hb
    obtain ⟨c1, k1⟩ := here_to h2.out hjl
    obtain ⟨A', c2, k2⟩ := here_from h2.out hjl
    have k1' := Lib.hid k1
    have k2' := Lib.hid k2
    clear k1 k2
    go_wp2_with fail
    go_quiet (fail)
    obtain ⟨W, hW⟩ : ∃ W, w2.drewN nq = W := ⟨_, rfl⟩
    have k3 : Hid (Here W A j c (l.take j)) := by show Here W _ _ _ _; rw [← hW]; exact here_drewN k1'.out _
    have k4 : Hid (Here W A' (n - j) (c - j) (l.drop j)) := by show Here W _ _ _ _; rw [← hW]; exact here_drewN k2'.out _
    have b3 : Hid (Below w.heap.size w W) := by show Below _ _ _; rw [← hW]; exact below_drewN b2.out _
    rw [hW]
    clear hW c1 c2 k1' k2'
    go_wp2_with fail
    (with_reducible refine (clone_any _ _ _ _ _ k3.out).mono ?_)
    rintro e w4 ⟨A4, d4, rfl, hh, hb⟩
    have k5 := Lib.hid hh
    have k6 := Lib.hid (k4.out.next hb)
    have b4 := Lib.hid (Below.after b3.out hb)
    clear hh hb k3 k4
    go_wp2_with fail
    (with_reducible refine (clone_any _ _ _ _ _ k6.out).mono ?_)
    rintro e w5 ⟨A5, d5, rfl, hh, hb⟩
    have k7 := Lib.hid hh
    have k8 := Lib.hid (k5.out.next hb)
    have b5 := Lib.hid (Below.after b4.out hb)
    clear hh hb k5 k6
    go_wp2
    refine bodyPost_ret (v := .tuple #[.slice A4 j d4, K 0#64, .bool false, .slice A5 (n - j) d5]) (by simp [results, Tryd.results22, go_sem]) rfl ?_
    have e0 : v = 0#64 := by rw [← hv'.out]; unfold valAt; rw [if_neg (Nat.lt_irrefl _)]
    rw [e0, ← hjm'.out]
    exact ⟨_, _, _, _, rfl, k8.out, k7.out, b5.out⟩
  | true =>
    have hij2 : i < j := by simpa using ht
    obtain rfl : j = i + 1 := by omega
    have hil : i < l.length := by rw [hl'.out]; omega
    have hvv : Hid (l[i].2 = v) := by show _ = _; rw [← hv'.out]; unfold valAt; rw [if_pos (Nat.lt_succ_self i), getD_at l i hil]
    obtain ⟨k, hk⟩ : ∃ k, n - i = k + 1 := ⟨n - i - 1, by omega⟩
    have hdr : Hid (l.drop i = l[i] :: l.drop (i + 1)) := List.drop_eq_getElem_cons hil
    have ht' := Lib.hid ht
    have hin : i ≤ n := by omega
    have hkm : Hid (k = m) := by show k = m; rw [← hjm'.out]; omega
    clear ht hij2 hij hone
    go_enter Tryd.func22, Tryd.ntmps22
    go_wp2_with fail
    (with_reducible refine (rowMay_is hm'.out h'.out.len h'.out.k h'.out.pos h'.out.steps h'.out.row).mono ?_)
    rintro e w1 ⟨rfl, hb⟩
    have b1 := Lib.hid hb
    have h1 := Lib.hid (h'.out.next hb)
    clear hb
    go_wp2_with fail
    (with_reducible refine (find_yes o A n c l key i (i + 1) true ht'.out hm'.out ha'.out h1.out.len h1.out.k _ h1.out.pos h1.out.steps h1.out.row).mono ?_)
    rintro e w2 ⟨rfl, hb⟩
    have b2 := Lib.hid (Below.after b1.out hb)
    have h2 := Lib.hid (h1.out.next hb)
    clear hb
    obtain ⟨c1, k1⟩ := here_to h2.out hin
    obtain ⟨A', c2, k2⟩ := here_from h2.out hin
    rw [hk, hdr.out] at k2
    rw [hk] at c2
    obtain ⟨A'', c3, k3⟩ := here_from k2 (show 1 ≤ k + 1 by omega)
    rw [List.drop_succ_cons, List.drop_zero, Nat.add_sub_cancel] at k3
    rw [Nat.add_sub_cancel] at c3
    have c4 : ∀ W, (Instr.slice 22 (.slice A' (k + 1) (c - i)) (some (.int .i64 1)) none none).run Tryd.prog W = .ok (.slice A'' k (c - i - 1)) W := c3
    clear c3
    have k1' := Lib.hid k1
    have k3' := Lib.hid k3
    obtain ⟨ad, rfl, _, g1, g2⟩ := pair_at k2.row 0 (by rw [List.length_cons]; omega)
    have g2' : w2.cell? ⟨ad.block, ad.off + 1, none⟩ = some (K l[i].2) := by simpa [Addr.add] using g2
    have e1 : (0 : Int) < (k : Int) + 1 := by omega
    have hk' := Lib.hid hk
    clear k1 k2 k3 g1 g2 hk
    go_wp2_with fail
    go_quiet (fail)
    obtain ⟨W, hW⟩ : ∃ W, w2.drewN nq = W := ⟨_, rfl⟩
    have k3 : Hid (Here W A i c (l.take i)) := by show Here W _ _ _ _; rw [← hW]; exact here_drewN k1'.out _
    have k4 : Hid (Here W A'' k (c - i - 1) (l.drop (i + 1))) := by show Here W _ _ _ _; rw [← hW]; exact here_drewN k3'.out _
    have b3 : Hid (Below w.heap.size w W) := by show Below _ _ _; rw [← hW]; exact below_drewN b2.out _
    have g3 : W.cell? ⟨ad.block, ad.off + 1, none⟩ = some (K l[i].2) := by rw [← hW]; exact g2'
    rw [hW]
    clear hW c1 c2 k1' k3' g2'
    go_wp2_with fail
    go_quiet (fail)
    obtain ⟨X, hX⟩ : ∃ X, W.drewN nq = X := ⟨_, rfl⟩
    have k5 : Hid (Here X A i c (l.take i)) := by show Here X _ _ _ _; rw [← hX]; exact here_drewN k3.out _
    have k6 : Hid (Here X A'' k (c - i - 1) (l.drop (i + 1))) := by show Here X _ _ _ _; rw [← hX]; exact here_drewN k4.out _
    have b4 : Hid (Below w.heap.size w X) := by show Below _ _ _; rw [← hX]; exact below_drewN b3.out _
    rw [hX]
    clear hX c4 k3 k4 g3 b3
    go_wp2_with fail
    (with_reducible refine (clone_any _ _ _ _ _ k5.out).mono ?_)
    rintro e w4 ⟨A4, d4, rfl, hh, hb⟩
    have k7 := Lib.hid hh
    have k8 := Lib.hid (k6.out.next hb)
    have b5 := Lib.hid (Below.after b4.out hb)
    clear hh hb k5 k6
    go_wp2_with fail
    (with_reducible refine (clone_any _ _ _ _ _ k8.out).mono ?_)
    rintro e w5 ⟨A5, d5, rfl, hh, hb⟩
    have k9 := Lib.hid hh
    have k10 := Lib.hid (k7.out.next hb)
    have b6 := Lib.hid (Below.after b5.out hb)
    clear hh hb k7 k8
    go_wp2
    refine bodyPost_ret (v := .tuple #[.slice A4 i d4, K l[i].2, .bool true, .slice A5 k d5]) (by simp [results, Tryd.results22, go_sem]) rfl ?_
    rw [hvv.out, hkm.out]
    exact ⟨_, _, _, _, rfl, k10.out, hkm.out ▸ k9.out, b6.out⟩

/-- a range is a piece -/
theorem range_piece {o : Nat} {l : List Pr} {lo hi : BitVec 64} {i j i2 j2 : Nat} (h1 : At o l lo i j) (h2 : At o l hi i2 j2) : rangeL o lo hi l = (l.take (max i j2)).drop i := by
  have e : rangeL o lo hi l = (l.take j2).filter fun p => decide (num o lo ≤ num o p.1) := by
    rw [← h2.upTo, List.filter_filter]
    unfold rangeL
    rfl
  rw [e]
  have e2 : (l.take j2).filter (fun p => decide (num o lo ≤ num o p.1)) = (l.take j2).drop i := by
    refine filter_parts2 (fun p hp => ?_) fun p hp => ?_
    · obtain ⟨t, ht, hti, rfl⟩ := in_take hp
      rw [List.length_take] at ht
      rw [List.getElem_take]
      have := h1.lt_iff t (by omega)
      simp only [decide_eq_false_iff_not]; omega
    · obtain ⟨t, ht, hti, rfl⟩ := in_drop hp
      rw [List.length_take] at ht
      rw [List.getElem_take]
      have := h1.lt_iff t (by omega)
      simp only [decide_eq_true_eq]; omega
  rw [e2]
  rcases Nat.le_total i j2 with h | h
  · rw [Nat.max_eq_right h]
  · rw [Nat.max_eq_left h, List.drop_of_length_le (by rw [List.length_take]; omega), List.drop_of_length_le (by rw [List.length_take]; omega)]

set_option maxRecDepth 100000 in
set_option maxHeartbeats 2000000 in
theorem range_no (o : Nat) (A : Option Addr) (n c : Nat) (l : List Pr) (lo hi : BitVec 64) (hm : mayB o l = false) (w : World) (h : Here w A n c l) :
    Calls Tryd.prog 20 #[.int .u8 o, .slice A n c, K lo, K hi] w (MadeH w 0 [] (.int .i64 2)) := by
  have h' := Lib.hid h
  have hm' := Lib.hid hm
  clear h hm
  go_enter Tryd.func20, Tryd.ntmps20
  go_wp2_with fail
  (with_reducible refine (rowMay_is hm'.out h'.out.len h'.out.k h'.out.pos h'.out.steps h'.out.row).mono ?_)
  rintro e w1 ⟨rfl, hb⟩
  have b1 := Lib.hid hb
  have h1 := Lib.hid (h'.out.next hb)
  clear hb
  go_wp2
  go_ret2
  exact ⟨none, 0, rfl, here_nil h1.out.pos h1.out.steps, b1.out⟩

set_option maxRecDepth 100000 in
set_option maxHeartbeats 4000000 in
theorem range_yes (o : Nat) (A : Option Addr) (n c : Nat) (l s : List Pr) (q : Nat) (lo hi : BitVec 64) (hm : mayB o l = true) (hs : rangeL o lo hi l = s) (hq : s.length = q) (w : World) (h : Here w A n c l) :
    Calls Tryd.prog 20 #[.int .u8 o, .slice A n c, K lo, K hi] w (MadeH w q s (.int .i64 0)) := by
  have hr := (mayB_parts hm).2.2
  have a1 := at_of hr lo
  have a2 := at_of hr hi
  generalize pos o lo l = i at a1
  generalize upto o lo l = j at a1
  generalize pos o hi l = i2 at a2
  generalize upto o hi l = j2 at a2
  have hpc := range_piece a1 a2
  rw [hs] at hpc
  have hjl := a1.len
  have hij := a1.le
  have hjl2 := a2.len
  have hij2 := a2.le
  have hone2 := a2.one
  rw [h.len] at hjl hjl2
  have h9 := h.few
  have h' := Lib.hid h
  have hm' := Lib.hid hm
  have a1' := Lib.hid a1
  have a2' := Lib.hid a2
  have hq' := Lib.hid hq
  have hp' := Lib.hid hpc
  obtain ⟨t1, ht1⟩ : ∃ t, decide (i < j) = t := ⟨_, rfl⟩
  have ht1' := Lib.hid ht1
  clear h hm a1 a2 hs hq hr hpc ht1
  obtain ⟨mm, hmm⟩ : ∃ mm, max i j2 = mm := ⟨_, rfl⟩
  have hmx : max (i : Int) (j2 : Int) = (mm : Int) := by omega
  have him : i ≤ mm := by omega
  have hmn : mm ≤ n := by omega
  have hmm' := Lib.hid hmm
  clear hmm
  cases ht2 : decide (i2 < j2) with
  | true =>
    obtain rfl : j2 = i2 + 1 := by simp at ht2; omega
    have ht2' := Lib.hid ht2
    have hmx2 : max (i : Int) ((i2 : Int) + 1) = (mm : Int) := by rw [← hmx]; rfl
    clear ht2 hmx
    go_enter Tryd.func20, Tryd.ntmps20
    go_wp2_with fail
    (with_reducible refine (rowMay_is hm'.out h'.out.len h'.out.k h'.out.pos h'.out.steps h'.out.row).mono ?_)
    rintro e w1 ⟨rfl, hb⟩
    have b1 := Lib.hid hb
    have h1 := Lib.hid (h'.out.next hb)
    clear hb
    go_wp2_with fail
    (with_reducible refine (find_yes o A n c l lo i j t1 ht1'.out hm'.out a1'.out h1.out.len h1.out.k _ h1.out.pos h1.out.steps h1.out.row).mono ?_)
    rintro e w2 ⟨rfl, hb⟩
    have b2 := Lib.hid (Below.after b1.out hb)
    have h2 := Lib.hid (h1.out.next hb)
    clear hb
    go_wp2_with fail
    (with_reducible refine (find_yes o A n c l hi i2 (i2 + 1) true ht2'.out hm'.out a2'.out h2.out.len h2.out.k _ h2.out.pos h2.out.steps h2.out.row).mono ?_)
    rintro e w3 ⟨rfl, hb⟩
    have b3 := Lib.hid (Below.after b2.out hb)
    have h3 := Lib.hid (h2.out.next hb)
    clear hb
    obtain ⟨A', c3, k3⟩ := here_mid h3.out him hmn
    have k3' := Lib.hid k3
    clear k3
    go_wp2_with fail
    (with_reducible refine (clone_any _ _ _ _ _ k3'.out).mono ?_)
    rintro e w4 ⟨A4, d4, rfl, hh, hb⟩
    have es : s = (l.take mm).drop i := by rw [hp'.out, hmm'.out]
    have eq : mm - i = q := by rw [← hq'.out, es]; exact hh.len.symm
    rw [← es, eq] at hh
    have k4 := Lib.hid hh
    have b4 := Lib.hid (Below.after b3.out hb)
    clear hh hb es
    have eq' := Lib.hid eq
    clear eq
    go_wp2
    go_ret2
    rw [eq'.out]
    exact ⟨_, _, rfl, k4.out, b4.out⟩
  | false =>
    obtain rfl : j2 = i2 := by simp at ht2; omega
    have ht2' := Lib.hid ht2
    clear ht2
    go_enter Tryd.func20, Tryd.ntmps20
    go_wp2_with fail
    (with_reducible refine (rowMay_is hm'.out h'.out.len h'.out.k h'.out.pos h'.out.steps h'.out.row).mono ?_)
    rintro e w1 ⟨rfl, hb⟩
    have b1 := Lib.hid hb
    have h1 := Lib.hid (h'.out.next hb)
    clear hb
    go_wp2_with fail
    (with_reducible refine (find_yes o A n c l lo i j t1 ht1'.out hm'.out a1'.out h1.out.len h1.out.k _ h1.out.pos h1.out.steps h1.out.row).mono ?_)
    rintro e w2 ⟨rfl, hb⟩
    have b2 := Lib.hid (Below.after b1.out hb)
    have h2 := Lib.hid (h1.out.next hb)
    clear hb
    go_wp2_with fail
    (with_reducible refine (find_yes o A n c l hi j2 j2 false ht2'.out hm'.out a2'.out h2.out.len h2.out.k _ h2.out.pos h2.out.steps h2.out.row).mono ?_)
    rintro e w3 ⟨rfl, hb⟩
    have b3 := Lib.hid (Below.after b2.out hb)
    have h3 := Lib.hid (h2.out.next hb)
    clear hb
    obtain ⟨A', c3, k3⟩ := here_mid h3.out him hmn
    have k3' := Lib.hid k3
    clear k3
    go_wp2_with fail
    (with_reducible refine (clone_any _ _ _ _ _ k3'.out).mono ?_)
    rintro e w4 ⟨A4, d4, rfl, hh, hb⟩
    have es : s = (l.take mm).drop i := by rw [hp'.out, hmm'.out]
    have eq : mm - i = q := by rw [← hq'.out, es]; exact hh.len.symm
    rw [← es, eq] at hh
    have k4 := Lib.hid hh
    have b4 := Lib.hid (Below.after b3.out hb)
    clear hh hb es
    have eq' := Lib.hid eq
    clear eq
    go_wp2
    go_ret2
    rw [eq'.out]
    exact ⟨_, _, rfl, k4.out, b4.out⟩
end Go.Proofs.YtjnnfineebabaaaDoor
/- The document's own answers of layer 5: Meet, Apart. -/
namespace Go.Proofs.YtjnnfineebabaaaDoor
open Go.RowKit Go.Shelf Go.Proofs.Rowm

set_option maxHeartbeats 4000000 in
theorem refMeet_yes (o p : Nat) (p1 : 1 ≤ p) (p3 : p ≤ 3) (A B : Option Addr) (n c m d : Nat) (a b s : List Pr) (q : Nat) (ha : mayB o a = true) (hb : mayB o b = true) (hs : meetL o p a b = s) (hq : s.length = q) (w : World) (h : Here w A n c a) (hh : Here w B m d b) :
    Calls Tryd.prog 15 #[.int .u8 o, .int .u8 p, .slice A n c, .slice B m d] w (MadeH w q s (.int .i64 0)) := by
  obtain ⟨i0, hi, hz0, hz1, hz2⟩ := info_parts info_pair
  have hs2 : a.filterMap (metOf p b) = s := (meet_filter (incr_mayB ha) (incr_mayB hb)).trans hs
  have hc := Lib.hid (refBoth_is o A B n c m d a b true true ha hb w h hh)
  have hl := h.len
  have hn9 := h.few
  have h' := Lib.hid h
  have hh' := Lib.hid hh
  have hmb := Lib.hid hb
  have hs' := Lib.hid hs2
  have hq' := Lib.hid hq
  clear h hh ha hb hs hq hs2
  go_enter Tryd.func15, Tryd.ntmps15
  go_wp2_with fail
  refine hc.out.mono ?_
  rintro e w1 ⟨rfl, hb⟩
  have b1 := Lib.hid hb
  clear hb hc
  go_wp2_with (go_at_call 30; refine (refMay_at _ p1 p3 _).mono ?_; rintro e w' ⟨rfl, rfl⟩)
  go_loopw [10, 11] (fun v8 v9 wr => ∃ k, k ≤ n ∧ v9 = .int .i64 (k : Int) ∧ wr.ownsRow w.heap.size 42 2 v8 ((a.take k).filterMap (metOf p b)).length (flat ((a.take k).filterMap (metOf p b))) ∧ Below w.heap.size w wr) (fun _ v9 _ => n - (intOf v9).toNat)
  case atStart => exact ⟨0, Nat.zero_le _, rfl, World.ownsRow_nil _ _ _ _, b1.out⟩
  case round =>
    obtain ⟨k, hk, rfl, hown, hb⟩ := hrel
    have ho := Lib.hid hown
    have b2 := Lib.hid hb
    clear hown hb b1
    by_cases hlt : k < n
    · have hkl : k < a.length := by omega
      have hk1 : k + 1 ≤ n := hlt
      have hnx := Lib.hid (met_next (f := metOf p b) hkl)
      have hle := met_le (f := metOf p b) (l := a) (k := k)
      rw [hl] at hle
      obtain ⟨ad, rfl, _, g1, g2⟩ := pair_at (h'.out.row.below b2.out) k hkl
      obtain ⟨L, hL⟩ : ∃ L, ((a.take k).filterMap (metOf p b)) = L := ⟨_, rfl⟩
      rw [hL] at ho hnx hle
      clear hL
      obtain ⟨y, hy⟩ : ∃ y, a[k] = y := ⟨_, rfl⟩
      simp only [hy] at g1 g2 hnx
      clear hy
      have hp2 := b2.out.size
      cases hg : got b y.1 with
      | none =>
        have hg' := Lib.hid hg
        have e1 : Hid (((a.take (k + 1)).filterMap (metOf p b)) = L) := by show _ = L; rw [hnx.out, metOf, hg]; simp
        clear hg hnx
        go_wp2_with fail
        refine (refGet_hasnt hmb.out hg'.out (hh'.out.next b2.out)).mono ?_
        rintro e w3 ⟨rfl, hb⟩
        have b3 := Lib.hid (Below.after b2.out hb)
        have o3 := Lib.hid (own_next ho.out hb)
        clear hb
        go_wp2
        go_roundw
        case rel => exact ⟨k + 1, hk1, by go_num, by rw [e1.out]; exact o3.out, b3.out⟩
        case measure => simp [intOf]; omega
      | some v =>
        obtain ⟨z, hz⟩ : ∃ z, Foldm.cmb p y.2 v = z := ⟨_, rfl⟩
        have hg' := Lib.hid hg
        have hz' := Lib.hid hz
        have e1 : Hid (((a.take (k + 1)).filterMap (metOf p b)) = L ++ [(y.1, z)]) := by show _ = L ++ [(y.1, z)]; rw [hnx.out, metOf, hg, ← hz]; rfl
        clear hg hnx hz
        go_wp2_with fail
        refine (refGet_has hmb.out hg'.out (hh'.out.next b2.out)).mono ?_
        rintro e w3 ⟨rfl, hb⟩
        have b3 := Lib.hid (Below.after b2.out hb)
        have o3 := Lib.hid (own_next ho.out hb)
        have q1 := keep_cell hb g1
        have q2 := keep_cell hb g2
        clear hb g1 g2
        go_wp2_with fail
        have ro3 : Hid (Row ((w3.drew).alloc (.cells #[K y.1, K z] 42)) (w3.heap.size + 1) (some ⟨w3.heap.size, 0, none⟩) [K y.1, K z]) := by have := (Has.new w3.drew 42 #[K y.1, K z]).row; rw [World.size_alloc] at this; exact this
        go_region_law (first
          | (go_simp; go_at_call 37; refine (refCombine_is p1 p3 hz'.out _).mono ?_; rintro e w' ⟨rfl, rfl⟩)
          | (refine step_append_row (by rfl) _ _ 22 (by rfl) w.heap.size 42 i0 (.agg #[.int .i64 0, .int .i64 0]) 2 16 Tryd.underlying22 hi hz0 hz1 hz2 rfl (by decide) u10 L.length (flat L) (by rfl) ((o3.out.drew).alloc _) (some ⟨w3.heap.size, 0, none⟩) 1 1 (flat [(y.1, z)]) (by rfl) (by simp) (Nat.le_refl _) (by rfl) (w3.heap.size + 1) ro3.out (flat_one [(y.1, z)]) (by unfold maxLen; omega) (by omega) (by have := b3.out.size; simp; omega) ?_
             intro v' w4 hown hgrow
             have o4 := Lib.hid hown
             have b4 := Lib.hid (((b3.out.drew).alloc b3.out.size (.cells #[K y.1, K z] 42)).grown hgrow (by have := b3.out.size; simp; omega) (fun r e => (o3.out.lt r e).1))
             clear hown hgrow))
        all_goals
          go_wp2
          go_roundw
          case rel => exact ⟨k + 1, hk1, by go_num, by rw [e1.out, List.length_append, flat_append]; exact o4.out, b4.out⟩
          case measure => simp [intOf]; omega
    · have e : ((a.take k).filterMap (metOf p b)) = s := by rw [List.take_of_length_le (by omega)]; exact hs'.out
      rw [e, hq'.out] at ho
      have hq9 : q ≤ 900 := by have := met_le (f := metOf p b) (l := a) (k := k); rw [e, hq'.out] at this; omega
      clear e
      go_wp2
      go_ret2
      exact made_own h'.out.pos h'.out.steps hq'.out hq9 ho.out b2.out

set_option maxHeartbeats 2000000 in
theorem refMeet_no (o p : Nat) (A B : Option Addr) (n c m d : Nat) (a b : List Pr) (hf : ¬ ((mayB o a && mayB o b) = true ∧ 1 ≤ p ∧ p ≤ 3)) (w : World) (h : Here w A n c a) (hq : Here w B m d b) :
    Calls Tryd.prog 15 #[.int .u8 o, .int .u8 p, .slice A n c, .slice B m d] w (MadeH w 0 [] (.int .i64 2)) := by
  obtain ⟨t, ht⟩ : ∃ t, mayB o a = t := ⟨_, rfl⟩
  obtain ⟨u, hu⟩ : ∃ u, mayB o b = u := ⟨_, rfl⟩
  rw [ht, hu] at hf
  have hc := Lib.hid (refBoth_is o A B n c m d a b t u ht hu w h hq)
  have h' := Lib.hid h
  clear h hq ht hu
  cases htu : (t && u) with
  | false =>
    rw [htu] at hc
    clear hf htu
    go_enter Tryd.func15, Tryd.ntmps15
    go_wp2_with fail
    refine hc.out.mono ?_
    rintro e w1 ⟨rfl, hb⟩
    have b1 := Lib.hid hb
    clear hb
    go_wp2
    go_ret2
    exact ⟨none, 0, rfl, here_nil (Nat.lt_of_lt_of_le h'.out.pos b1.out.size) (h'.out.steps.below h'.out.pos b1.out), b1.out⟩
  | true =>
    rw [htu] at hc
    have hp : ¬ (1 ≤ (p : Int) ∧ (p : Int) ≤ 3) := fun ⟨x, y⟩ => hf ⟨htu, by omega, by omega⟩
    clear hf htu
    go_enter Tryd.func15, Tryd.ntmps15
    go_wp2_with fail
    refine hc.out.mono ?_
    rintro e w1 ⟨rfl, hb⟩
    have b1 := Lib.hid hb
    clear hb
    go_wp2_with (go_at_call 30; refine (refMay_none _ hp _).mono ?_; rintro e w' ⟨rfl, rfl⟩)
    go_ret2
    exact ⟨none, 0, rfl, here_nil (Nat.lt_of_lt_of_le h'.out.pos b1.out.size) (h'.out.steps.below h'.out.pos b1.out), b1.out⟩

set_option maxHeartbeats 2000000 in
theorem refApart_no (o : Nat) (A B : Option Addr) (n c m d : Nat) (a b : List Pr) (hf : (mayB o a && mayB o b) = false) (w : World) (h : Here w A n c a) (hq : Here w B m d b) :
    Calls Tryd.prog 19 #[.int .u8 o, .slice A n c, .slice B m d] w (MadeH w 0 [] (.int .i64 2)) := by
  have hc := Lib.hid (refLess_no o A B n c m d a b hf w h hq)
  clear hf h hq
  go_enter Tryd.func19, Tryd.ntmps19
  go_wp2_with fail
  refine hc.out.mono ?_
  rintro e w1 ⟨A1, c1, rfl, hh, hb⟩
  have h1 := Lib.hid hh
  have b1 := Lib.hid hb
  clear hh hb hc
  go_wp2
  go_ret2
  exact ⟨none, 0, rfl, here_nil h1.out.pos h1.out.steps, b1.out⟩

set_option maxHeartbeats 2000000 in
theorem refApart_yes (o : Nat) (A B : Option Addr) (n c m d : Nat) (a b s : List Pr) (q : Nat) (ha : mayB o a = true) (hb : mayB o b = true) (hs : apartL o a b = s) (hq : s.length = q) (hnm : n + m ≤ 900) (w : World) (h : Here w A n c a) (hh : Here w B m d b) :
    Calls Tryd.prog 19 #[.int .u8 o, .slice A n c, .slice B m d] w (MadeH w q s (.int .i64 0)) := by
  obtain ⟨h1, h7, _⟩ := mayB_parts ha
  obtain ⟨x, hx⟩ : ∃ x, lessL o a b = x := ⟨_, rfl⟩
  obtain ⟨y, hy⟩ : ∃ y, lessL o b a = y := ⟨_, rfl⟩
  obtain ⟨i, hi⟩ : ∃ i, x.length = i := ⟨_, rfl⟩
  obtain ⟨j, hj⟩ : ∃ j, y.length = j := ⟨_, rfl⟩
  have hii : i ≤ n := by have := len_less_meet (p := 1) (incr_mayB ha) (incr_mayB hb); rw [hx, hi, h.len] at this; omega
  have hjj : j ≤ m := by have := len_less_meet (p := 1) (incr_mayB hb) (incr_mayB ha); rw [hy, hj, hh.len] at this; omega
  have hu : unionL o 1 x y = s := by rw [← hx, ← hy, less_less (incr_mayB ha) (incr_mayB hb)]; exact hs
  have mx := Lib.hid (mayB_incr h1 h7 (hx ▸ lessL_incr (incr_mayB ha) (incr_mayB hb)))
  have my := Lib.hid (mayB_incr h1 h7 (hy ▸ lessL_incr (incr_mayB hb) (incr_mayB ha)))
  have c1 := Lib.hid (refLess_yes o A B n c m d a b x i ha hb hx hi w h hh)
  have c2 := Lib.hid fun W (k : Here W A n c a) (k' : Here W B m d b) => refLess_yes o B A m d n c b a y j hb ha hy hj W k' k
  have h' := Lib.hid h
  have hh' := Lib.hid hh
  have hu' := Lib.hid hu
  have hq' := Lib.hid hq
  clear h hh ha hb hs hq hx hy hi hj hu
  go_enter Tryd.func19, Tryd.ntmps19
  go_wp2_with fail
  refine c1.out.mono ?_
  rintro e w1 ⟨A1, d1, rfl, hx1, hb⟩
  have x1 := Lib.hid hx1
  have k1 := Lib.hid (h'.out.next hb)
  have l1 := Lib.hid (hh'.out.next hb)
  have b1 := Lib.hid hb
  clear hx1 hb c1
  go_wp2_with fail
  refine (c2.out _ k1.out l1.out).mono ?_
  rintro e w2 ⟨A2, d2, rfl, hy2, hb⟩
  have y2 := Lib.hid hy2
  have x2 := Lib.hid (x1.out.next hb)
  have b2 := Lib.hid (Below.after b1.out hb)
  clear hy2 hb c2 x1
  go_wp2_with fail
  refine (refUnion_yes o 1 (by decide) (by decide) A1 A2 i d1 j d2 x y s q mx.out my.out hu'.out hq'.out (by omega) _ x2.out y2.out).mono ?_
  rintro e w3 ⟨A3, d3, rfl, hz3, hb⟩
  have z3 := Lib.hid hz3
  have b3 := Lib.hid (Below.after b2.out hb)
  clear hz3 hb
  go_wp2
  go_ret2
  exact ⟨_, _, rfl, z3.out, b3.out⟩
end Go.Proofs.YtjnnfineebabaaaDoor
/- The document's own answers of layer 5: Range. -/
namespace Go.Proofs.YtjnnfineebabaaaDoor
open Go.RowKit Go.Shelf Go.Proofs.Rowm

set_option maxHeartbeats 2000000 in
theorem refRange_no (o : Nat) (A : Option Addr) (n c : Nat) (lo hi : BitVec 64) (a : List Pr) (ha : mayB o a = false) (w : World) (h : Here w A n c a) :
    Calls Tryd.prog 21 #[.int .u8 o, .slice A n c, K lo, K hi] w (MadeH w 0 [] (.int .i64 2)) := by
  have h' := Lib.hid h
  have ha' := Lib.hid ha
  clear h ha
  go_enter Tryd.func21, Tryd.ntmps21
  go_wp2_with fail
  refine (refMay4_is ha'.out h'.out.len h'.out.k h'.out.row).mono ?_
  rintro e w1 ⟨rfl, hb⟩
  have b1 := Lib.hid hb
  clear hb
  go_wp2
  go_ret2
  exact ⟨none, 0, rfl, here_nil (Nat.lt_of_lt_of_le h'.out.pos b1.out.size) (h'.out.steps.below h'.out.pos b1.out), b1.out⟩

set_option maxHeartbeats 4000000 in
theorem refRange_yes (o : Nat) (A : Option Addr) (n c : Nat) (lo hi : BitVec 64) (a s : List Pr) (q : Nat) (ha : mayB o a = true) (hs : rangeL o lo hi a = s) (hq : s.length = q) (w : World) (h : Here w A n c a) :
    Calls Tryd.prog 21 #[.int .u8 o, .slice A n c, K lo, K hi] w (MadeH w q s (.int .i64 0)) := by
  obtain ⟨i0, hinf, hz0, hz1, hz2⟩ := info_parts info_pair
  obtain ⟨h1, h7, _⟩ := mayB_parts ha
  have hl := h.len
  have hn9 := h.few
  have h' := Lib.hid h
  have ha' := Lib.hid ha
  have hs' := Lib.hid hs
  have hq' := Lib.hid hq
  clear h ha hs hq
  go_enter Tryd.func21, Tryd.ntmps21
  go_wp2_with fail
  refine (refMay4_is ha'.out h'.out.len h'.out.k h'.out.row).mono ?_
  rintro e w1 ⟨rfl, hb⟩
  have b1 := Lib.hid hb
  clear hb
  go_wp2
  go_loopw [10, 11] (fun v8 v9 wr => ∃ k, k ≤ n ∧ v9 = .int .i64 (k : Int) ∧ wr.ownsRow w.heap.size 42 2 v8 ((a.take k).filter fun x => decide (num o lo ≤ num o x.1) && decide (num o x.1 ≤ num o hi)).length (flat ((a.take k).filter fun x => decide (num o lo ≤ num o x.1) && decide (num o x.1 ≤ num o hi))) ∧ Below w.heap.size w wr) (fun _ v9 _ => n - (intOf v9).toNat)
  case atStart => exact ⟨0, Nat.zero_le _, rfl, World.ownsRow_nil _ _ _ _, b1.out⟩
  case round =>
    obtain ⟨k, hk, rfl, hown, hb⟩ := hrel
    have ho := Lib.hid hown
    have b2 := Lib.hid hb
    clear hown hb b1
    by_cases hlt : k < n
    · have hkl : k < a.length := by omega
      have hk1 : k + 1 ≤ n := hlt
      have hnx := Lib.hid (filter_next (q := fun x => decide (num o lo ≤ num o x.1) && decide (num o x.1 ≤ num o hi)) hkl)
      have hle := filter_le (q := fun x => decide (num o lo ≤ num o x.1) && decide (num o x.1 ≤ num o hi)) (l := a) (k := k)
      rw [hl] at hle
      obtain ⟨ad, rfl, _, g1, g2⟩ := pair_at (h'.out.row.below b2.out) k hkl
      obtain ⟨L, hL⟩ : ∃ L, ((a.take k).filter fun x => decide (num o lo ≤ num o x.1) && decide (num o x.1 ≤ num o hi)) = L := ⟨_, rfl⟩
      rw [hL] at ho hnx hle
      clear hL
      obtain ⟨y, hy⟩ : ∃ y, a[k] = y := ⟨_, rfl⟩
      simp only [hy] at g1 g2 hnx
      clear hy
      have hp2 := b2.out.size
      by_cases hl1 : num o y.1 < num o lo
      · have t1 : Hid (decide (num o y.1 < num o lo) = true) := decide_eq_true hl1
        have t2 : Hid (decide (num o y.1 < num o lo) = true) := t1
        · have e1 : Hid (((a.take (k + 1)).filter fun x => decide (num o lo ≤ num o x.1) && decide (num o x.1 ≤ num o hi)) = L) := by show _ = L; rw [hnx.out, if_neg]; simp only [Bool.and_eq_true, decide_eq_true_eq]; omega
          clear hnx
          go_wp2_with (go_at_call 43; (first | with_reducible refine (refLess_at o h1 h7 t1.out _).mono ?_ | with_reducible refine (refLess_at o h1 h7 t2.out _).mono ?_); rintro e w' ⟨rfl, rfl⟩)
          go_roundw
          case rel => exact ⟨k + 1, hk1, by go_num, by rw [e1.out]; exact ho.out, b2.out⟩
          case measure => simp [intOf]; omega
      · have t1 : Hid (decide (num o y.1 < num o lo) = false) := decide_eq_false hl1
        by_cases hl2 : num o hi < num o y.1
        · have t2 : Hid (decide (num o hi < num o y.1) = true) := decide_eq_true hl2
          have e1 : Hid (((a.take (k + 1)).filter fun x => decide (num o lo ≤ num o x.1) && decide (num o x.1 ≤ num o hi)) = L) := by show _ = L; rw [hnx.out, if_neg]; simp only [Bool.and_eq_true, decide_eq_true_eq]; omega
          clear hnx
          go_wp2_with (go_at_call 43; (first | with_reducible refine (refLess_at o h1 h7 t1.out _).mono ?_ | with_reducible refine (refLess_at o h1 h7 t2.out _).mono ?_); rintro e w' ⟨rfl, rfl⟩)
          go_roundw
          case rel => exact ⟨k + 1, hk1, by go_num, by rw [e1.out]; exact ho.out, b2.out⟩
          case measure => simp [intOf]; omega
        · have t2 : Hid (decide (num o hi < num o y.1) = false) := decide_eq_false hl2
          have e1 : Hid (((a.take (k + 1)).filter fun x => decide (num o lo ≤ num o x.1) && decide (num o x.1 ≤ num o hi)) = L ++ [y]) := by show _ = L ++ [y]; rw [hnx.out, if_pos]; simp only [Bool.and_eq_true, decide_eq_true_eq]; omega
          clear hnx
          go_wp2_with (first | (go_at_call 43; (first | with_reducible refine (refLess_at o h1 h7 t1.out _).mono ?_ | with_reducible refine (refLess_at o h1 h7 t2.out _).mono ?_); rintro e w' ⟨rfl, rfl⟩) | (at_builtin; refine wpList_append_row rfl _ _ 22 rfl w.heap.size 42 i0 (.agg #[.int .i64 0, .int .i64 0]) 2 16 Tryd.underlying22 hinf hz0 hz1 hz2 rfl (by decide) _ L.length _ rfl (ho.out.alloc _) (some ⟨wr.heap.size, 0, none⟩) 1 1 (flat [y]) rfl (by simp) (Nat.le_refl _) rfl _ (Has.new wr 42 #[K y.1, K y.2]).row (flat_one [y]) (by unfold maxLen; omega) (by omega) (by have := b2.out.size; simp; omega) ?_; intro v' w4 hown hgrow))
          have o4 := Lib.hid hown
          have b4 := Lib.hid ((b2.out.alloc b2.out.size (.cells #[K y.1, K y.2] 42)).grown hgrow (by have := b2.out.size; simp; omega) (fun r e => (ho.out.lt r e).1))
          clear hown hgrow
          go_wp2
          go_roundw
          case rel => exact ⟨k + 1, hk1, by go_num, by rw [e1.out, List.length_append, flat_append]; exact o4.out, b4.out⟩
          case measure => simp [intOf]; omega
    · have e : ((a.take k).filter fun x => decide (num o lo ≤ num o x.1) && decide (num o x.1 ≤ num o hi)) = s := by rw [List.take_of_length_le (by omega)]; exact hs'.out
      rw [e, hq'.out] at ho
      have hq9 : q ≤ 900 := by have := filter_le (q := fun x => decide (num o lo ≤ num o x.1) && decide (num o x.1 ≤ num o hi)) (l := a) (k := k); rw [e, hq'.out] at this; omega
      clear e
      go_wp2
      go_ret2
      exact made_own h'.out.pos h'.out.steps hq'.out hq9 ho.out b2.out
end Go.Proofs.YtjnnfineebabaaaDoor
namespace Go.Proofs.YtjnnfineebabaaaDoor
open Go.RowKit Go.Shelf Go.Proofs.Rowm

/-- till the key's place: what is ahead grows -/
def PhA (w wr : World) (l : List Pr) (k : Nat) (v10 v11 : Value) : Prop := v11 = .slice none 0 0 ∧ wr.ownsRow w.heap.size 42 2 v10 k (flat (l.take k)) ∧ Below w.heap.size w wr
/-- from it on: what is ahead lies, what is behind grows -/
def PhB (w wr : World) (l : List Pr) (i j k : Nat) (v10 v11 : Value) : Prop := ∃ base A c, w.heap.size ≤ base ∧ base ≤ wr.heap.size ∧ v10 = .slice A i c ∧ i ≤ c ∧ (A = none → c = 0) ∧ Row wr base A (flat (l.take i)) ∧ wr.ownsRow base 42 2 v11 (k - j) (flat ((l.take k).drop j)) ∧ Below w.heap.size w wr
theorem ph_turn {w wr : World} {l : List Pr} {i j : Nat} {v10 v11 : Value} (h : PhA w wr l i v10 v11) (hij : i ≤ j) : PhB w wr l i j i v10 v11 := by
  obtain ⟨rfl, ho, hb⟩ := h
  obtain ⟨A, c, rfl, h1, _, h3⟩ := own_slice ho
  refine ⟨wr.heap.size, A, c, hb.size, Nat.le_refl _, rfl, h1, h3, Row.of_own ho, ?_, hb⟩
  rw [show i - j = 0 by omega, List.drop_of_length_le (by rw [List.length_take]; omega)]
  exact World.ownsRow_nil _ _ _ _
theorem ph_next {w wr : World} {l : List Pr} {k i j : Nat} {v10 v11 : Value} (h : PhA w wr l k v10 v11) (hk : k ≤ i) (hij : i ≤ j) : (k < i ∧ PhA w wr l k v10 v11) ∨ (i ≤ k ∧ PhB w wr l i j k v10 v11) := by
  rcases Nat.lt_or_ge k i with h1 | h1
  · exact .inl ⟨h1, h⟩
  · obtain rfl : k = i := by omega
    exact .inr ⟨Nat.le_refl _, ph_turn h hij⟩

set_option maxRecDepth 100000 in
set_option maxHeartbeats 2000000 in
theorem refCut_no (o : Nat) (A : Option Addr) (n c : Nat) (l : List Pr) (key : BitVec 64) (hm : mayB o l = false) (w : World) (h : Here w A n c l) :
    Calls Tryd.prog 23 #[.int .u8 o, .slice A n c, K key] w (CutH w 0 0 [] [] 0#64 false) := by
  have h' := Lib.hid h
  have hm' := Lib.hid hm
  clear h hm
  go_enter Tryd.func23, Tryd.ntmps23
  go_wp2_with fail
  (with_reducible refine (refMay4_is hm'.out h'.out.len h'.out.k h'.out.row).mono ?_)
  rintro e w1 ⟨rfl, hb⟩
  have b1 := Lib.hid hb
  have h1 := Lib.hid (h'.out.next hb)
  clear hb
  go_wp2
  refine bodyPost_ret (v := .tuple #[.slice none 0 0, K 0#64, .bool false, .slice none 0 0]) (by simp [results, Tryd.results23, go_sem]) rfl ?_
  exact ⟨none, 0, none, 0, rfl, here_nil h1.out.pos h1.out.steps, here_nil h1.out.pos h1.out.steps, b1.out⟩

set_option maxRecDepth 100000 in
set_option maxHeartbeats 4000000 in
theorem refCut_yes (o : Nat) (A : Option Addr) (n c : Nat) (l : List Pr) (key : BitVec 64) (i j m : Nat) (t : Bool) (v : BitVec 64) (ht : decide (i < j) = t) (hv : valAt l i j = v) (hm : mayB o l = true) (ha : At o l key i j) (hjm : n - j = m) (w : World) (h : Here w A n c l) :
    Calls Tryd.prog 23 #[.int .u8 o, .slice A n c, K key] w (CutH w i m (l.take i) (l.drop j) v t) := by
  obtain ⟨h1, h7, _⟩ := mayB_parts hm
  obtain ⟨i0, hi, hz0, hz1, hz2⟩ := info_parts info_pair
  have hij := ha.le
  have hone := ha.one
  have hjl := ha.len
  rw [h.len] at hjl
  have h9 := h.few
  have h' := Lib.hid h
  have hm' := Lib.hid hm
  have ha' := Lib.hid ha
  have hv' := Lib.hid hv
  have hjm' := Lib.hid hjm
  have ht' := Lib.hid ht
  have hl' := Lib.hid h.len
  clear h hm hv ha hjm ht
  go_enter Tryd.func23, Tryd.ntmps23
  go_wp2_with fail
  (with_reducible refine (refMay4_is hm'.out h'.out.len h'.out.k h'.out.row).mono ?_)
  rintro e w1 ⟨rfl, hb⟩
  have b1 := Lib.hid hb
  clear hb
  go_wp2
  go_loopw [10, 11, 12] (fun v10 v11 v12 wr => ∃ k, k ≤ n ∧ v12 = .int .i64 ((k : Nat) : Int) ∧ ((k < i ∧ PhA w wr l k v10 v11) ∨ (i ≤ k ∧ PhB w wr l i j k v10 v11))) (fun _ _ v12 _ => n - (intOf v12).toNat)
  case atStart => exact ⟨0, Nat.zero_le _, rfl, ph_next ⟨rfl, World.ownsRow_nil _ _ _ _, b1.out⟩ (Nat.zero_le _) hij⟩
  case round =>
    obtain ⟨k, hk, rfl, hph⟩ := hrel
    by_cases hlt : k < n
    · have hkl : k < l.length := by rw [hl'.out]; exact hlt
      obtain ⟨y, hy⟩ : ∃ y, l[k] = y := ⟨_, rfl⟩
      have hlo := ha'.out.lt_iff k hkl
      have hle := ha'.out.le_iff k hkl
      rw [hy] at hlo hle
      have hy' := Lib.hid hy
      have htk : Hid (l.take (k + 1) = l.take k ++ [y]) := by show _ = _; rw [List.take_succ_eq_append_getElem hkl, hy]
      rcases hph with ⟨hki, rfl, hown, hb⟩ | ⟨hki, base, A1, d1, hb1, hb2, rfl, hic, hnil, hrow, hown, hb⟩
      · have t1 : Hid (decide (num o y.1 < num o key) = true) := decide_eq_true (hlo.2 hki)
        have t2 : Hid (decide (num o key < num o y.1) = false) := decide_eq_false (by have := hlo.2 hki; omega)
        have o1 := Lib.hid hown
        have b2 := Lib.hid hb
        have hbs := hb.size
        obtain ⟨ad, rfl, _, g1, g2⟩ := pair_at (h'.out.row.below hb) k hkl
        simp only [hy] at g1 g2
        have hkx : k ≤ l.length := by omega
        clear hlo hle hy hown hb
        go_wp2_with (first | (go_at_call 43; (with_reducible refine (refLess_at o h1 h7 t1.out _).mono ?_); rintro e w' ⟨rfl, rfl⟩) | (at_builtin; refine wpList_append_row rfl _ _ 22 rfl w.heap.size 42 i0 (.agg #[.int .i64 0, .int .i64 0]) 2 16 Tryd.underlying22 hi hz0 hz1 hz2 rfl (by decide) _ k _ rfl (o1.out.alloc _) (some ⟨wr.heap.size, 0, none⟩) 1 1 (flat [y]) rfl (by simp) (Nat.le_refl _) rfl _ (Has.new wr 42 #[K y.1, K y.2]).row (flat_one [y]) (by unfold maxLen; omega) (by omega) (by simp; omega) ?_))
        intro v' w4 hown hgrow
        have b4 := Lib.hid ((b2.out.alloc b2.out.size (.cells #[K y.1, K y.2] 42)).grown hgrow (by simp; omega) (fun r e => (o1.out.lt r e).1))
        have o4 := Lib.hid hown
        obtain ⟨ad', he', _, g3, g4⟩ := pair_at (h'.out.row.below b4.out) k hkl
        cases he'
        simp only [hy'.out] at g3 g4
        clear hown hgrow g1 g2
        go_wp2_with (go_at_call 43; (with_reducible refine (refLess_at o h1 h7 t2.out _).mono ?_); rintro e w' ⟨rfl, rfl⟩)
        go_roundw
        case rel => exact ⟨k + 1, by omega, by go_num, ph_next ⟨rfl, by rw [htk.out, flat_append]; exact o4.out, b4.out⟩ hki hij⟩
        case measure => simp [intOf]; omega
      · have o1 := Lib.hid hown
        have b2 := Lib.hid hb
        have hbs := hb.size
        have r1 := Lib.hid hrow
        obtain ⟨ad, rfl, _, g1, g2⟩ := pair_at (h'.out.row.below hb) k hkl
        simp only [hy] at g1 g2
        have t1 : Hid (decide (num o y.1 < num o key) = false) := decide_eq_false (fun h => by have := hlo.1 h; omega)
        by_cases hkj : k < j
        · have t2 : Hid (decide (num o key < num o y.1) = false) := decide_eq_false (fun h => by have := hle.2 hkj; omega)
          have hsame : Hid ((l.take (k + 1)).drop j = (l.take k).drop j ∧ k + 1 - j = k - j) := by show _ ∧ _; exact ⟨by rw [List.drop_of_length_le (by rw [List.length_take]; omega), List.drop_of_length_le (by rw [List.length_take]; omega)], by omega⟩
          clear hlo hle hy hown hb hrow
          go_wp2_with (go_at_call 43; (first | with_reducible refine (refLess_at o h1 h7 t1.out _).mono ?_ | with_reducible refine (refLess_at o h1 h7 t2.out _).mono ?_); rintro e w' ⟨rfl, rfl⟩)
          go_roundw
          case rel => exact ⟨k + 1, by omega, by go_num, .inr ⟨by omega, base, A1, d1, hb1, hb2, rfl, hic, hnil, r1.out, by rw [hsame.out.1, hsame.out.2]; exact o1.out, b2.out⟩⟩
          case measure => simp [intOf]; omega
        · have t2 : Hid (decide (num o key < num o y.1) = true) := decide_eq_true (by have := hle; omega)
          obtain ⟨q, hq⟩ : ∃ q, k - j = q := ⟨_, rfl⟩
          have hnx : Hid ((l.take (k + 1)).drop j = (l.take k).drop j ++ [y] ∧ k + 1 - j = q + 1) := by show _ ∧ _; exact ⟨by rw [htk.out, List.drop_append_of_le_length (by rw [List.length_take]; omega)], by omega⟩
          rw [hq] at o1
          have bq : q ≤ 900 := by omega
          clear hlo hle hy hown hb hrow hq
          go_wp2_with (first | (go_at_call 43; (first | with_reducible refine (refLess_at o h1 h7 t1.out _).mono ?_ | with_reducible refine (refLess_at o h1 h7 t2.out _).mono ?_); rintro e w' ⟨rfl, rfl⟩) | (at_builtin; refine wpList_append_row rfl _ _ 22 rfl base 42 i0 (.agg #[.int .i64 0, .int .i64 0]) 2 16 Tryd.underlying22 hi hz0 hz1 hz2 rfl (by decide) _ q _ rfl (o1.out.alloc _) (some ⟨wr.heap.size, 0, none⟩) 1 1 (flat [y]) rfl (by simp) (Nat.le_refl _) rfl _ (Has.new wr 42 #[K y.1, K y.2]).row (flat_one [y]) (by unfold maxLen; omega) (by omega) (by simp; omega) ?_))
          intro v' w4 hown hgrow
          have b4 := Lib.hid ((b2.out.alloc b2.out.size (.cells #[K y.1, K y.2] 42)).grown hgrow (by simp; omega) (fun r e => Nat.le_trans hb1 (o1.out.lt r e).1))
          have bb := Lib.hid (((Below.refl base wr).alloc hb2 (.cells #[K y.1, K y.2] 42)).grown hgrow (by simp; omega) (fun r e => (o1.out.lt r e).1))
          have o4 := Lib.hid hown
          clear hown hgrow g1 g2
          go_wp2
          go_roundw
          case rel => exact ⟨k + 1, by omega, by go_num, .inr ⟨by omega, base, A1, d1, hb1, Nat.le_trans hb2 bb.out.size, rfl, hic, hnil, r1.out.below bb.out, by rw [hnx.out.1, hnx.out.2, flat_append]; exact o4.out, b4.out⟩⟩
          case measure => simp [intOf]; omega
    · have hkn : k = n := by omega
      subst hkn
      rcases hph with ⟨hki, _⟩ | ⟨hki, base, A1, d1, hb1, hb2, rfl, hic, hnil, hrow, hown, hb⟩
      · exfalso; omega
      · rw [List.take_of_length_le (l := l) (by rw [hl'.out]; exact Nat.le_refl _), hjm'.out] at hown
        obtain ⟨A2, d2, rfl, q1, _, q3⟩ := own_slice hown
        have hR := Lib.hid (Row.of_own hown)
        have hp : 0 < wr.heap.size := Nat.lt_of_lt_of_le h'.out.pos hb.size
        have hh2 := Lib.hid (h'.out.row.below hb |>.more hb.size)
        have z1 := Lib.hid (Here.mk (l := l.take i) (by rw [List.length_take, hl'.out]; omega) (by omega) hic hnil hp (h'.out.steps.below h'.out.pos hb) (hrow.more hb2))
        have z2 := Lib.hid (Here.mk (l := l.drop j) (by rw [List.length_drop, hl'.out]; exact hjm'.out) (by have := hjm'.out; omega) q1 q3 hp (h'.out.steps.below h'.out.pos hb) hR.out)
        have b2 := Lib.hid hb
        clear hown hrow hb hR
        go_wp2_with fail
        (with_reducible refine (refGet_yes o A k c l key i j t ht'.out hm'.out ha'.out hl'.out h'.out.k _ hh2.out).mono ?_)
        rintro e w3 ⟨rfl, hb⟩
        have z3 := Lib.hid (z1.out.next hb)
        have z4 := Lib.hid (z2.out.next hb)
        have b3 := Lib.hid (Below.after b2.out hb)
        clear hb
        go_wp2
        refine bodyPost_ret (v := .tuple #[.slice A1 i d1, K (valAt l i j), .bool t, .slice A2 m d2]) (by simp [results, Tryd.results23, go_sem]) rfl ?_
        rw [hv'.out]
        exact ⟨_, _, _, _, rfl, z3.out, z4.out, b3.out⟩
end Go.Proofs.YtjnnfineebabaaaDoor
