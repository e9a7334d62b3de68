/- Layer 10: the law's own collect: at most so many pairs of what is gone over. -/
import Derived.Test.YtadncdcblckpjaaL10Ok
import Derived.Maps.AppendAt
namespace Go.Proofs.Ytadncdcblckpjaa
open Go.RowKit Go.Shelf Go.Proofs.Treem Go.Proofs.Rowm
attribute [local go_sem] Oper.semAt_some

/-- a function is not nil -/
theorem func_nil (g : FuncId) (a b : Array Value) (W : World) : (binOp .eql 35 (.func (.func g) a b) .nilFunc).run Try.prog W = .ok (.bool false) W := by
  have h : ∀ d : Nat, (Op.equalIn (d + 1) 35 (.func (.func g) a b) .nilFunc).run Try.prog W = .ok false W := fun d => by
    simp [Op.equalIn, run_underlying Try.underlying35]
  simp only [binOp]
  simp [Op.equal, Op.maxDepth, h 9999]
/-- what collect has gathered, in the box behind -/
def Held (w : World) (B : Nat) (l : List Pr) (W : World) : Prop := ∃ v, Boxed W B 27 v ∧ W.ownsRow w.heap.size 50 2 v l.length (flat l)
theorem held_abide {B' : Nat} (w : World) (B : Nat) : Abide inner B' (Held w B) := Abide.holds (β := List Pr) w.heap.size B 27 50 2 (fun l => l.length) flat (.inl rfl) rfl
set_option maxRecDepth 100000 in
set_option maxHeartbeats 1000000 in
theorem collect_any (B0 : Nat) (v : Value) (ps : List Pr) (m : Nat) (hm : m ≤ 1000) (w : World) (hg : Goes B0 w v ps) (_ : ps.length ≤ 1000) :
    Calls Try.prog 13 #[v, nI m] w fun e w' => ∃ v', e = .returned v' ∧ w'.ownsRow w.heap.size 50 2 v' (ps.take m).length (flat (ps.take m)) ∧ Below w.heap.size w w' := by
  obtain ⟨hB0w, g, lb, rfl, hent, hseq⟩ := hg
  obtain ⟨i0, hin, hz0, hz1, hz2⟩ := info_parts info_pair
  have hfn := func_nil g #[] lb
  have hent' := Lib.hid hent
  have hseq' := Lib.hid hseq
  clear hent hseq
  refine (callsIn_wide (n := 9)).1 ?_
  refine callsIn_of_wp_marks Try.func13 rfl trivial ?_ rfl
  simp only [Try.ntmps13, List.size_toArray, List.length_cons, List.length_nil, Nat.reduceAdd, Nat.reduceSub, Array.replicate_succ, Array.replicate_zero, List.push_toArray, List.append_toArray, List.nil_append, List.cons_append]
  gi_wp2
  have bM := (Boxed.new w 3 (nI m)).alloc (.cells #[.slice none 0 0] 27)
  have bO := Boxed.new (w.alloc (.cells #[nI m] 3)) 27 (.slice none 0 0)
  rw [World.size_alloc] at bO
  have hB0 : Below w.heap.size w ((w.alloc (.cells #[nI m] 3)).alloc (.cells #[.slice none 0 0] 27)) := ((Below.refl _ w).alloc (Nat.le_refl _) _).alloc (by simp) _
  have hsz : ((w.alloc (.cells #[nI m] 3)).alloc (.cells #[.slice none 0 0] 27)).heap.size = w.heap.size + 2 := by simp
  obtain ⟨W0, hW0⟩ : ∃ W0, (w.alloc (.cells #[nI m] 3)).alloc (.cells #[.slice none 0 0] 27) = W0 := ⟨_, rfl⟩
  rw [hW0] at bM bO hB0 hsz ⊢
  clear hW0
  refine wpIn_rangeFunc_runs rfl (by omega) (gf := g) (lb := lb) rfl trivial hent'.out
    (hseq'.out W0 hB0 _) Kt.trans (Kt.put (by omega)) (Below.refl _ _) (fun _ => rfl)
    (fun pre W => (Held w (w.heap.size + 1) pre W ∧ Boxed W w.heap.size 3 (nI m)) ∧ pre.length ≤ m ∧ Below w.heap.size w W)
    (fun c pre W => (c = .exit 0 ∧ ∃ q x, pre = q ++ [x] ∧ q.length = m ∧ Held w (w.heap.size + 1) q W) ∧ Below w.heap.size w W)
    (Abide.and (Abide.and (held_abide w (w.heap.size + 1)) (Abide.boxed _ _ _ (.inl rfl))) (Abide.and (fun _ _ _ h _ => h) (Abide.below (by omega) (Nat.le_refl _))))
    (fun c => Abide.and (fun s X Y hs ht => by obtain ⟨h1, q, x, h2, h3, h4⟩ := hs; exact ⟨h1, q, x, h2, h3, held_abide w (w.heap.size + 1) q X Y h4 ht⟩) (Abide.below (by omega) (Nat.le_refl _)))
    ⟨⟨⟨_, bO, World.ownsRow_nil _ _ _ _⟩, bM⟩, Nat.zero_le _, hB0⟩
    (fun x a' W => a' = { tmps := #[.func (.func g) #[] lb, nI m, undef, .pointer (some ⟨w.heap.size, 0, none⟩), .slice none 0 0, .pointer (some ⟨w.heap.size + 1, 0, none⟩), K x.1, K x.2, .func (.func g) #[] lb, .bool false, .func (.func g) #[] lb, K x.1, K x.2, undef, undef, undef, undef, undef, undef, undef, undef, undef, undef, undef], defers := [] })
    (fun x a' _ X Y row hs hg hr => hs)
    ?assign ?body ?done ?stop
  case assign =>
    rintro l pre x W K hI _ hK
    gi_wp2
    exact hK _ _ ((KeepsOthers.refl _).from _) (Kt.refl _ W) hI rfl
  case body =>
    rintro L pre x a' W hL _ ⟨⟨⟨v1, bO1, o1⟩, bM1⟩, hlm, hB1⟩ rfl hlt
    replace hlt := hlt.length_le
    rw [List.length_append, List.length_singleton] at hlt
    obtain ⟨A, c, rfl, -, -, -⟩ := own_slice o1
    have cO := bO1.cell
    have cM := bM1.cell
    have fO := bO1.frozen
    by_cases hfull : pre.length = m
    · have d1 : m ≤ pre.length := by omega
      gi_wp2
      exact ⟨(KeepsOthers.refl _).from _, ⟨rfl, pre, x, rfl, hfull, _, bO1, o1⟩, hB1⟩
    · have d1 : ¬ m ≤ pre.length := by omega
      gi_wp2_with (first
        | (gi_at_builtin; refine wpListIn_append_own _ rfl _ _ 27 rfl w.heap.size 50 i0 (.agg #[.int .i64 0, .int .i64 0]) 2 16 Try.underlying27 hin hz0 hz1 hz2 rfl (by decide) (.slice A pre.length c) pre.length (flat pre) rfl (o1.alloc _) ⟨W.heap.size, 0, none⟩ 1 1 [K x.1, K x.2] rfl rfl (fun j u hu => ((Has.new W 50 #[K x.1, K x.2]).row.at_ hu).2) (by simp [Value.oneCell']) (by unfold maxLen; omega) (by omega) (by have := hB1.size; simp; omega) ?_
           intro v2 w1 hown' hgrow _
           obtain ⟨g', cap', rfl⟩ := ownsRow_succ hown'
           obtain ⟨hv1, hv2, hr2, hk2, hb2⟩ := bO1.appended (by decide) o1 hB1.size (by omega) hown' hgrow
           have hc1 := hv1.cell
           have hf1 := hv1.frozen)
        | fail)
      have hm1 : Boxed w1 w.heap.size 3 (nI m) := (bM1.alloc _).kept hgrow (bM1.not_row (by decide) o1)
      have hsz1 : W.heap.size ≤ w1.heap.size := Nat.le_trans (by simp) hgrow.size
      exact ⟨hk2.from _, ((Kt.of_below ((Below.refl W.heap.size W).alloc (Nat.le_refl _) _) (Nat.le_trans hB0w hB1.size)).trans (Kt.grown hgrow (o1.alloc _) rfl hB0w (by have := hB1.size; simp; omega))).trans (Kt.store hv1 _ rfl (by omega)),
        ⟨⟨_, hv2, by rw [List.length_append, flat_append]; exact hr2⟩, hm1.other (by omega) _⟩, by rw [List.length_append, List.length_singleton]; omega, hB1.trans hb2⟩
  case done =>
    rintro D W hD ⟨⟨⟨v1, bO1, o1⟩, _⟩, hlm, hB1⟩ hK
    have cO := bO1.cell
    gi_wp2
    refine ⟨by simp, .inl ⟨_, _, rfl, run_takeDeferred hK, ?_⟩⟩
    refine ⟨_, results_tmp rfl _ _ _, v1, rfl, ?_, hB1.trans (belowK_b (w := w) (Nat.le_refl _) W D _ _ (by omega) hK rfl rfl)⟩
    rw [List.take_of_length_le hlm]
    exact ownsRow_putObj o1 _ hK rfl
  case stop =>
    rintro D c pre W hD hS ⟨⟨rfl, q, x, rfl, hq, v1, bO1, o1⟩, hB1⟩ hK
    have cO := bO1.cell
    gi_wp2
    refine ⟨by simp, .inl ⟨_, _, rfl, run_takeDeferred hK, ?_⟩⟩
    refine ⟨_, results_tmp rfl _ _ _, v1, rfl, ?_, hB1.trans (belowK_b (w := w) (Nat.le_refl _) W D _ _ (by omega) hK rfl rfl)⟩
    obtain ⟨r, hr⟩ := hS
    have : ps.take m = q := by rw [← hr, ← hq, List.append_assoc, List.take_left]
    rw [this]
    exact ownsRow_putObj o1 _ hK rfl
end Go.Proofs.Ytadncdcblckpjaa
