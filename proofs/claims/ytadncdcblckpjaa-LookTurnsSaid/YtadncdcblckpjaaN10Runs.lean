/- Layer 10, package look as it landed: what goes over spots, what goes over pairs; All and Back. Made by wip/gen/layer10runs.py. -/
import Derived.Test.YtadncdcblckpjaaN10Tell
import Derived.Test.YtadncdcblckpjaaGRoundIn
import Derived.Laws.EntriesVeiled
namespace Go.Proofs.Ytadncdcblckpjaa
open Go.RowKit Go.Shelf Go.Proofs.Treem Go.Proofs.Rowm
attribute [local go_sem] Oper.semAt_some
set_option maxRecDepth 100000
variable {Nd : NdP}

theorem below3 {W : World} (a b c : Obj) : Below W.heap.size W (((W.alloc a).alloc b).alloc c) := (((Below.refl _ W).alloc (Nat.le_refl _) a).alloc (by simp) b).alloc (by simp; omega) c
set_option maxHeartbeats 2000000 in
theorem spots_runs (hN : NodeSays Nd) (d : Bool) (fN fF : FuncId) (hd : Sides Nd d fN fF) (gW gP : Nat) (T : AT) (hs : T.size ≤ 1000) (w : World) (B : Nat) (hB : B ≤ w.heap.size) (hl : T.lies Nd w B)
    (hW : Has w gW 63 #[.func (.func fN) #[] #[], .func (.func fF) #[] #[]]) (hP : Boxed w gP 25 (.pointer T.ptr)) (n : Nat) :
    SeqRuns inner Fence.wide n Try.prog 40 #[.pointer (some ⟨gW, 0, none⟩), .pointer (some ⟨gP, 0, none⟩)] encS (Kt B) (AT.spots d 1 T) w := fun l J Jx W hbW hJ hJx hY hJ0 => by
  have bw : Below w.heap.size w W := hbW
  obtain ⟨gY, hgY⟩ : ∃ g, W.heap.size = g := ⟨_, rfl⟩
  have cP : W.cell? ⟨gP, 0, none⟩ = some (.pointer T.ptr) := (Has.next (show Has _ _ _ _ from hP) bw).cell 0
  have hWW : Has W gW 63 #[.func (.func fN) #[] #[], .func (.func fF) #[] #[]] := hW.next bw
  obtain ⟨W2, hW2⟩ : ∃ W2, (((W.alloc (.cells #[.func (.yield l) #[] #[]] 75)).alloc (.cells #[.slice none 0 0] 76)).alloc (.cells #[.nilFunc] 75)).setCell ⟨gY + 1 + 1, 0, none⟩ (.func (.func 41) #[] #[.pointer (some ⟨gY + 1, 0, none⟩), .pointer (some ⟨gW, 0, none⟩), .pointer (some ⟨gY + 1 + 1, 0, none⟩), .pointer (some ⟨gY, 0, none⟩)]) = W2 := ⟨_, rfl⟩
  have b3 := below3 (W := W) (.cells #[.func (.yield l) #[] #[]] 75) (.cells #[.slice none 0 0] 76) (.cells #[.nilFunc] 75)
  have b2 : Below W.heap.size W W2 := hW2 ▸ b3.setCell (p := ⟨gY + 1 + 1, 0, none⟩) (by show W.heap.size ≤ gY + 1 + 1; omega) _
  have y0 : Has (((W.alloc (.cells #[.func (.yield l) #[] #[]] 75)).alloc (.cells #[.slice none 0 0] 76)).alloc (.cells #[.nilFunc] 75)) gY 75 #[.func (.yield l) #[] #[]] := hgY ▸ ((Has.new W _ _).alloc _).alloc _
  have o0 : Has (((W.alloc (.cells #[.func (.yield l) #[] #[]] 75)).alloc (.cells #[.slice none 0 0] 76)).alloc (.cells #[.nilFunc] 75)) (gY + 1) 76 #[.slice none 0 0] := by
    have := (Has.new (W.alloc (.cells #[.func (.yield l) #[] #[]] 75)) 76 #[.slice none 0 0]).alloc (.cells #[.nilFunc] 75)
    rw [World.size_alloc, hgY] at this
    exact this
  have t0 : Has (((W.alloc (.cells #[.func (.yield l) #[] #[]] 75)).alloc (.cells #[.slice none 0 0] 76)).alloc (.cells #[.nilFunc] 75)) (gY + 1 + 1) 75 #[.nilFunc] := by
    have := Has.new ((W.alloc (.cells #[.func (.yield l) #[] #[]] 75)).alloc (.cells #[.slice none 0 0] 76)) 75 #[.nilFunc]
    rw [World.size_alloc, World.size_alloc, hgY] at this
    exact this
  have hE : Env (gY + 1) gW (gY + 1 + 1) gY fN fF l W2 := ⟨hWW.next b2, hW2 ▸ t0.set 0 _, hW2 ▸ y0.far (p := ⟨gY + 1 + 1, 0, none⟩) (by show gY ≠ gY + 1 + 1; omega) _⟩
  have hO : Boxed W2 (gY + 1) 76 (.slice none 0 0) := hW2 ▸ o0.far (p := ⟨gY + 1 + 1, 0, none⟩) (by show gY + 1 ≠ gY + 1 + 1; omega) _
  have hj : J [] W2 := hJ _ _ _ hJ0 (.of_below b2)
  have hBW : B ≤ W.heap.size := Nat.le_trans hB bw.size
  have cT := Lib.hid (tell_in hN d fN fF hd (gY + 1) gW (gY + 1 + 1) gY l B W.heap.size 3000 (Nat.le_refl _) J Jx (AT.spots d 1 T) hBW (by omega) hJ
    (fun pre x V h1 h2 => (round_any (hY pre x V h1 h2)).mono (fun e w' h => h.1)) T.size T 1 0 [] (.slice none 0 0) [] W2 (Nat.le_refl _) (by omega) (by omega) b2.size (hl.next hN ((bw.mono hB).trans (b2.mono hBW))) hE hO (World.ownsRow_nil _ _ _ _) hj (List.prefix_refl _))
  have x0 := t0.cell 0
  have x1 := t0.free 0
  have x2 := hE.tl.cell
  have x3 : W2.cell? ⟨gP, 0, none⟩ = some (.pointer T.ptr) := keep_cell b2 cP
  clear hY hJ0 hj hO hE hWW hW hP hN hd hl bw b2 b3 y0 o0 t0 cP hJ hJx hbW hBW hB
  refine callsIn_of_wp Try.func40 rfl trivial ?_ rfl
  simp only [Try.ntmps40, List.size_toArray, List.length_cons, List.length_nil, Nat.reduceAdd, Nat.reduceSub, Array.replicate_succ, Array.replicate_zero, List.push_toArray, List.append_toArray, List.nil_append, List.cons_append]
  gi_wp2
  refine ⟨trivial, (fun h => by cases h), ?_⟩
  refine (callsIn_wide.2 (callsIn_wide.1 cT.out)).mono ?_
  rintro e W3 (⟨rfl, hj, _⟩ | ⟨rfl, q, hq, hx⟩)
  · have hj' := Lib.hid hj
    clear hj
    gi_wp2
    go_end0
    exact ⟨⟨_, rfl⟩, .inl hj'.out⟩
  · have hx' := Lib.hid hx
    have hq' := Lib.hid hq
    clear hx hq
    gi_wp2
    go_end0
    exact ⟨⟨_, rfl⟩, .inr ⟨q, hq'.out, hx'.out⟩⟩

set_option maxHeartbeats 1000000 in
theorem spots_any (a b : Value) (p : Option Addr) (w : World) : Calls Try.prog 31 #[.agg #[a, b], .pointer p] w fun e w' =>
    e = .returned (.func (.func 40) #[] #[.pointer (some ⟨w.heap.size, 0, none⟩), .pointer (some ⟨w.heap.size + 1, 0, none⟩)]) ∧ (w.alloc (.cells #[a, b] 63)).alloc (.cells #[.pointer p] 25) = w' := by
  go_enter Try.func31, Try.ntmps31
  go_wp2
  go_ret
  exact ⟨rfl, rfl⟩

set_option maxHeartbeats 1000000 in
theorem pairs_any (a b : Value) (p : Option Addr) (w : World) : Calls Try.prog 33 #[.agg #[a, b], .pointer p] w fun e w' =>
    e = .returned (.func (.func 44) #[] #[.pointer (some ⟨w.heap.size, 0, none⟩), .pointer (some ⟨w.heap.size + 1, 0, none⟩)]) ∧ (w.alloc (.cells #[a, b] 63)).alloc (.cells #[.pointer p] 25) = w' := by
  go_enter Try.func33, Try.ntmps33
  go_wp2
  go_ret
  exact ⟨rfl, rfl⟩

set_option maxHeartbeats 1000000 in
theorem rightward_any (w : World) : Calls Try.prog 30 #[] w fun e w' => e = .returned (wayV 38 39) ∧ Below w.heap.size w w' := by
  have hT := Lib.hid (Has.new w 63 #[.func (.func 38) #[] #[], .func (.func 39) #[] #[]])
  have hb : Hid (Below w.heap.size w (w.alloc (.cells #[.func (.func 38) #[] #[], .func (.func 39) #[] #[]] 63))) := (Below.refl _ w).alloc (Nat.le_refl _) _
  go_enter Try.func30, Try.ntmps30
  go_wp2
  exact bodyPost_ret (results_row1 rfl _ _ w.heap.size _ _ _ _ rfl hT.out Try.underlying63 rfl (by kernel_rfl)) rfl ⟨rfl, hb.out⟩

set_option maxHeartbeats 1000000 in
theorem leftward_any (w : World) : Calls Try.prog 34 #[] w fun e w' => e = .returned (wayV 39 38) ∧ Below w.heap.size w w' := by
  have hT := Lib.hid (Has.new w 63 #[.func (.func 39) #[] #[], .func (.func 38) #[] #[]])
  have hb : Hid (Below w.heap.size w (w.alloc (.cells #[.func (.func 39) #[] #[], .func (.func 38) #[] #[]] 63))) := (Below.refl _ w).alloc (Nat.le_refl _) _
  go_enter Try.func34, Try.ntmps34
  go_wp2
  exact bodyPost_ret (results_row1 rfl _ _ w.heap.size _ _ _ _ rfl hT.out Try.underlying63 rfl (by kernel_rfl)) rfl ⟨rfl, hb.out⟩

/-- what goes over spots, as often as it is asked -/
def GoesS (d : Bool) (T : AT) (B0 : Nat) (w : World) (v : Value) : Prop :=
  B0 ≤ w.heap.size ∧ ∃ g lb, v = .func (.func g) #[] lb ∧ (∀ args W, (callFunc g args).run Try.prog W = .ok (.enter g args) W) ∧
    ∀ W : World, Below w.heap.size w W → ∀ n : Nat, SeqRuns inner Fence.wide n Try.prog g lb encS (Kt B0) (AT.spots d 1 T) W
theorem spots_goes (hN : NodeSays Nd) (d : Bool) (fN fF : FuncId) (hd : Sides Nd d fN fF) (T : AT) (hs : T.size ≤ 1000) (w : World) (B : Nat) (hB : B ≤ w.heap.size) (hl : T.lies Nd w B) :
    Calls Try.prog 31 #[wayV fN fF, .pointer T.ptr] w fun e w' => ∃ v, e = .returned v ∧ GoesS d T B w' v ∧ Below w.heap.size w w' := by
  refine (spots_any _ _ _ w).mono ?_
  rintro e w' ⟨rfl, rfl⟩
  have hb := ((Below.refl w.heap.size w).alloc (Nat.le_refl _) (.cells #[.func (.func fN) #[] #[], .func (.func fF) #[] #[]] 63)).alloc (by simp) (.cells #[.pointer T.ptr] 25)
  have h1 : Has ((w.alloc (.cells #[.func (.func fN) #[] #[], .func (.func fF) #[] #[]] 63)).alloc (.cells #[.pointer T.ptr] 25)) w.heap.size 63 #[.func (.func fN) #[] #[], .func (.func fF) #[] #[]] := (Has.new w _ _).alloc _
  have h2 : Boxed ((w.alloc (.cells #[.func (.func fN) #[] #[], .func (.func fF) #[] #[]] 63)).alloc (.cells #[.pointer T.ptr] 25)) (w.heap.size + 1) 25 (.pointer T.ptr) := by
    have := Boxed.new (w.alloc (.cells #[.func (.func fN) #[] #[], .func (.func fF) #[] #[]] 63)) 25 (.pointer T.ptr)
    rw [World.size_alloc] at this
    exact this
  refine ⟨_, rfl, ⟨Nat.le_trans hB hb.size, _, _, rfl, enters_of Try.func40 (by kernel_rfl) rfl, fun W hW n => ?_⟩, hb⟩
  exact spots_runs hN d fN fF hd _ _ T hs W B (Nat.le_trans hB (Nat.le_trans hb.size hW.size)) (hl.next hN ((hb.mono hB).trans (hW.mono (Nat.le_trans hB hb.size)))) (h1.next hW) (Has.next (show Has _ _ _ _ from h2) hW) n
theorem keeps_below {W W' : World} (h : Below W.heap.size W W') : KeepsOthers W W' := ⟨h.size, fun k _ hk _ => (h.block k (Array.getElem?_eq_some_iff.1 hk).1).trans hk⟩
theorem boxed_below {W W' : World} {g : Nat} {t : TypeId} {v : Value} (h : Boxed W g t v) (hb : Below W.heap.size W W') : Boxed W' g t v := Has.next (show Has _ _ _ _ from h) hb
set_option maxHeartbeats 4000000 in
theorem pairs_runs (hN : NodeSays Nd) (d : Bool) (fN fF : FuncId) (hd : Sides Nd d fN fF) (gW gP : Nat) (T : AT) (hs : T.size ≤ 1000) (w : World) (B : Nat) (hB : B ≤ w.heap.size) (hl : T.lies Nd w B)
    (hW : Has w gW 63 #[.func (.func fN) #[] #[], .func (.func fF) #[] #[]]) (hP : Boxed w gP 25 (.pointer T.ptr)) (n : Nat) :
    SeqRuns inner Fence.wide n Try.prog 44 #[.pointer (some ⟨gW, 0, none⟩), .pointer (some ⟨gP, 0, none⟩)] encP (Kt B) ((AT.spots d 1 T).map Sp.pr) w := fun l J Jx W hbW hJ hJx hY hJ0 => by
  have bw : Below w.heap.size w W := hbW
  obtain ⟨gY, hgY⟩ : ∃ g, W.heap.size = g := ⟨_, rfl⟩
  obtain ⟨W1, hW1⟩ : ∃ W1, W.alloc (.cells #[.func (.yield l) #[] #[]] 79) = W1 := ⟨_, rfl⟩
  have b1 : Below W.heap.size W W1 := hW1 ▸ (Below.refl _ W).alloc (Nat.le_refl _) _
  have y1 : Boxed W1 gY 79 (.func (.yield l) #[] #[]) := hW1 ▸ hgY ▸ Boxed.new W _ _
  have b01 : Below w.heap.size w W1 := Below.after bw b1
  have h1 : Has W1 gW 63 #[.func (.func fN) #[] #[], .func (.func fF) #[] #[]] := hW.next b01
  have z0 := h1.cell 0
  have z1 := h1.cell 1
  have z2 := (boxed_below hP b01).cell
  have lW := hl.next hN (b01.mono hB)
  have hBW : B ≤ W.heap.size := Nat.le_trans hB bw.size
  have cS := Lib.hid (spots_goes hN d fN fF hd T hs W1 B (Nat.le_trans hB b01.size) lW)
  have hj1 : J [] W1 := hJ _ _ _ hJ0 (.of_below b1)
  have lW' := Lib.hid lW
  have hN' := Lib.hid hN
  have hY' := Lib.hid hY
  clear hY hJ0 hN hd hl lW h1 hW hP hbW
  refine callsIn_wide.2 ?_
  refine (callsIn_wide (n := 9)).1 ?_
  refine callsIn_of_wp_marks Try.func44 rfl trivial ?_ rfl
  simp only [Try.ntmps44, List.size_toArray, List.length_cons, List.length_nil, Nat.reduceAdd, Nat.reduceSub, Array.replicate_succ, Array.replicate_zero, List.push_toArray, List.append_toArray, List.nil_append, List.cons_append]
  refine wpIn_wide.2 ?_
  go_wp2_with fail
  refine cS.out.mono ?_
  rintro e W2 ⟨v, rfl, ⟨hB2, g, lb, rfl, hent, hseq⟩, hb⟩
  have hj2 := hJ _ _ _ hj1 (.of_below (Below.refl _ _ |>.trans hb))
  have y2 := boxed_below y1 hb
  have b2 := Below.after b1 hb
  have l2 := Lib.hid (lW'.out.next hN'.out (hb.mono (Nat.le_trans hB b01.size)))
  have hj2' := Lib.hid hj2
  have hJ' := Lib.hid hJ
  have hJx' := Lib.hid hJx
  clear cS hb y1 hj1 hj2 z0 z1 z2 lW'
  go_wp2_with fail
  refine (wpIn_wide (n := 9)).1 ?_
  refine wpIn_rangeFunc_runs rfl (by omega) (gf := g) (lb := lb) rfl trivial hent (hseq W2 (Below.refl _ _) _) Kt.trans (Kt.put hB2) (Below.refl _ _) (fun _ => rfl)
    (fun pre V => J (pre.map Sp.pr) V ∧ Boxed V gY 79 (.func (.yield l) #[] #[]) ∧ Below B W2 V)
    (fun c pre V => c = .ret ∧ Jx (pre.map Sp.pr) V)
    (Abide.and (fun s X Y h ht => hJ'.out _ X Y h (ht.mono b2.size)) (Abide.and (Abide.boxed _ _ _ (.inl rfl)) (Abide.below hB2 hB2)))
    (fun c s X Y h ht => ⟨h.1, hJx'.out _ X Y h.2 (ht.mono b2.size)⟩)
    ⟨hj2'.out, y2, Below.refl _ _⟩
    (fun x a' V => ∃ gs, a' = { tmps := #[.func (.yield l) #[] #[], .pointer (some ⟨gW, 0, none⟩), .pointer (some ⟨gP, 0, none⟩), .pointer (some ⟨gY, 0, none⟩), .pointer (some ⟨gs, 0, none⟩), wayV fN fF, .pointer T.ptr, .func (.func g) #[] lb, spotV (some x.a) x.deep, undef, undef, undef, undef, undef, undef, undef, undef, undef], defers := [] } ∧ Has V gs 67 #[.pointer (some x.a), nI x.deep])
    (fun x a' _ X Y row hs hg hr => let ⟨gs, h1, h2⟩ := hs; ⟨gs, h1, (hg.block gs h2.lt (fun e => by obtain ⟨_, o, ho, hc⟩ := hr gs e.symm; rw [show X.heap[gs]? = _ from h2] at ho; cases ho; cases hc)).trans h2⟩)
    ?assign ?body ?done ?stop
  case assign =>
    rintro L pre x V K ⟨hj, hy, hb⟩ hpx hK
    have hbn : Below V.heap.size V (V.alloc (.cells #[.pointer (some x.a), nI x.deep] 67)) := (Below.refl _ _).alloc (Nat.le_refl _) _
    have hK2 := Lib.hid (hK { tmps := #[.func (.yield l) #[] #[], .pointer (some ⟨gW, 0, none⟩), .pointer (some ⟨gP, 0, none⟩), .pointer (some ⟨gY, 0, none⟩), .pointer (some ⟨V.heap.size, 0, none⟩), wayV fN fF, .pointer T.ptr, .func (.func g) #[] lb, spotV (some x.a) x.deep, undef, undef, undef, undef, undef, undef, undef, undef, undef], defers := [] } _ ((keeps_below hbn).from _) (Kt.of_below hbn (Nat.le_trans hB2 hb.size)) ⟨hJ'.out _ _ _ hj (.of_below hbn), boxed_below hy hbn, hb.trans (hbn.mono (Nat.le_trans hB2 hb.size))⟩ ⟨_, rfl, Has.new V _ _⟩)
    clear hK hj hy hb hbn
    gi_wp2
    exact hK2.out
  case body =>
    rintro L pre x a' V hL _ ⟨hj, hy, hb⟩ ⟨gs, rfl, hsx⟩ hpx
    have hmem : x ∈ AT.spots d 1 T := by obtain ⟨r, hr⟩ := hpx; rw [← hr]; simp
    have hx : Nd V B x.a x.x := (l2.out.next hN'.out hb).spot d 1 x hmem
    have hpx' : pre.map Sp.pr ++ [x.pr] <+: (AT.spots d 1 T).map Sp.pr := by
      obtain ⟨r, hr⟩ := hpx
      exact ⟨r.map Sp.pr, by rw [← hr]; simp⟩
    obtain ⟨Vd, hVd⟩ : ∃ Vd, V.drew = Vd := ⟨_, rfl⟩
    have bd : Below V.heap.size V Vd := hVd ▸ (Below.refl _ _).drew
    have hBV : B ≤ V.heap.size := Nat.le_trans hB2 hb.size
    have jd := Lib.hid (hJ'.out _ _ _ hj (.of_below bd))
    have yd := Lib.hid (boxed_below hy bd)
    have xd := hN'.out.next hx (bd.mono hBV)
    have sd := hsx.next bd
    have cK := Lib.hid (hN'.out.key Vd B x.a x.x xd)
    have cV := Lib.hid (hN'.out.val Vd B x.a x.x xd)
    obtain ⟨fn, tm, asg, bdy, hyl, hR⟩ := round_any (m' := 0) (hY'.out _ x.pr Vd jd.out hpx')
    have hR' := Lib.hid hR
    simp only [encP] at hyl
    have kd : Hid (Kt B V Vd) := Kt.of_below bd hBV
    have hb' := Lib.hid hb
    have hsz : V.heap.size = Vd.heap.size := hVd ▸ rfl
    have fd : KeepsOthers V Vd := hVd ▸ KeepsOthers.drew V
    have s0 := sd.cell 0
    have q0 := yd.out.cell
    have hS : (fun u : World => u.cell? ⟨gY, 0, none⟩ = some (.func (.yield l) #[] #[]) ∧ u.cell? ⟨gs, 0, none⟩ = some (.pointer (some x.a))) Vd := ⟨q0, s0⟩
    have hmx : Try.prog.follows .mixedOrders = true := by kernel_rfl
    clear hj hy hb hsx hR hx xd sd s0 q0 hpx hmem
    gi_wp2
    refine wpIn_round_any hmx (by kernel_rfl) hVd ?_
    refine SweepTo.any (m := 7) (S := fun u : World => u.cell? ⟨gY, 0, none⟩ = some (.func (.yield l) #[] #[]) ∧ u.cell? ⟨gs, 0, none⟩ = some (.pointer (some x.a))) _ _ _ _ ?_
    refine SweepTo.take (m := 7) (i := 0) (oi := ?dqy0) (v := ?dvy0) (fun _ => trivial) rfl rfl (by kernel_rfl) (by kernel_rfl) ?hiy0 (by kernel_rfl) (by kernel_rfl) (by kernel_rfl) ?hQy0 (Or.inl ⟨?hwy0, ?hyy0⟩) hS ?hry0
    case hiy0 => simp only [List.getElem?_toArray, List.getElem?_cons_zero]; rfl
    case hQy0 => exact only_panic
    case hwy0 => rfl
    case hyy0 => (intro w hSw; (try dsimp only at hSw); go_simp; (try with_reducible rfl))
    simp only [Act.put, List.setIfInBounds_toArray, List.set_cons_zero, List.set_cons_succ]
    refine SweepTo.take (m := 7) (i := 1) (oi := ?dqy1) (v := ?dvy1) (fun _ => trivial) rfl rfl (by kernel_rfl) (by kernel_rfl) ?hiy1 (by kernel_rfl) (by kernel_rfl) (by kernel_rfl) ?hQy1 (Or.inl ⟨?hwy1, ?hyy1⟩) hS ?hry1
    case hiy1 => simp only [List.getElem?_toArray, List.getElem?_cons_succ, List.getElem?_cons_zero]; rfl
    case hQy1 => exact only_panic
    case hwy1 => rfl
    case hyy1 => (intro w hSw; (try dsimp only at hSw); go_simp; (try with_reducible rfl))
    simp only [Act.put, List.setIfInBounds_toArray, List.set_cons_zero, List.set_cons_succ]
    refine SweepTo.take (m := 7) (i := 2) (oi := ?dqy2) (v := ?dvy2) (fun _ => trivial) rfl rfl (by kernel_rfl) (by kernel_rfl) ?hiy2 (by kernel_rfl) (by kernel_rfl) (by kernel_rfl) ?hQy2 (Or.inl ⟨?hwy2, ?hyy2⟩) hS ?hry2
    case hiy2 => simp only [List.getElem?_toArray, List.getElem?_cons_succ, List.getElem?_cons_zero]; rfl
    case hQy2 => exact only_panic
    case hwy2 => rfl
    case hyy2 => (intro w hSw; (try dsimp only at hSw); go_simp; (try with_reducible rfl))
    simp only [Act.put, List.setIfInBounds_toArray, List.set_cons_zero, List.set_cons_succ]
    refine SweepTo.take (m := 7) (i := 4) (oi := ?dqy4) (v := ?dvy4) (fun _ => trivial) rfl rfl (by kernel_rfl) (by kernel_rfl) ?hiy4 (by kernel_rfl) (by kernel_rfl) (by kernel_rfl) ?hQy4 (Or.inl ⟨?hwy4, ?hyy4⟩) hS ?hry4
    case hiy4 => simp only [List.getElem?_toArray, List.getElem?_cons_succ, List.getElem?_cons_zero]; rfl
    case hQy4 => exact only_panic
    case hwy4 => rfl
    case hyy4 => (intro w hSw; (try dsimp only at hSw); go_simp; (try with_reducible rfl))
    simp only [Act.put, List.setIfInBounds_toArray, List.set_cons_zero, List.set_cons_succ]
    refine SweepTo.take (m := 7) (i := 5) (oi := ?dqy5) (v := ?dvy5) (fun _ => trivial) rfl rfl (by kernel_rfl) (by kernel_rfl) ?hiy5 (by kernel_rfl) (by kernel_rfl) (by kernel_rfl) ?hQy5 (Or.inl ⟨?hwy5, ?hyy5⟩) hS ?hry5
    case hiy5 => simp only [List.getElem?_toArray, List.getElem?_cons_succ, List.getElem?_cons_zero]; rfl
    case hQy5 => exact only_panic
    case hwy5 => rfl
    case hyy5 => (intro w hSw; (try dsimp only at hSw); go_simp; (try with_reducible rfl))
    simp only [Act.put, List.setIfInBounds_toArray, List.set_cons_zero, List.set_cons_succ]
    refine SweepTo.ready (rs := [3]) (by kernel_rfl) (by simp) (ToReady.cons (o := ?dqy3) ?hiy3 rfl (fun K hK => ?ccy3) ToReady.nil)
    case hiy3 => simp only [List.getElem?_toArray, List.getElem?_cons_succ, List.getElem?_cons_zero]; rfl
    case ccy3 =>
      go_simp
      refine ⟨trivial, rfl, ?_⟩
      refine (callsIn_wide.2 cK.out).mono ?_
      rintro e u3 ⟨rfl, rfl⟩
      refine hK.out _ _ hS (fun hS => ?_)
      clear hK K
      try simp only [Act.put, List.setIfInBounds_toArray, List.set_cons_zero, List.set_cons_succ]
      refine SweepTo.ready (rs := [6]) (by kernel_rfl) (by simp) (ToReady.cons (o := ?dqy6) ?hiy6 rfl (fun K hK => ?ccy6) ToReady.nil)
      case hiy6 => simp only [List.getElem?_toArray, List.getElem?_cons_succ, List.getElem?_cons_zero]; rfl
      case ccy6 =>
        go_simp
        refine ⟨trivial, rfl, ?_⟩
        refine (callsIn_wide.2 cV.out).mono ?_
        rintro e u6 ⟨rfl, rfl⟩
        refine hK.out _ _ hS (fun hS => ?_)
        clear hK K
        try simp only [Act.put, List.setIfInBounds_toArray, List.set_cons_zero, List.set_cons_succ]
        refine SweepTo.ready (rs := [7]) (by kernel_rfl) (by simp) (ToReady.cut (o := ?dqy7) ?hiy7 (fun K hK => ?ccy7))
        case hiy7 => simp only [List.getElem?_toArray, List.getElem?_cons_succ, List.getElem?_cons_zero]; rfl
        case ccy7 =>
          go_simp
          refine ⟨rfl, ?_⟩
          refine hR'.out.mono ?_
          clear hR' hyl hS
          rintro e u7 ⟨⟨rfl, hj, hk⟩ | ⟨rfl, hx⟩, hkf⟩
          · have f7 := Lib.hid (keepsFrom_later hkf b2.size)
            clear hkf
            have j7 := Lib.hid hj
            have k7 := Lib.hid hk
            clear hj hk
            refine hK.out _ _ ?_
            clear hK K
            refine Sweep.any (S := fun _ => True) _ _ _ _ ?_
            try simp only [Act.put, List.setIfInBounds_toArray, List.set_cons_zero, List.set_cons_succ]
            have hS : (fun _ : World => True) u7 := trivial
            refine Sweep.take (i := 8) (oi := ?dqyy8) (v := ?dvyy8) (fun _ => trivial) rfl ?hiyy8 (by kernel_rfl) (by kernel_rfl) (by kernel_rfl) ?hQyy8 (Or.inl ⟨?hwyy8, ?hyyy8⟩) hS ?hryy8
            case hiyy8 => simp only [List.getElem?_toArray, List.getElem?_cons_succ, List.getElem?_cons_zero]; rfl
            case hQyy8 => exact only_panic
            case hwyy8 => rfl
            case hyyy8 => (intro w hSw; (try dsimp only at hSw); go_simp; (try with_reducible rfl))
            simp only [Act.put, List.setIfInBounds_toArray, List.set_cons_zero, List.set_cons_succ]
            refine Sweep.done (by kernel_rfl) ?_ _
            dsimp only [OnlyNormal]
            gi_wp2
            exact ⟨((fd.from _).trans f7.out), kd.out.trans k7.out, by simpa using j7.out, k7.out.mid _ _ _ _ rfl yd.out, (hb'.out.trans (bd.mono hBV)).trans k7.out.below⟩
          · have x7 := Lib.hid hx
            have f7 := Lib.hid (keepsFrom_later hkf b2.size)
            clear hx hkf
            refine hK.out _ _ ?_
            clear hK K
            refine Sweep.any (S := fun _ => True) _ _ _ _ ?_
            try simp only [Act.put, List.setIfInBounds_toArray, List.set_cons_zero, List.set_cons_succ]
            have hS : (fun _ : World => True) u7 := trivial
            refine Sweep.take (i := 8) (oi := ?dqyn8) (v := ?dvyn8) (fun _ => trivial) rfl ?hiyn8 (by kernel_rfl) (by kernel_rfl) (by kernel_rfl) ?hQyn8 (Or.inl ⟨?hwyn8, ?hyyn8⟩) hS ?hryn8
            case hiyn8 => simp only [List.getElem?_toArray, List.getElem?_cons_succ, List.getElem?_cons_zero]; rfl
            case hQyn8 => exact only_panic
            case hwyn8 => rfl
            case hyyn8 => (intro w hSw; (try dsimp only at hSw); go_simp; (try with_reducible rfl))
            simp only [Act.put, List.setIfInBounds_toArray, List.set_cons_zero, List.set_cons_succ]
            refine Sweep.done (by kernel_rfl) ?_ _
            dsimp only [OnlyNormal]
            gi_wp2
            exact ⟨((fd.from _).trans f7.out), rfl, by simpa using x7.out⟩

  case done =>
    rintro D V hD ⟨hj, _, _⟩ hK
    have hj' := Lib.hid hj
    clear hj
    gi_wp2
    refine ⟨by simp, .inl ⟨_, _, rfl, run_takeDeferred hK, ?_⟩⟩
    exact ⟨_, results_none rfl _ _ _, ⟨_, rfl⟩, .inl (hJ'.out _ _ _ hj'.out (.put _ (Nat.le_trans b2.size hD) hK rfl))⟩
  case stop =>
    rintro D c pre V hD hp ⟨rfl, hx⟩ hK
    have hx' := Lib.hid hx
    clear hx
    gi_wp2
    refine ⟨by simp, .inl ⟨_, _, rfl, run_takeDeferred hK, ?_⟩⟩
    exact ⟨_, results_none rfl _ _ _, ⟨_, rfl⟩, .inr ⟨_, hp.map _, hJx'.out _ _ _ hx'.out (.put _ (Nat.le_trans b2.size hD) hK rfl)⟩⟩
end Go.Proofs.Ytadncdcblckpjaa
