/- Layer 10, package look as it landed: the closure that goes over spots, calls itself, and keeps a stack. Made by wip/gen/layer10tell.py. -/
import Derived.Test.YtadncdcblckpjaaL10At
import Derived.Test.YtadncdcblckpjaaGHeldIn
namespace Go.Proofs.Ytadncdcblckpjaa
open Go.RowKit Go.Shelf Go.Proofs.Treem Go.Proofs.Rowm
attribute [local go_sem] Oper.semAt_some
set_option maxRecDepth 100000
variable {Nd : NdP}

theorem round_any {m m' : Nat} {P : Program} {l : Nat} {args : Array Value} {W : World} {R : Ending → World → Prop} (h : YieldAt Fence.wide m P l args W R) : YieldAt Fence.wide m' P l args W R := by
  obtain ⟨fn, tmps, assign, body, hy, hR⟩ := h
  exact ⟨fn, tmps, assign, body, hy, hR.1, fun c cs _ => hR.2 c cs (room_wide _)⟩
theorem wpIn_only_any {F : Fence} {n : Nat} {P : Program} {ops : Array Oper} {Q : Exit → Act → World → Prop} {id : Nat} {a : Act} {w wd : World} (hm : P.follows .mixedOrders = true) (hw : w.drew = wd)
    (h : wpAnyIn F n P .any ops (OnlyNormal Q) ops.size (Array.replicate ops.size false) a wd) : (Code.region id ops true).wpIn F n P Q a w :=
  by subst hw; exact Code.wpIn_mono only_normal (wpIn_region_any hm h)
set_option maxHeartbeats 8000000 in
theorem tell_in (hN : NodeSays Nd) (d : Bool) (fN fF : FuncId) (hd : Sides Nd d fN fF) (gO gW gT gY l B B' D : Nat) (hD : D ≤ 3000) (J Jx : List Sp → World → Prop) (ps : List Sp) (hBB : B ≤ B') (hgO : B' ≤ gO) (hJ : Abide inner B' J)
    (hY : ∀ pre x W, J pre W → pre ++ [x] <+: ps → YieldAt Fence.wide 0 Try.prog l (encS x) W fun e W' => (e = .returned (.bool true) ∧ J (pre ++ [x]) W' ∧ Kt B W W') ∨ (e = .returned (.bool false) ∧ Jx (pre ++ [x]) W')) :
    ∀ (N : Nat) (t : AT) (k n0 : Nat) (pre : List Sp) (v : Value) (xs0 : List Value) (W : World), t.size ≤ N → k + t.size ≤ D → n0 + t.size ≤ D → B' ≤ W.heap.size → t.lies Nd W B → Env gO gW gT gY fN fF l W → Boxed W gO 76 v → W.ownsRow B' 67 2 v n0 xs0 → J pre W → pre ++ AT.spots d k t <+: ps →
      CallsIn Fence.wide 0 Try.prog 41 #[spotV t.ptr k, .pointer (some ⟨gO, 0, none⟩), .pointer (some ⟨gW, 0, none⟩), .pointer (some ⟨gT, 0, none⟩), .pointer (some ⟨gY, 0, none⟩)] W (Told10 B B' gO J Jx ps v n0 xs0 (pre ++ AT.spots d k t) W) := by
  intro N
  induction N using Nat.strongRecOn with
  | _ N ih =>
    intro t k n0 pre v xs0 W hsz hk hn0 hBW hl hE hO hown hj hpre
    obtain ⟨gS, hgS⟩ : ∃ g, W.heap.size = g := ⟨_, rfl⟩
    have hOS : gO < gS := hgS ▸ hO.lt
    have hB'S : B' ≤ W.heap.size := hBW
    have hSS : W.heap.size ≤ gS := hgS ▸ Nat.le_refl _
    have b1 : Below W.heap.size W (W.alloc (.cells #[.pointer t.ptr, nI k] 67)) := (Below.refl _ W).alloc (Nat.le_refl _) _
    have h1 : Hid (At d fN fF gO gW gT gY l B B' D n0 gS N xs0 W v (pre ++ AT.spots d k t) J t.ptr k [] (AT.spots d k t) pre v (W.alloc (.cells #[.pointer t.ptr, nI k] 67))) :=
      ⟨hE.below b1, hO.alloc _, by simpa [flatF] using hown.alloc _, hgS ▸ Has.new W _ _, fun e => by have := (hown.lt gS e.symm).2; omega, hJ _ _ _ hj (.of_below b1), Rn.of_below b1 (Nat.le_trans hBB hBW), by simp [rest], by simp [rest, AT.spots_len]; omega, by simp [rest, AT.spots_len]; exact hsz, by simp; omega⟩
    have hpre' := Lib.hid hpre
    have hl' := Lib.hid hl
    have hN' := Lib.hid hN
    have hd' := Lib.hid hd
    have hJ' := Lib.hid hJ
    have hY' := Lib.hid hY
    have hOS' := Lib.hid hOS
    have ih' := Lib.hid ih
    have hk' := Lib.hid hk
    clear hE hO hown hj hpre hl hN hd hJ hY ih b1 hn0 hk
    obtain ⟨mu, hmu⟩ := least_there (fun m w => ∃ (cur : AT) (kc : Nat) (us : List Fr) (pc : List Sp) (vc : Value), m = 2 * cur.size + load d us ∧ cur.lies Nd W B ∧ kc + cur.size ≤ D ∧ (∀ f ∈ us, f.t.lies Nd W B ∧ f.k + 1 + (f.t.side (!d)).size ≤ D) ∧ At d fN fF gO gW gT gY l B B' D n0 gS N xs0 W v (pre ++ AT.spots d k t) J cur.ptr kc us (AT.spots d kc cur) pc vc w)
    have hmu' := Lib.hid hmu
    clear hmu
    refine callsIn_of_wp Try.func41 rfl trivial ?_ rfl
    simp only [Try.ntmps41, List.size_toArray, List.length_cons, List.length_nil, Nat.reduceAdd, Nat.reduceSub, Array.replicate_succ, Array.replicate_zero, List.push_toArray, List.append_toArray, List.nil_append, List.cons_append]
    obtain ⟨A, c, hv, -, -, -⟩ := own_slice h1.out.ow
    have cO := h1.out.bo.cell
    rw [hv] at cO
    have hv' := Lib.hid hv
    clear hv
    gi_wp2
    gi_loopw [] (fun wr => ∃ m, ∃ (cur : AT) (kc : Nat) (us : List Fr) (pc : List Sp) (vc : Value), m = 2 * cur.size + load d us ∧ cur.lies Nd W B ∧ kc + cur.size ≤ D ∧ (∀ f ∈ us, f.t.lies Nd W B ∧ f.k + 1 + (f.t.side (!d)).size ≤ D) ∧ At d fN fF gO gW gT gY l B B' D n0 gS N xs0 W v (pre ++ AT.spots d k t) J cur.ptr kc us (AT.spots d kc cur) pc vc wr) (fun wr => mu wr)
    case atStart => exact ⟨_, _, _, _, _, _, rfl, hl'.out, hk'.out, (fun _ hf => by cases hf), h1.out⟩
    case round =>
      clear cO h1 hv'
      obtain ⟨m, hm⟩ := hrel
      obtain ⟨⟨cur, kc, us, pc, vc, em, lc, kd, ud, h2⟩, -⟩ := hmu'.out wr m hm
      obtain ⟨A1, c1, rfl, hcn1, -, -⟩ := own_slice h2.ow
      obtain ⟨nn, hnn⟩ : ∃ n, n0 + us.length = n := ⟨_, rfl⟩
      have cO : wr.cell? ⟨gO, 0, none⟩ = some (.slice A1 nn c1) := hnn ▸ h2.bo.cell
      have z0 := h2.env.wy.cell 0
      have z1 := h2.env.wy.cell 1
      have hBr : B ≤ wr.heap.size := Nat.le_trans hBB h2.sz
      have lcr := lc.next hN'.out h2.rn.below
      have cG := Lib.hid (greater_any hN'.out d fN fF hd'.out wr B hBr cur lcr)
      obtain ⟨b, hb⟩ : ∃ b, decide (((cur.side (!d)).sz).toInt < ((cur.side d).sz).toInt) = b := ⟨_, rfl⟩
      have hb' := Lib.hid hb
      rw [hb] at cG
      have h2' := Lib.hid h2
      have lc' := Lib.hid lc
      have ud' := Lib.hid ud
      have em' := Lib.hid em
      have kd' := Lib.hid kd
      have hnn' := Lib.hid hnn
      have hcn' := Lib.hid hcn1
      clear hb h2 lc lcr ud em kd hm hnn hBr hcn1
      cases cur with
      | e =>
        have y0 : wr.cell? ⟨gS, 0, none⟩ = some (.pointer none) := h2'.out.sb.cell 0
        have y1 := h2'.out.sb.cell 1
        cases us with
        | nil =>
          obtain rfl : n0 = nn := hnn'.out
          gi_wp2
          go_ret
          exact .inl ⟨rfl, h2'.out.done⟩
        | cons f us =>
          have hbf : b = false := by rw [← hb'.out]; rfl
          rw [hbf] at cG
          obtain ⟨mm, hmm⟩ : ∃ n, n0 + us.length = n := ⟨_, rfl⟩
          have hnm : nn = mm + 1 := by have := hnn'.out; rw [List.length_cons] at this; omega
          have hD1 : mm + 1 ≤ 3000 := by have := h2'.out.nd; have h9 := rest_len d (f :: us); simp only [List.nil_append, AT.spots, List.length_cons] at this h9; omega
          have e1 : wrap64 ((nn : Int) - 1) = (mm : Int) := by unfold wrap64; omega
          have d1 : decide ((n0 : Int) < (nn : Int)) = true := decide_eq_true (by omega)
          have d2 : n0 < nn := by omega
          have hix : mm < nn := by omega
          have ct : ∀ W, (Instr.slice 76 (.slice A1 nn c1) none (some (.int .i64 (mm : Int))) none).run Try.prog W = .ok (.slice A1 mm c1) W := cut_to Try.underlying76 size_spot A1 nn c1 mm _ rfl (by have := hcn'.out; rw [List.length_cons] at this; omega)
          have hmm' := Lib.hid hmm
          have lf := Lib.hid (ud'.out f (List.mem_cons_self ..)).1
          have kf : Hid (f.k ≤ 3000) := by have := (ud'.out f (List.mem_cons_self ..)).2; show f.k ≤ 3000; omega
          have ff := Lib.hid (ud'.out f (List.mem_cons_self ..)).2
          have mf : Hid (2 * (f.t.side (!d)).size + load d us < 2 * AT.e.size + load d (f :: us)) := by show _ < _; simp only [load, AT.size]; omega
          clear hmm hnm hD1
          gi_wp2_with fail
          refine ⟨trivial, rfl, ?_⟩
          refine (callsIn_wide.2 cG.out).mono ?_
          rintro e w3 ⟨rfl, hb⟩
          have h3 := Lib.hid (h2'.out.below hJ'.out hBB hb)
          clear hb cG cO y0 y1 z0 z1
          obtain ⟨ad, eA, ha1, ha2, g0, g1⟩ := h3.out.top hmm'.out
          subst eA
          have hsl : Hid (Value.slice (some ad) (n0 + (f :: us).length) c1 = .slice (some ad) nn c1) := by show _ = _; rw [hnn'.out]
          have cO : w3.cell? ⟨gO, 0, none⟩ = some (.slice (some ad) nn c1) := hsl.out ▸ h3.out.bo.cell
          have y0 : w3.cell? ⟨gS, 0, none⟩ = some (.pointer none) := h3.out.sb.cell 0
          have y1 := h3.out.sb.cell 1
          gi_wp2
          have h4 := Lib.hid (h3.out.below hJ'.out hBB (Below.refl _ w3).drew)
          have hS : (fun u : World => u.cell? ⟨gO, 0, none⟩ = some (.slice (some ad) nn c1) ∧ u.cell? (ad.add (mm * 2)) = some (.pointer (some f.a)) ∧ u.cell? ⟨(ad.add (mm * 2)).block, (ad.add (mm * 2)).off + 1, none⟩ = some (nI f.k)) w3.drew := ⟨cO, g0, g1⟩
          clear cO y0 y1 g0 g1
          obtain ⟨wd, hwd⟩ : ∃ wd, w3.drew = wd := ⟨_, rfl⟩
          rw [hwd] at h4 hS
          refine wpIn_only_any (by kernel_rfl) hwd ?_
          clear hwd
          refine SweepTo.any (m := 8) (S := fun u : World => u.cell? ⟨gO, 0, none⟩ = some (.slice (some ad) nn c1) ∧ u.cell? (ad.add (mm * 2)) = some (.pointer (some f.a)) ∧ u.cell? ⟨(ad.add (mm * 2)).block, (ad.add (mm * 2)).off + 1, none⟩ = some (nI f.k)) _ _ _ _ ?_
          refine SweepTo.take (m := 8) (i := 0) (oi := ?dqp0) (v := ?dvp0) (fun _ => trivial) rfl rfl (by kernel_rfl) (by kernel_rfl) ?hip0 (by kernel_rfl) (by kernel_rfl) (by kernel_rfl) ?hQp0 (Or.inl ⟨?hwp0, ?hyp0⟩) hS ?hrp0
          case hip0 => simp only [List.getElem?_toArray, List.getElem?_cons_zero]; rfl
          case hQp0 => exact only_panic
          case hwp0 => rfl
          case hyp0 => (intro w hSw; (try dsimp only at hSw); go_simp; (try with_reducible rfl))
          simp only [Act.put, List.setIfInBounds_toArray, List.set_cons_zero, List.set_cons_succ]
          refine SweepTo.take (m := 8) (i := 1) (oi := ?dqp1) (v := ?dvp1) (fun _ => trivial) rfl rfl (by kernel_rfl) (by kernel_rfl) ?hip1 (by kernel_rfl) (by kernel_rfl) (by kernel_rfl) ?hQp1 (Or.inl ⟨?hwp1, ?hyp1⟩) hS ?hrp1
          case hip1 => simp only [List.getElem?_toArray, List.getElem?_cons_succ, List.getElem?_cons_zero]; rfl
          case hQp1 => exact only_panic
          case hwp1 => rfl
          case hyp1 => (intro w hSw; (try dsimp only at hSw); go_simp; (try with_reducible rfl))
          simp only [Act.put, List.setIfInBounds_toArray, List.set_cons_zero, List.set_cons_succ]
          refine SweepTo.take (m := 8) (i := 2) (oi := ?dqp2) (v := ?dvp2) (fun _ => trivial) rfl rfl (by kernel_rfl) (by kernel_rfl) ?hip2 (by kernel_rfl) (by kernel_rfl) (by kernel_rfl) ?hQp2 (Or.inl ⟨?hwp2, ?hyp2⟩) hS ?hrp2
          case hip2 => simp only [List.getElem?_toArray, List.getElem?_cons_succ, List.getElem?_cons_zero]; rfl
          case hQp2 => exact only_panic
          case hwp2 => rfl
          case hyp2 => (intro w hSw; (try dsimp only at hSw); go_simp; (try with_reducible rfl))
          simp only [Act.put, List.setIfInBounds_toArray, List.set_cons_zero, List.set_cons_succ]
          refine SweepTo.take (m := 8) (i := 3) (oi := ?dqp3) (v := ?dvp3) (fun _ => trivial) rfl rfl (by kernel_rfl) (by kernel_rfl) ?hip3 (by kernel_rfl) (by kernel_rfl) (by kernel_rfl) ?hQp3 (Or.inl ⟨?hwp3, ?hyp3⟩) hS ?hrp3
          case hip3 => simp only [List.getElem?_toArray, List.getElem?_cons_succ, List.getElem?_cons_zero]; rfl
          case hQp3 => exact only_panic
          case hwp3 => rfl
          case hyp3 => (intro w hSw; (try dsimp only at hSw); go_simp; (try with_reducible rfl))
          simp only [Act.put, List.setIfInBounds_toArray, List.set_cons_zero, List.set_cons_succ]
          refine SweepTo.take (m := 8) (i := 4) (oi := ?dqp4) (v := ?dvp4) (fun _ => trivial) rfl rfl (by kernel_rfl) (by kernel_rfl) ?hip4 (by kernel_rfl) (by kernel_rfl) (by kernel_rfl) ?hQp4 (Or.inl ⟨?hwp4, ?hyp4⟩) hS ?hrp4
          case hip4 => simp only [List.getElem?_toArray, List.getElem?_cons_succ, List.getElem?_cons_zero]; rfl
          case hQp4 => exact only_panic
          case hwp4 => rfl
          case hyp4 => (intro w hSw; (try dsimp only at hSw); go_simp; (try with_reducible rfl))
          simp only [Act.put, List.setIfInBounds_toArray, List.set_cons_zero, List.set_cons_succ]
          refine SweepTo.take (m := 8) (i := 5) (oi := ?dqp5) (v := ?dvp5) (fun _ => trivial) rfl rfl (by kernel_rfl) (by kernel_rfl) ?hip5 (by kernel_rfl) (by kernel_rfl) (by kernel_rfl) ?hQp5 (Or.inl ⟨?hwp5, ?hyp5⟩) hS ?hrp5
          case hip5 => simp only [List.getElem?_toArray, List.getElem?_cons_succ, List.getElem?_cons_zero]; rfl
          case hQp5 => exact only_panic
          case hwp5 => rfl
          case hyp5 => (intro w hSw; (try dsimp only at hSw); go_simp; (try with_reducible rfl))
          simp only [Act.put, List.setIfInBounds_toArray, List.set_cons_zero, List.set_cons_succ]
          refine SweepTo.take (m := 8) (i := 6) (oi := ?dqp6) (v := ?dvp6) (fun _ => trivial) rfl rfl (by kernel_rfl) (by kernel_rfl) ?hip6 (by kernel_rfl) (by kernel_rfl) (by kernel_rfl) ?hQp6 (Or.inl ⟨?hwp6, ?hyp6⟩) hS ?hrp6
          case hip6 => simp only [List.getElem?_toArray, List.getElem?_cons_succ, List.getElem?_cons_zero]; rfl
          case hQp6 => exact only_panic
          case hwp6 => rfl
          case hyp6 => (intro w hSw; (try dsimp only at hSw); go_simp; (try with_reducible rfl))
          simp only [Act.put, List.setIfInBounds_toArray, List.set_cons_zero, List.set_cons_succ]
          refine SweepTo.ready (rs := [7]) (by kernel_rfl) (by simp) (ToReady.cons (o := ?dqp7) ?hip7 rfl (fun K hK => ?ccp7) ToReady.nil)
          case hip7 => simp only [List.getElem?_toArray, List.getElem?_cons_succ, List.getElem?_cons_zero]; rfl
          case ccp7 =>
            have x0 := h4.out.sb.cell 0
            have x1 := h4.out.sb.cell 1
            have x2 := h4.out.sb.free 0
            have x3 := h4.out.sb.free 1
            go_simp
            have hS2 := And.intro (cell_far (g := gS) hS.1 (by show gO ≠ gS; omega) (.pointer (some f.a)) (nI f.k)) (And.intro (cell_far (g := gS) hS.2.1 (by rw [add_block]; exact ha1) (.pointer (some f.a)) (nI f.k)) (cell_far (g := gS) hS.2.2 (by show (ad.add (mm * 2)).block ≠ gS; rw [add_block]; exact ha1) (.pointer (some f.a)) (nI f.k)))
            have hT := Lib.hid (h4.out.pop hJ'.out hBB hSS hB'S hgO)
            have hO4 := Lib.hid (h4.out.store hJ'.out hBB hSS hB'S (some f.a) f.k)
            clear hS x0 x1 x2 x3
            refine hK.out _ _ hS2 (fun hS => ?_)
            clear hS2 hK K
            try simp only [Act.put, List.setIfInBounds_toArray, List.set_cons_zero, List.set_cons_succ]
            refine SweepTo.ready (rs := [8]) (by kernel_rfl) (by simp) (ToReady.cut (o := ?dqp8) ?hip8 (fun K hK => ?ccp8))
            case hip8 => simp only [List.getElem?_toArray, List.getElem?_cons_succ, List.getElem?_cons_zero]; rfl
            case ccp8 =>
              have x4 := hO4.out.bo.cell
              have x5 := hO4.out.bo.frozen
              go_simp
              clear x4 x5 hO4 hS
              refine hK.out _ _ ?_
              clear hK K
              refine Sweep.any (S := fun _ => True) _ _ _ _ ?_
              try simp only [Act.put, List.setIfInBounds_toArray, List.set_cons_zero, List.set_cons_succ]
              refine Sweep.done (by kernel_rfl) ?_ _
              dsimp only [OnlyNormal]
              rw [hmm'.out] at hT
              generalize ((wd.setCell ⟨gS, 0, none⟩ (.pointer (some f.a))).setCell ⟨gS, 1, none⟩ (nI f.k)).setCell ⟨gO, 0, none⟩ (.slice (some ad) mm c1) = w5 at hT ⊢
              have cYP := hT.out.env.yl.cell
              have s0P := hT.out.sb.cell 0
              have s1P := hT.out.sb.cell 1
              have hpxP : Hid (pc ++ [⟨f.a, f.x, f.k⟩] <+: ps) := by
                obtain ⟨r, hr⟩ := hpre'.out
                refine ⟨AT.spots d (f.k + 1) (f.t.side (!d)) ++ rest d us ++ r, ?_⟩
                rw [← hr, ← hT.out.eq]
                simp [List.append_assoc]
              obtain ⟨fnP, tmP, asP, bdP, hyP, hR⟩ := round_any (m' := 0) (hY'.out (pc) ⟨f.a, f.x, f.k⟩ w5 hT.out.j hpxP.out)
              have hRP := Lib.hid hR
              clear hR
              simp only [encS] at hyP
              gi_wp2
              refine ⟨rfl, ?_⟩
              refine hRP.out.mono ?_
              clear hRP hyP cYP s0P s1P
              rintro e wyP (⟨rfl, hj, hk⟩ | ⟨rfl, hx⟩)
              · have hwP := Lib.hid (hT.out.yielded hj hk)
                clear hj hk
                have t0P := hwP.out.sb.cell 0
                have t1P := hwP.out.sb.cell 1
                have z0P := hwP.out.env.wy.cell 0
                have z1P := hwP.out.env.wy.cell 1
                have lwP := lf.out.next hN'.out hwP.out.rn.below
                have cBP := Lib.hid (below_any fF hd'.out.eF (some (f.a)) ((f.t).side (!d)).ptr (f.k) (by have := kf.out; omega) wyP (fun V hb => hd'.out.cF V B (f.t) (lwP.next hN'.out (hb.mono (Nat.le_trans hBB hwP.out.sz)))))
                clear lwP
                gi_wp2_with fail
                refine ⟨trivial, rfl, ?_⟩
                refine (callsIn_wide.2 cBP.out).mono ?_
                clear cBP t0P t1P z0P z1P
                rintro e wzP ⟨rfl, hb⟩
                have hzP := Lib.hid (hwP.out.below hJ'.out hBB hb)
                clear hb
                have t0P := hzP.out.sb.cell 0
                have t1P := hzP.out.sb.cell 1
                have g0P := hzP.out.sb.free 0
                have g1P := hzP.out.sb.free 1
                gi_wp2
                clear t0P t1P g0P g1P
                have hqP := Lib.hid (hzP.out.store hJ'.out hBB hSS hB'S ((f.t).side (!d)).ptr (f.k + 1))
                have hmP := Lib.hid (hmu'.out _ _ ⟨_, _, _, _, _, rfl, lf.out.side (!d), ff.out, (fun f9 h9 => ud'.out f9 (List.mem_cons_of_mem _ h9)), hqP.out⟩)
                go_roundw
                case rel => exact ⟨_, (hmP.out).1⟩
                case measure =>
                  have := hmP.out.2
                  rw [em'.out]
                  exact Nat.lt_of_le_of_lt this mf.out
              · have hxP := Lib.hid hx
                clear hx
                gi_wp2
                go_ret
                exact .inr ⟨rfl, _, hpxP.out, hxP.out⟩
      | n a x lt rt =>
        have y0 : wr.cell? ⟨gS, 0, none⟩ = some (.pointer (some a)) := h2'.out.sb.cell 0
        have y1 := h2'.out.sb.cell 1
        have hT2 : Hid (∃ T : AT, AT.n a x lt rt = T) := ⟨_, rfl⟩
        obtain ⟨T, hTe⟩ := hT2.out
        have hTp : Hid (T.ptr = some a) := hTe ▸ rfl
        have hsp : Hid (AT.spots d kc T = AT.spots d (kc + 1) (T.side d) ++ ⟨a, x, kc⟩ :: AT.spots d (kc + 1) (T.side (!d))) := hTe ▸ AT.spots_n d kc a x lt rt
        have hsz2 : Hid (T.size = 1 + (T.side d).size + (T.side (!d)).size) := hTe ▸ AT.size_side d a x lt rt
        have hfr : Hid ((⟨a, x, lt, rt, kc⟩ : Fr).t = T) := hTe ▸ rfl
        rw [hTe] at h2' lc' em' kd' cG
        clear hT2 hTe hb'
        rw [hTp.out] at h2' cG
        have kf : Hid (kc ≤ 3000) := by have := kd'.out; show kc ≤ 3000; omega
        have ff : Hid (kc + 1 + (T.side (!d)).size ≤ D) := by have := kd'.out; have := hsz2.out; show _ ≤ _; omega
        have fn : Hid (kc + 1 + (T.side d).size ≤ D) := by have := kd'.out; have := hsz2.out; show _ ≤ _; omega
        have mf : Hid (2 * (T.side (!d)).size + load d us < 2 * T.size + load d us) := by have := hsz2.out; show _ < _; omega
        have mn : Hid (2 * (T.side d).size + (2 * (T.side (!d)).size + 1 + load d us) < 2 * T.size + load d us) := by have := hsz2.out; show _ < _; omega
        have hnD : Hid (nn + 1 + (T.side d).size ≤ 3000) := by
          have h8 := h2'.out.nd
          have h9 := rest_len d us
          have := hnn'.out
          have h7 := hsz2.out
          rw [List.length_append, AT.spots_len] at h8
          show _ ≤ _
          omega
        have hnD2 : Hid (n0 + us.length + (T.side d).size ≤ D) := by
          have h8 := h2'.out.nd
          have h9 := rest_len d us
          have h7 := hsz2.out
          rw [List.length_append, AT.spots_len] at h8
          show _ ≤ _
          omega
        have hNN : Hid ((T.side d).size < N) := by
          have h8 := h2'.out.ln
          have h7 := hsz2.out
          rw [List.length_append, AT.spots_len] at h8
          show _ < _
          omega
        gi_wp2_with fail
        refine ⟨trivial, rfl, ?_⟩
        refine (callsIn_wide.2 cG.out).mono ?_
        rintro e w3 ⟨rfl, hb⟩
        have h3 := Lib.hid (h2'.out.below hJ'.out hBB hb)
        clear hb cG cO y0 y1 z0 z1
        have cO : w3.cell? ⟨gO, 0, none⟩ = some (.slice A1 nn c1) := hnn'.out ▸ h3.out.bo.cell
        have fO := h3.out.bo.frozen
        have y0 : w3.cell? ⟨gS, 0, none⟩ = some (.pointer (some a)) := h3.out.sb.cell 0
        have y1 := h3.out.sb.cell 1
        have z0 := h3.out.env.wy.cell 0
        have z1 := h3.out.env.wy.cell 1
        cases b with
        | true =>
          obtain ⟨i0, hin, hz0, hz1, hz2⟩ := info_parts info_spot
          have how : w3.ownsRow B' 67 2 (.slice A1 nn c1) nn (xs0 ++ flatF us.reverse) := hnn'.out ▸ h3.out.ow
          have hnd := hnD.out
          have n1 : gW ≠ gO := has_apart h3.out.env.wy (show Has _ _ _ _ from h3.out.bo) (by decide)
          have n2 : gO ≠ gW := Ne.symm n1
          gi_wp2_with (
            (gi_at_builtin
             refine wpListIn_append_where _ rfl _ _ 76 rfl B' 67 i0 (.agg #[.pointer none, .int .i64 0]) 2 16 Try.underlying76 hin hz0 hz1 hz2 rfl (by decide) (.slice A1 nn c1) nn (xs0 ++ flatF us.reverse) rfl (how.alloc _) ⟨w3.heap.size, 0, none⟩ 1 1 [.pointer (some a), nI kc] rfl rfl (fun j u hu => ((Has.new w3 67 #[.pointer (some a), nI kc]).row.at_ hu).2) (by simp [Value.oneCell']) (by unfold maxLen; omega) (by omega) (by have := h3.out.sz; simp; omega) ?_
             intro v2 w4 hown' hgrow hwh
             obtain ⟨g', cap', rfl⟩ := ownsRow_succ hown'
             have hP := Lib.hid (At.push (f := ⟨a, x, lt, rt, kc⟩) (v1 := .slice (some ⟨g', 0, none⟩) (nn + 1) cap') (hfr.out.symm ▸ h3.out) rfl hJ'.out hBB hOS hgO (by rw [hnn'.out]; exact hown') (by rw [hnn'.out]; exact hgrow) (by rw [hnn'.out]; exact hwh))
             have hb4 : Boxed w4 gO 76 (.slice A1 nn c1) := ((hnn'.out ▸ h3.out.bo : Boxed w3 gO 76 (.slice A1 nn c1)).alloc _).kept hgrow (Boxed.not_row (h3.out.bo) (by decide) how)
             have cO4 := hb4.cell
             have fO4 := hb4.frozen
             have hg3 : (w3.alloc (.cells #[.pointer (some a), nI kc] 67)).grownBy w4 (Value.slice A1 (n0 + us.length) c1).ownBlock := by rw [hnn'.out]; exact hgrow
             obtain ⟨k1, k2⟩ := h3.out.grown hg3
             have q0 := k1.cell 0
             have q1 := k1.cell 1
             have q2 := k2.cell 0
             have q3 := k2.cell 1
             clear cO fO y0 y1 z0 z1))
          
          have lwn := lc'.out.next hN'.out hP.out.rn.below
          have cBn := Lib.hid (below_any fN hd'.out.eN (some a) (T.side d).ptr kc (by have := kf.out; omega) _ (fun V hb => hTp.out ▸ hd'.out.cN V B T (lwn.next hN'.out (hb.mono (Nat.le_trans hBB hP.out.sz)))))
          clear lwn q0 q1 q2 q3 k1 k2 hb4 cO4 fO4 hg3 how hown' hwh hgrow n1 n2
          refine ⟨trivial, rfl, ?_⟩
          refine (callsIn_wide.2 cBn.out).mono ?_
          clear cBn
          rintro e w5 ⟨rfl, hb⟩
          have h5 := Lib.hid (hP.out.below hJ'.out hBB hb)
          clear hb hP
          have t0 := h5.out.sb.cell 0
          have t1 := h5.out.sb.cell 1
          have g0 := h5.out.sb.free 0
          have g1 := h5.out.sb.free 1
          gi_wp2
          clear t0 t1 g0 g1
          have hq5 := h5.out.store hJ'.out hBB hSS hB'S (T.side d).ptr (kc + 1)
          rw [hfr.out] at hq5
          have hq6 := Lib.hid hq5
          clear hq5
          have hm6 := Lib.hid (hmu'.out _ _ ⟨_, _, _, _, _, rfl, lc'.out.side d, fn.out, List.forall_mem_cons.2 ⟨⟨hfr.out ▸ lc'.out, hfr.out ▸ ff.out⟩, ud'.out⟩, hq6.out⟩)
          go_roundw
          case rel => exact ⟨_, (hm6.out).1⟩
          case measure =>
            have := hm6.out.2
            simp only [load, hfr.out] at this
            rw [em'.out]
            exact Nat.lt_of_le_of_lt this mn.out
        | false =>
          gi_wp2
          have hS : (fun u : World => u.cell? ⟨gT, 0, none⟩ = some (.func (.func 41) #[] #[.pointer (some ⟨gO, 0, none⟩), .pointer (some ⟨gW, 0, none⟩), .pointer (some ⟨gT, 0, none⟩), .pointer (some ⟨gY, 0, none⟩)]) ∧ u.cell? ⟨gS, 0, none⟩ = some (.pointer (some a)) ∧ u.cell? ⟨gS, 1, none⟩ = some (nI kc) ∧ u.cell? ⟨gW, 0, none⟩ = some (.func (.func fN) #[] #[]) ∧ At d fN fF gO gW gT gY l B B' D n0 gS N xs0 W v (pre ++ AT.spots d k t) J (some a) kc us (AT.spots d kc T) pc (.slice A1 (n0 + us.length) c1) u) w3.drew := by
            have h4 := h3.out.below hJ'.out hBB (Below.refl _ w3).drew
            exact ⟨h4.env.tl.cell, h4.sb.cell 0, h4.sb.cell 1, h4.env.wy.cell 0, h4⟩
          obtain ⟨wd, hwd⟩ : ∃ wd, w3.drew = wd := ⟨_, rfl⟩
          rw [hwd] at hS
          refine wpIn_only_any (by kernel_rfl) hwd ?_
          clear hwd cO fO y0 y1 z0 z1 h3 h2'
          refine SweepTo.any (m := 5) (S := fun u : World => u.cell? ⟨gT, 0, none⟩ = some (.func (.func 41) #[] #[.pointer (some ⟨gO, 0, none⟩), .pointer (some ⟨gW, 0, none⟩), .pointer (some ⟨gT, 0, none⟩), .pointer (some ⟨gY, 0, none⟩)]) ∧ u.cell? ⟨gS, 0, none⟩ = some (.pointer (some a)) ∧ u.cell? ⟨gS, 1, none⟩ = some (nI kc) ∧ u.cell? ⟨gW, 0, none⟩ = some (.func (.func fN) #[] #[]) ∧ At d fN fF gO gW gT gY l B B' D n0 gS N xs0 W v (pre ++ AT.spots d k t) J (some a) kc us (AT.spots d kc T) pc (.slice A1 (n0 + us.length) c1) u) _ _ _ _ ?_
          refine SweepTo.take (m := 5) (i := 0) (oi := ?dqq0) (v := ?dvq0) (fun _ => trivial) rfl rfl (by kernel_rfl) (by kernel_rfl) ?hiq0 (by kernel_rfl) (by kernel_rfl) (by kernel_rfl) ?hQq0 (Or.inl ⟨?hwq0, ?hyq0⟩) hS ?hrq0
          case hiq0 => simp only [List.getElem?_toArray, List.getElem?_cons_zero]; rfl
          case hQq0 => exact only_panic
          case hwq0 => rfl
          case hyq0 => (intro w hSw; (try dsimp only at hSw); go_simp; (try with_reducible rfl))
          simp only [Act.put, List.setIfInBounds_toArray, List.set_cons_zero, List.set_cons_succ]
          refine SweepTo.take (m := 5) (i := 1) (oi := ?dqq1) (v := ?dvq1) (fun _ => trivial) rfl rfl (by kernel_rfl) (by kernel_rfl) ?hiq1 (by kernel_rfl) (by kernel_rfl) (by kernel_rfl) ?hQq1 (Or.inl ⟨?hwq1, ?hyq1⟩) hS ?hrq1
          case hiq1 => simp only [List.getElem?_toArray, List.getElem?_cons_succ, List.getElem?_cons_zero]; rfl
          case hQq1 => exact only_panic
          case hwq1 => rfl
          case hyq1 => (intro w hSw; (try dsimp only at hSw); go_simp; (try with_reducible rfl))
          simp only [Act.put, List.setIfInBounds_toArray, List.set_cons_zero, List.set_cons_succ]
          refine SweepTo.take (m := 5) (i := 2) (oi := ?dqq2) (v := ?dvq2) (fun _ => trivial) rfl rfl (by kernel_rfl) (by kernel_rfl) ?hiq2 (by kernel_rfl) (by kernel_rfl) (by kernel_rfl) ?hQq2 (Or.inl ⟨?hwq2, ?hyq2⟩) hS ?hrq2
          case hiq2 => simp only [List.getElem?_toArray, List.getElem?_cons_succ, List.getElem?_cons_zero]; rfl
          case hQq2 => exact only_panic
          case hwq2 => rfl
          case hyq2 => (intro w hSw; (try dsimp only at hSw); go_simp; (try with_reducible rfl))
          simp only [Act.put, List.setIfInBounds_toArray, List.set_cons_zero, List.set_cons_succ]
          refine SweepTo.take (m := 5) (i := 3) (oi := ?dqq3) (v := ?dvq3) (fun _ => trivial) rfl rfl (by kernel_rfl) (by kernel_rfl) ?hiq3 (by kernel_rfl) (by kernel_rfl) (by kernel_rfl) ?hQq3 (Or.inl ⟨?hwq3, ?hyq3⟩) hS ?hrq3
          case hiq3 => simp only [List.getElem?_toArray, List.getElem?_cons_succ, List.getElem?_cons_zero]; rfl
          case hQq3 => exact only_panic
          case hwq3 => rfl
          case hyq3 => (intro w hSw; (try dsimp only at hSw); go_simp; (try with_reducible rfl))
          simp only [Act.put, List.setIfInBounds_toArray, List.set_cons_zero, List.set_cons_succ]
          refine SweepTo.ready (rs := [4]) (by kernel_rfl) (by simp) (ToReady.cons (o := ?dqq4) ?hiq4 rfl (fun K hK => ?ccq4) ToReady.nil)
          case hiq4 => simp only [List.getElem?_toArray, List.getElem?_cons_succ, List.getElem?_cons_zero]; rfl
          case ccq4 =>
            go_simp
            refine ⟨trivial, rfl, ?_⟩
            refine (callsIn_wide.2 (below_any fN hd'.out.eN (some a) (T.side d).ptr kc (by have := kf.out; omega) _ (fun V hb => hTp.out ▸ hd'.out.cN V B T ((lc'.out.next hN'.out hS.2.2.2.2.rn.below).next hN'.out (hb.mono (Nat.le_trans hBB hS.2.2.2.2.sz)))))).mono ?_
            rintro e u4 ⟨rfl, hb⟩
            have h4 := hS.2.2.2.2.below hJ'.out hBB hb
            have hS2 := And.intro h4.env.tl.cell (And.intro (h4.sb.cell 0) (And.intro (h4.sb.cell 1) (And.intro (h4.env.wy.cell 0) h4)))
            clear hS hb h4
            refine hK.out _ _ hS2 (fun hS => ?_)
            clear hS2 hK K
            try simp only [Act.put, List.setIfInBounds_toArray, List.set_cons_zero, List.set_cons_succ]
            refine SweepTo.ready (rs := [5]) (by kernel_rfl) (by simp) (ToReady.cut (o := ?dqq5) ?hiq5 (fun K hK => ?ccq5))
            case hiq5 => simp only [List.getElem?_toArray, List.getElem?_cons_succ, List.getElem?_cons_zero]; rfl
            case ccq5 =>
              go_simp
              have h4 := Lib.hid hS.2.2.2.2
              clear hS
              have hp4 : pc ++ AT.spots d (kc + 1) (T.side d) <+: ps := by
                obtain ⟨r, hr⟩ := hpre'.out
                have h9 := h4.out.eq
                rw [hsp.out] at h9
                refine ⟨⟨a, x, kc⟩ :: AT.spots d (kc + 1) (T.side (!d)) ++ rest d us ++ r, ?_⟩
                rw [← hr, ← h9]
                simp [List.append_assoc]
              refine ⟨trivial, rfl, ?_⟩
              refine (ih'.out (T.side d).size hNN.out (T.side d) (kc + 1) (n0 + us.length) pc (.slice A1 (n0 + us.length) c1) (xs0 ++ flatF us.reverse) u4 (Nat.le_refl _) fn.out hnD2.out h4.out.sz ((lc'.out.next hN'.out h4.out.rn.below).side d) h4.out.env h4.out.bo h4.out.ow h4.out.j hp4).mono ?_
              clear hp4
              rintro e u5 (⟨rfl, hj, v5, hb, ho, hr⟩ | ⟨rfl, q, hq, hx⟩)
              · have h44 := h4.out
                rw [hsp.out] at h44
                have h5 := Lib.hid (At.near h44 hj hb ho hr hOS)
                clear hj hb ho hr h44 h4
                refine hK.out _ _ ?_
                clear hK K
                refine Sweep.any (S := fun _ => True) _ _ _ _ ?_
                try simp only [Act.put, List.setIfInBounds_toArray, List.set_cons_zero, List.set_cons_succ]
                have hS : (fun _ : World => True) u5 := trivial
                refine Sweep.take (i := 6) (oi := ?dqqy6) (v := ?dvqy6) (fun _ => trivial) rfl ?hiqy6 (by kernel_rfl) (by kernel_rfl) (by kernel_rfl) ?hQqy6 (Or.inl ⟨?hwqy6, ?hyqy6⟩) hS ?hrqy6
                case hiqy6 => simp only [List.getElem?_toArray, List.getElem?_cons_succ, List.getElem?_cons_zero]; rfl
                case hQqy6 => exact only_panic
                case hwqy6 => rfl
                case hyqy6 => (intro w hSw; (try dsimp only at hSw); go_simp; (try with_reducible rfl))
                simp only [Act.put, List.setIfInBounds_toArray, List.set_cons_zero, List.set_cons_succ]
                refine Sweep.done (by kernel_rfl) ?_ _
                dsimp only [OnlyNormal]
                have cYT := h5.out.env.yl.cell
                have s0T := h5.out.sb.cell 0
                have s1T := h5.out.sb.cell 1
                have hpxT : Hid (pc ++ AT.spots d (kc + 1) (T.side d) ++ [⟨a, x, kc⟩] <+: ps) := by
                  obtain ⟨r, hr⟩ := hpre'.out
                  refine ⟨AT.spots d (kc + 1) (T.side (!d)) ++ rest d us ++ r, ?_⟩
                  rw [← hr, ← h5.out.eq]
                  simp [List.append_assoc]
                obtain ⟨fnT, tmT, asT, bdT, hyT, hR⟩ := round_any (m' := 0) (hY'.out (pc ++ AT.spots d (kc + 1) (T.side d)) ⟨a, x, kc⟩ u5 h5.out.j hpxT.out)
                have hRT := Lib.hid hR
                clear hR
                simp only [encS] at hyT
                gi_wp2
                refine ⟨rfl, ?_⟩
                refine hRT.out.mono ?_
                clear hRT hyT cYT s0T s1T
                rintro e wyT (⟨rfl, hj, hk⟩ | ⟨rfl, hx⟩)
                · have hwT := Lib.hid (h5.out.yielded hj hk)
                  clear hj hk
                  have t0T := hwT.out.sb.cell 0
                  have t1T := hwT.out.sb.cell 1
                  have z0T := hwT.out.env.wy.cell 0
                  have z1T := hwT.out.env.wy.cell 1
                  have lwT := lc'.out.next hN'.out hwT.out.rn.below
                  have cBT := Lib.hid (below_any fF hd'.out.eF (some (a)) ((T).side (!d)).ptr (kc) (by have := kf.out; omega) wyT (fun V hb => hTp.out ▸ hd'.out.cF V B (T) (lwT.next hN'.out (hb.mono (Nat.le_trans hBB hwT.out.sz)))))
                  clear lwT
                  gi_wp2_with fail
                  refine ⟨trivial, rfl, ?_⟩
                  refine (callsIn_wide.2 cBT.out).mono ?_
                  clear cBT t0T t1T z0T z1T
                  rintro e wzT ⟨rfl, hb⟩
                  have hzT := Lib.hid (hwT.out.below hJ'.out hBB hb)
                  clear hb
                  have t0T := hzT.out.sb.cell 0
                  have t1T := hzT.out.sb.cell 1
                  have g0T := hzT.out.sb.free 0
                  have g1T := hzT.out.sb.free 1
                  gi_wp2
                  clear t0T t1T g0T g1T
                  have hqT := Lib.hid (hzT.out.store hJ'.out hBB hSS hB'S ((T).side (!d)).ptr (kc + 1))
                  have hmT := Lib.hid (hmu'.out _ _ ⟨_, _, _, _, _, rfl, lc'.out.side (!d), ff.out, ud'.out, hqT.out⟩)
                  go_roundw
                  case rel => exact ⟨_, (hmT.out).1⟩
                  case measure =>
                    have := hmT.out.2
                    rw [em'.out]
                    exact Nat.lt_of_le_of_lt this mf.out
                · have hxT := Lib.hid hx
                  clear hx
                  gi_wp2
                  go_ret
                  exact .inr ⟨rfl, _, hpxT.out, hxT.out⟩
              · have hq5 := Lib.hid hq
                have hx5 := Lib.hid hx
                clear hq hx h4
                refine hK.out _ _ ?_
                clear hK K
                refine Sweep.any (S := fun _ => True) _ _ _ _ ?_
                try simp only [Act.put, List.setIfInBounds_toArray, List.set_cons_zero, List.set_cons_succ]
                have hS : (fun _ : World => True) u5 := trivial
                refine Sweep.take (i := 6) (oi := ?dqqn6) (v := ?dvqn6) (fun _ => trivial) rfl ?hiqn6 (by kernel_rfl) (by kernel_rfl) (by kernel_rfl) ?hQqn6 (Or.inl ⟨?hwqn6, ?hyqn6⟩) hS ?hrqn6
                case hiqn6 => simp only [List.getElem?_toArray, List.getElem?_cons_succ, List.getElem?_cons_zero]; rfl
                case hQqn6 => exact only_panic
                case hwqn6 => rfl
                case hyqn6 => (intro w hSw; (try dsimp only at hSw); go_simp; (try with_reducible rfl))
                simp only [Act.put, List.setIfInBounds_toArray, List.set_cons_zero, List.set_cons_succ]
                refine Sweep.done (by kernel_rfl) ?_ _
                dsimp only [OnlyNormal]
                gi_wp2
                go_ret
                exact .inr ⟨rfl, _, hq5.out, hx5.out⟩
end Go.Proofs.Ytadncdcblckpjaa
