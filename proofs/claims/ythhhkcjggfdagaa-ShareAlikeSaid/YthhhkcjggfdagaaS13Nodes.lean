/- Layer 13, as landed: what goes over the nodes of trees, as far as one goes on. -/
import Derived.Test.YthhhkcjggfdagaaS13At
import Derived.Test.YthhhkcjggfdagaaGHeldIn
import Derived.Test.YthhhkcjggfdagaaGRound
import Derived.Test.YthhhkcjggfdagaaL9Rules
import Derived.Deep.Cut
import Derived.Deep.LoopGhost
namespace Go.Proofs.Ythhhkcjggfdagaa
open Go.RowKit Go.Shelf Go.Proofs.Treem Go.Proofs.Cardm
attribute [local go_sem] Oper.semAt_some
set_option maxRecDepth 100000
variable {Nd : NdP}

theorem info_ptr13 : (Try.prog.info? 25).map (fun i => (i.zero, i.size, i.bytes)) = some (some (.pointer none), 1, 8) := by kernel_rfl
theorem size_ptr13 (W : World) : (sizeOf 25).run Try.prog W = .ok 1 W := by kernel_rfl
theorem cell_same {W W' : World} {a : Addr} (h : W'.heap[a.block]? = W.heap[a.block]?) : W'.cell? a = W.cell? a := by
  simp [World.cell?, h]
section
variable {σ : Type} {w0 : World} {F : FuncId} {cap : Array Value} {B : Nat} {mine free : TypeId → Bool} {U : AT → Prop} {step : σ → Option Addr → Bool × σ} {pot : σ → Nat} {Env : σ → (Nat → Prop) → World → Prop}
set_option maxHeartbeats 16000000 in
theorem nodes13_from (hN : NodeSays Nd) (w : World) (hG : GoesOn Nd w0 F cap B w.heap.size mine free U step pot Env) (hn1 : free 55 = false) (hn2 : free 25 = false) (hm : mine 25 = true) (fT : free 30 = false) (fG : free 48 = false)
    (hU : ∀ a x l r, U (.n a x l r) → U l ∧ U r) (hlies : ∀ T, U T → T.lies Nd w0 w0.heap.size) (os : List AT) (ho : ∀ T ∈ os, U T) (gT gG : Nat) (A : Option Addr) (n c : Nat) (hl : os.length = n) (hn : n ≤ 2000) (hB : B ≤ w.heap.size)
    (s0 : σ) (Ft0 : Nat → Prop) (he : Env s0 Ft0 w) (hp : pot s0 ≤ 5000) (hnk : NK w0 w) (hT : Boxed w gT 30 (.slice A n c)) (hg : Boxed w gG 48 (.func (.func F) #[] cap)) (hnT : ¬ Ft0 gT) (hnG : ¬ Ft0 gG)
    (hA : ∀ (k : Nat) (T : AT), os[k]? = some T → ∃ ad, A = some ad ∧ ¬ Ft0 ad.block ∧ (∃ cs t fr, w.heap[ad.block]? = some (.cells cs t fr) ∧ free t = false) ∧ w.cell? (ad.add k) = some (.pointer T.ptr)) (m : Nat) :
    SeqFrom B mine Fence.wide m Try.prog 29 #[.pointer (some ⟨gT, 0, none⟩), .pointer (some ⟨gG, 0, none⟩)] (fun y => #[y]) (Kf free 0) (fun pre y _ => pre ++ [y] <+: valsT (goL step os s0).1) (fun xs W => xs = valsT (goL step os s0).1 ∧ ∃ Ft, Env (goL step os s0).2 Ft W) w := fun l J Jx W hbW hJ hJx hY hJ0 => by
  obtain ⟨i0, hin, hz0, hz1, hz2⟩ := info_parts info_ptr13
  obtain ⟨tot, hTot⟩ : ∃ t, (goL step os s0).1 = t := ⟨_, rfl⟩
  obtain ⟨fin, hFin⟩ : ∃ t, (goL step os s0).2 = t := ⟨_, rfl⟩
  rw [hTot, hFin]
  have hY1 : ∀ pre x W1, J pre W1 → pre ++ [x] <+: valsT tot → YieldAt Fence.wide (m - 1) Try.prog l #[x] W1 fun e W' => ((e = .returned (.bool true) ∧ J (pre ++ [x]) W' ∧ Kf free 0 W1 W') ∨ (e = .returned (.bool false) ∧ Jx (pre ++ [x]) W')) ∧ KeepsF B w.heap.size W.heap.size W1 W' := fun pre x W1 h1 h2 => hY pre x W1 h1 (by rw [hTot]; exact h2)
  clear hY hJx
  obtain ⟨C, hC⟩ : ∃ c, w.heap.size = c := ⟨_, rfl⟩
  obtain ⟨D, hD⟩ : ∃ d, W.heap.size = d := ⟨_, rfl⟩
  have hCD : C ≤ D := hC ▸ hD ▸ hbW.size
  have xT : W.cell? ⟨gT, 0, none⟩ = some (.slice A n c) := keep_cell hbW hT.cell
  have xG : W.cell? ⟨gG, 0, none⟩ = some (.func (.func F) #[] cap) := keep_cell hbW hg.cell
  have henter : ∀ (args : Array Value) (V : World), (callFunc F args).run Try.prog V = .ok (.enter F args) V := hG.enters
  obtain ⟨X, hXd⟩ : ∃ X : Nat → Prop, X = fun k => k = gT ∨ k = gG ∨ ∃ ad, A = some ad ∧ 0 < n ∧ k = ad.block := ⟨_, rfl⟩
  have hX : ∀ k, X k → k < D ∧ ∃ cs t fr, W.heap[k]? = some (.cells cs t fr) ∧ free t = false := fun k hk => by
    have up : ∀ k cs t fr, w.heap[k]? = some (.cells cs t fr) → free t = false → k < D ∧ ∃ cs t fr, W.heap[k]? = some (.cells cs t fr) ∧ free t = false := fun k cs t fr h hf => by
      have hlt := (Array.getElem?_eq_some_iff.1 h).1
      exact ⟨by omega, cs, t, fr, (hbW.block k hlt).trans h, hf⟩
    rw [hXd] at hk
    rcases hk with rfl | rfl | ⟨ad, hAd, hn0, rfl⟩
    · exact up _ _ _ _ hT fT
    · exact up _ _ _ _ hg fG
    · obtain ⟨T, hT0⟩ : ∃ T, os[0]? = some T := ⟨_, List.getElem?_eq_getElem (by omega)⟩
      obtain ⟨ad', e, _, ⟨cs, t, fr, hc, hf⟩, _⟩ := hA 0 T hT0
      rw [hAd] at e
      cases e
      exact up _ _ _ _ hc hf
  have hXf : ∀ k, X k → ¬ Ft0 k := fun k hk => by
    rw [hXd] at hk
    rcases hk with rfl | rfl | ⟨ad, hAd, hn0, rfl⟩
    · exact hnT
    · exact hnG
    · obtain ⟨T, hT0⟩ : ∃ T, os[0]? = some T := ⟨_, List.getElem?_eq_getElem (by omega)⟩
      obtain ⟨ad', e, hf, _, _⟩ := hA 0 T hT0
      rw [hAd] at e
      cases e
      exact hf
  have hXG : X gG := by rw [hXd]; exact .inr (.inl rfl)
  have hA1 : ∀ (k : Nat) (T : AT), os[k]? = some T → ∃ ad, A = some ad ∧ X ad.block ∧ W.cell? (ad.add k) = some (.pointer T.ptr) := fun k T hk => by
    obtain ⟨ad, e, _, _, hc⟩ := hA k T hk
    exact ⟨ad, e, by rw [hXd]; exact .inr (.inr ⟨ad, e, by have := (List.getElem?_eq_some_iff.1 hk).1; omega, rfl⟩), keep_cell hbW hc⟩
  have hXD : ∀ k, X k → k < D := fun k hk => (hX k hk).1
  rw [hC] at hG hB hJ hY1
  rw [hD] at hJ hY1
  have h0 : AtP w0 W C D U step pot Env X J tot fin s0 Ft0 [] os [] [] W :=
    ⟨hnk.trans (.of_below hbW), hG.below he hbW, fun k hk => .inl (by have := hG.lt he hk; omega), hXf, fun k _ => rfl, (fun u hu => by cases hu), ho, hJ0, by omega, by simp [hTot], by simpa using hFin, by simp; omega⟩
  have H0 := Lib.hid h0
  have hN' := Lib.hid hN
  have hG' := Lib.hid hG
  have hJ' := Lib.hid hJ
  have hY' := Lib.hid hY1
  have hX' := Lib.hid hX
  have hXD' := Lib.hid hXD
  have hXG' := Lib.hid hXG
  have hA' := Lib.hid hA1
  have hU' := Lib.hid hU
  have hlies' := Lib.hid hlies
  have hl' := Lib.hid hl
  have hbd : Hid (B ≤ D) := by show B ≤ D; omega
  have hxG' := Lib.hid xG
  clear hN hG hJ hY1 hX hXD hXG hA1 hU hlies hl h0 hXf hXd hTot hFin hD hC hCD he hp hnk hT hg hnT hnG hA hbW hJ0 ho hB xG
  refine callsIn_of_wp Try.func29 rfl trivial ?_ rfl
  simp only [Try.ntmps29, List.size_toArray, List.length_cons, List.length_nil, Nat.reduceAdd, Nat.reduceSub, Array.replicate_succ, Array.replicate_zero, List.push_toArray, List.append_toArray, List.nil_append, List.cons_append]
  refine wpIn_wide.2 ?_
  go_wp2_with fail
  clear xT
  go_loopg [11] n (fun k iv wr => ∃ (i : Nat) (s : σ) (Ft : Nat → Prop) (pre : List Value), iv = .int .i64 (i : Int) ∧ k + i = n ∧ AtP w0 W C D U step pot Env X J tot fin s Ft [] (os.drop i) pre [] wr)
  case atStart => exact ⟨0, s0, Ft0, [], rfl, rfl, H0.out⟩
  case round =>
    clear H0
    obtain ⟨i, s, Ft, pre, rfl, hk, hAt⟩ := hrel
    by_cases hlt : i < n
    · obtain ⟨T, hT⟩ : ∃ T, os[i]? = some T := ⟨_, List.getElem?_eq_getElem (by have := hl'.out; omega)⟩
      obtain ⟨ad, rfl, hXa, hca⟩ := hA'.out i T hT
      have hdrop : os.drop i = T :: os.drop (i + 1) := by
        obtain ⟨h1, h2⟩ := List.getElem?_eq_some_iff.1 hT
        rw [List.drop_eq_getElem_cons h1, h2]
      rw [hdrop] at hAt
      have xa : wr.cell? (ad.add i) = some (.pointer T.ptr) := (cell_same (by rw [add_block]; exact hAt.fx _ hXa)).trans hca
      have d0 : decide ((i : Int) < (n : Int)) = true := decide_eq_true (by omega)
      have e0 : wrap64 ((i : Int) + 1) = ((i + 1 : Nat) : Int) := by unfold wrap64; omega
      obtain ⟨gS, hgS⟩ : ∃ g, wr.heap.size = g := ⟨_, rfl⟩
      obtain ⟨Wa, hWa⟩ : ∃ V, wr.alloc (.cells #[.pointer T.ptr] 25) = V := ⟨_, rfl⟩
      have hO0 : OpP Ft D [T] (.slice (some ⟨gS, 0, none⟩) 1 1) Wa := hgS ▸ hWa ▸ OpP.fresh hG'.out hAt.env T hAt.sz
      have hA0 : AtP w0 W C D U step pot Env X J tot fin s Ft [T] (os.drop (i + 1)) pre [] Wa := hAt.begin.below hG'.out hJ'.out hXD'.out (hWa ▸ (Below.refl _ wr).alloc (Nat.le_refl _) _)
      have HO := Lib.hid hO0
      have HA := Lib.hid hA0
      have HS := Lib.hid hgS
      have HW := Lib.hid hWa
      have HK := Lib.hid hk
      clear hO0 hA0 hgS hWa hAt hdrop hT hca hXa hk
      go_wp2_with fail
      rw [HW.out, HS.out]
      clear xa
      go_loopg [6] (2 * pot s + 1) (fun k v wx => ∃ (s : σ) (Ft : Nat → Prop) (us : List AT) (pre : List Value), k = 2 * pot s + us.length ∧ OpP Ft D us v wx ∧ AtP w0 W C D U step pot Env X J tot fin s Ft us (os.drop (i + 1)) pre [] wx)
      case atStart => exact ⟨s, Ft, [T], pre, rfl, HO.out, HA.out⟩
      case round =>
        clear HO HA HS HW
        obtain ⟨s, Ft, us, pre, hk2, hOp, hAt⟩ := hrel
        obtain ⟨Av, cv, rfl, hcn, -, -⟩ := own_slice hOp.ow
        cases us with
        | nil =>
          have HA := Lib.hid hAt
          clear hOp hAt hcn hk2
          go_wp2_with fail
          go_roundg (n - (i + 1))
          case measure => have := HK.out; omega
          case rel => exact ⟨i + 1, s, Ft, pre, rfl, by omega, HA.out⟩
        | cons T1 us =>
          obtain ⟨mm, hmm⟩ : ∃ q, us.length = q := ⟨_, rfl⟩
          obtain ⟨nn, hnn⟩ : ∃ q, mm + 1 = q := ⟨_, rfl⟩
          have hpot := hAt.pot
          rw [List.length_cons, hmm] at hpot
          have d5 : mm ≤ 10001 := by omega
          obtain ⟨ao, rfl, g0⟩ := hOp.top hmm
          rw [List.length_cons, hmm, hnn] at hcn hk2 ⊢
          have hOp1 : OpP Ft D (T1 :: us) (.slice (some ao) nn cv) wr := by
            have := hOp
            rw [List.length_cons, hmm, hnn] at this
            exact this
          have HO := Lib.hid (hOp1.pop hmm hnn)
          clear hOp hOp1
          have e1 : wrap64 ((nn : Int) - 1) = (mm : Int) := by unfold wrap64; omega
          have d1 : decide ((0 : Int) < (nn : Int)) = true := decide_eq_true (by omega)
          have d2 : 0 < nn := by omega
          have hix : mm < nn := by omega
          have ct : ∀ V, (Instr.slice 30 (.slice (some ao) nn cv) none (some (.int .i64 (mm : Int))) none).run Try.prog V = .ok (.slice (some ao) mm cv) V := cut_to Try.underlying30 size_ptr13 (some ao) nn cv mm _ rfl (by omega)
          have hnn' := Lib.hid hnn
          have hmm' := Lib.hid hmm
          have hk' := Lib.hid hk2
          have hpot' := Lib.hid hpot
          clear hcn hnn hmm hk2 hpot
          cases T1 with
          | e =>
            have g1 : wr.cell? (ao.add mm) = some (.pointer none) := g0
            clear g0
            have HA := Lib.hid hAt.none_
            clear hAt
            go_wp2_with fail
            go_roundg (2 * pot s + mm)
            case measure => have h1 := hk'.out; have h2 := hnn'.out; omega
            case rel => exact ⟨s, Ft, us, pre, by rw [hmm'.out], HO.out, HA.out⟩
          | n a x lt rt =>
            have g1 : wr.cell? (ao.add mm) = some (.pointer (some a)) := g0
            clear g0
            obtain ⟨hNd, hxl, hxr, -, -⟩ := hlies'.out _ (hAt.ls _ (List.mem_cons_self ..))
            have xg : wr.cell? ⟨gG, 0, none⟩ = some (.func (.func F) #[] cap) := (cell_same (hAt.fx _ hXG'.out)).trans hxG'.out
            have hless := hG'.out.less s Ft wr a x lt rt hAt.env (hAt.ls _ (List.mem_cons_self ..))
            have hcall := hG'.out.calls s Ft wr a x lt rt hAt.env (hAt.ls _ (List.mem_cons_self ..)) hAt.nk
            have hno := fun (h : (step s (some a)).1 = false) (Ft' : Nat → Prop) (w' : World) (he : Env (step s (some a)).2 Ft' w') (hk : Keep Ft wr w') (hf : ∀ k, Ft' k → Ft k ∨ wr.heap.size ≤ k) => hAt.no hG'.out hJ'.out hXD'.out h he hk hf
            have hyes := fun (h : (step s (some a)).1 = true) (Ft' : Nat → Prop) (w' : World) (he : Env (step s (some a)).2 Ft' w') (hk : Keep Ft wr w') (hf : ∀ k, Ft' k → Ft k ∨ wr.heap.size ≤ k) => hAt.yes hG'.out hJ'.out hXD'.out hU'.out h he hk hf
            obtain ⟨b, hb⟩ : ∃ b, (step s (some a)).1 = b := ⟨_, rfl⟩
            obtain ⟨s1, hs1⟩ : ∃ s1, (step s (some a)).2 = s1 := ⟨_, rfl⟩
            rw [hb, hs1] at hcall hno hyes hless
            have hc := Lib.hid hcall
            have hno' := Lib.hid hno
            have hyes' := Lib.hid hyes
            have hless' := Lib.hid hless
            have hNd' := Lib.hid hNd
            have hxl' := Lib.hid hxl
            have hxr' := Lib.hid hxr
            clear hAt hcall hno hyes hless hNd hxl hxr hb hs1
            cases b with
            | false =>
              go_wp2_with fail
              refine hc.out.mono ?_
              rintro e w2 ⟨rfl, Ft2, he2, hk2, hf2⟩
              have HA := Lib.hid (hno'.out trivial Ft2 w2 he2 hk2 hf2)
              have HO2 := Lib.hid (HO.out.asked hk2 hf2)
              clear he2 hk2 hf2 hc
              go_wp2_with fail
              go_roundg (2 * pot s1 + mm)
              case measure => have h1 := hk'.out; have h2 := hnn'.out; have h3 := hless'.out.2; omega
              case rel => exact ⟨s1, Ft2, us, pre, by rw [hmm'.out], HO2.out, HA.out⟩
            | true =>
              go_wp2_with fail
              refine hc.out.mono ?_
              rintro e w2 ⟨rfl, Ft2, he2, hk2, hf2⟩
              have HA := Lib.hid (hyes'.out trivial Ft2 w2 he2 hk2 hf2)
              have HO2 := Lib.hid (HO.out.asked hk2 hf2)
              obtain ⟨fnY, tmY, asY, bdY, hyv, hR⟩ := round_any (m' := 0) (hY'.out pre _ w2 HA.out.j HA.out.told)
              have hR' := Lib.hid hR
              clear he2 hk2 hf2 hc hR
              go_upto_region 9 with (fail)
              refine (wpIn_wide (n := 0)).1 ?_
              gi_wp2
              refine ⟨rfl, ?_⟩
              refine hR'.out.mono ?_
              clear hR' hyv g1 xg
              rintro e wy ⟨⟨rfl, hj, hk⟩ | ⟨rfl, hx⟩, hf⟩
              · have HY := Lib.hid (HA.out.yielded hG'.out hn1 hX'.out hj hk hf)
                have HO3 := Lib.hid (HO2.out.yielded hk hn2)
                have cR : Hid (Calls Try.prog 30 #[.pointer (some a)] wy fun e w' => e = .returned (.pointer rt.ptr) ∧ wy = w') := hxr'.out ▸ hN'.out.right wy w0.heap.size a _ (HY.out.nk.node hN'.out hNd'.out)
                have cL : Hid (Calls Try.prog 31 #[.pointer (some a)] wy fun e w' => e = .returned (.pointer lt.ptr) ∧ wy = w') := hxl'.out ▸ hN'.out.left wy w0.heap.size a _ (HY.out.nk.node hN'.out hNd'.out)
                have hsl : wy.ownsRow D 25 1 (.slice (some ao) mm cv) mm (valsT us.reverse) := hmm'.out ▸ HO3.out.ow
                have hby : D ≤ wy.heap.size := HY.out.sz
                clear hj hk hf
                gi_wp2
                go_wp2_with fail
                refine cR.out.mono ?_
                rintro e w' ⟨rfl, rfl⟩
                go_wp2_with fail
                refine cL.out.mono ?_
                rintro e w' ⟨rfl, rfl⟩
                go_wp2_with (
                  (at_builtin
                   refine wpList_append_where rfl _ _ 30 rfl D 25 i0 (.pointer none) 1 8 Try.underlying30 hin hz0 hz1 hz2 rfl (by decide) (.slice (some ao) mm cv) mm (valsT us.reverse) rfl (hsl.alloc _) ⟨wy.heap.size, 0, none⟩ 2 2 [.pointer rt.ptr, .pointer lt.ptr] rfl rfl (fun j u hu => ((Has.new wy 25 #[.pointer rt.ptr, .pointer lt.ptr]).row.at_ hu).2) (by simp [Value.oneCell']) (by unfold maxLen; omega) (by omega) (by simp; omega) ?_
                   intro v2 w4 hown' hgrow hwhere
                   obtain ⟨g', cap', rfl⟩ := ownsRow_succ hown'
                   have HA9 := Lib.hid (AtP.grown hG'.out hJ'.out hXD'.out hm hbd.out (HY.out.below hG'.out hJ'.out hXD'.out ((Below.refl _ wy).alloc (Nat.le_refl _) (.cells #[.pointer rt.ptr, .pointer lt.ptr] 25))) (hsl.alloc _) (by rw [← hmm'.out]; exact fun r e => HO3.out.nft r e) hgrow)
                   have HO9 := Lib.hid (HO3.out.push (l := lt) (r := rt) hG'.out HY.out.env (by rw [hmm'.out]; exact hown') hwhere)))
                go_roundg (2 * pot s1 + (lt :: rt :: us).length)
                case measure => have h1 := hk'.out; have h2 := hnn'.out; have h3 := hless'.out.1 (by trivial); have h4 := hmm'.out; simp only [List.length_cons]; omega
                case rel => exact ⟨s1, Ft2, _, _, rfl, by first | exact HO9.out | (have := HO9.out; simpa [hmm'.out] using this), HA9.out⟩
              · have hx' := Lib.hid hx
                clear hx
                gi_wp2
                go_wp2_with fail
                exact bodyPost_ret (results_none rfl _ _ _) rfl ⟨⟨_, rfl⟩, .inr ⟨_, hx'.out⟩⟩
    · have d0 : decide ((i : Int) < (n : Int)) = false := decide_eq_false (by omega)
      have hi : os.drop i = [] := List.drop_eq_nil_of_le (by have := hl'.out; omega)
      rw [hi] at hAt
      have h1 := hAt.all
      have h2 := hAt.fin
      simp only [goL, List.map_nil, List.append_nil] at h1 h2
      have hend : Hid (pre = valsT tot ∧ Env fin Ft wr ∧ J pre wr) := ⟨h1, h2 ▸ hAt.env, hAt.j⟩
      clear hAt h1 h2 hk
      go_wp2_with fail
      go_end0
      exact ⟨⟨_, rfl⟩, .inl ⟨pre, ⟨hend.out.1, Ft, hend.out.2.1⟩, hend.out.2.2⟩⟩
end
end Go.Proofs.Ythhhkcjggfdagaa
