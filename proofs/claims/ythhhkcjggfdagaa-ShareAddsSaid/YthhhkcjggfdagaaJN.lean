/- Layer 13, as landed: In. -/
import Derived.Test.YthhhkcjggfdagaaJS
import Derived.Test.YthhhkcjggfdagaaGHeldIn
import Derived.Test.YthhhkcjggfdagaaGRound
import Derived.Test.YthhhkcjggfdagaaL9Rules
import Derived.Deep.Cut
import Derived.Deep.LoopGhost
import Derived.Test.YthhhkcjggfdagaaL13Says
/- Layer 13, as landed: what goes over the nodes of trees, as far as one goes on. -/
namespace Go.Proofs.Ythhhkcjggfdagaa
open Go.RowKit Go.Shelf Go.Proofs.Treem Go.Proofs.Cardm
attribute [local go_sem] Oper.semAt_some
set_option maxRecDepth 100000
variable {Nd : NdP}

theorem info_ptr13 : (Try.prog.info? 25).map (fun i => (i.zero, i.size, i.bytes)) = some (some (.pointer none), 1, 8) := by kernel_rfl
theorem size_ptr13 (W : World) : (sizeOf 25).run Try.prog W = .ok 1 W := by kernel_rfl
theorem cell_same {W W' : World} {a : Addr} (h : W'.heap[a.block]? = W.heap[a.block]?) : W'.cell? a = W.cell? a := by
  simp [World.cell?, h]
section
variable {σ : Type} {w0 : World} {F : FuncId} {cap : Array Value} {B : Nat} {mine free : TypeId → Bool} {U : AT → Prop} {step : σ → Option Addr → Bool × σ} {pot : σ → Nat} {Env : σ → (Nat → Prop) → World → Prop}
set_option maxHeartbeats 16000000 in
theorem nodes13_from (hN : NodeSays Nd) (w : World) (hG : GoesOn Nd w0 F cap B w.heap.size mine free U step pot Env) (hn1 : free 55 = false) (hn2 : free 25 = false) (hm : mine 25 = true) (fT : free 30 = false) (fG : free 48 = false)
    (hU : ∀ a x l r, U (.n a x l r) → U l ∧ U r) (hlies : ∀ T, U T → T.lies Nd w0 w0.heap.size) (os : List AT) (ho : ∀ T ∈ os, U T) (gT gG : Nat) (A : Option Addr) (n c : Nat) (hl : os.length = n) (hn : n ≤ 2000) (hB : B ≤ w.heap.size)
    (s0 : σ) (Ft0 : Nat → Prop) (he : Env s0 Ft0 w) (hp : pot s0 ≤ 5000) (hnk : NK w0 w) (hT : Boxed w gT 30 (.slice A n c)) (hg : Boxed w gG 48 (.func (.func F) #[] cap)) (hnT : ¬ Ft0 gT) (hnG : ¬ Ft0 gG)
    (hA : ∀ (k : Nat) (T : AT), os[k]? = some T → ∃ ad, A = some ad ∧ ¬ Ft0 ad.block ∧ (∃ cs t fr, w.heap[ad.block]? = some (.cells cs t fr) ∧ free t = false) ∧ w.cell? (ad.add k) = some (.pointer T.ptr)) (m : Nat) :
    SeqFrom B mine Fence.wide m Try.prog 29 #[.pointer (some ⟨gT, 0, none⟩), .pointer (some ⟨gG, 0, none⟩)] (fun y => #[y]) (Kf free 0) (fun pre y _ => pre ++ [y] <+: valsT (goL step os s0).1) (fun xs W => xs = valsT (goL step os s0).1 ∧ ∃ Ft, Env (goL step os s0).2 Ft W) w := fun l J Jx W hbW hJ hJx hY hJ0 => by
  obtain ⟨i0, hin, hz0, hz1, hz2⟩ := info_parts info_ptr13
  obtain ⟨tot, hTot⟩ : ∃ t, (goL step os s0).1 = t := ⟨_, rfl⟩
  obtain ⟨fin, hFin⟩ : ∃ t, (goL step os s0).2 = t := ⟨_, rfl⟩
  rw [hTot, hFin]
  have hY1 : ∀ pre x W1, J pre W1 → pre ++ [x] <+: valsT tot → YieldAt Fence.wide (m - 1) Try.prog l #[x] W1 fun e W' => ((e = .returned (.bool true) ∧ J (pre ++ [x]) W' ∧ Kf free 0 W1 W') ∨ (e = .returned (.bool false) ∧ Jx (pre ++ [x]) W')) ∧ KeepsF B w.heap.size W.heap.size W1 W' := fun pre x W1 h1 h2 => hY pre x W1 h1 (by rw [hTot]; exact h2)
  clear hY hJx
  obtain ⟨C, hC⟩ : ∃ c, w.heap.size = c := ⟨_, rfl⟩
  obtain ⟨D, hD⟩ : ∃ d, W.heap.size = d := ⟨_, rfl⟩
  have hCD : C ≤ D := hC ▸ hD ▸ hbW.size
  have xT : W.cell? ⟨gT, 0, none⟩ = some (.slice A n c) := keep_cell hbW hT.cell
  have xG : W.cell? ⟨gG, 0, none⟩ = some (.func (.func F) #[] cap) := keep_cell hbW hg.cell
  have henter : ∀ (args : Array Value) (V : World), (callFunc F args).run Try.prog V = .ok (.enter F args) V := hG.enters
  obtain ⟨X, hXd⟩ : ∃ X : Nat → Prop, X = fun k => k = gT ∨ k = gG ∨ ∃ ad, A = some ad ∧ 0 < n ∧ k = ad.block := ⟨_, rfl⟩
  have hX : ∀ k, X k → k < D ∧ ∃ cs t fr, W.heap[k]? = some (.cells cs t fr) ∧ free t = false := fun k hk => by
    have up : ∀ k cs t fr, w.heap[k]? = some (.cells cs t fr) → free t = false → k < D ∧ ∃ cs t fr, W.heap[k]? = some (.cells cs t fr) ∧ free t = false := fun k cs t fr h hf => by
      have hlt := (Array.getElem?_eq_some_iff.1 h).1
      exact ⟨by omega, cs, t, fr, (hbW.block k hlt).trans h, hf⟩
    rw [hXd] at hk
    rcases hk with rfl | rfl | ⟨ad, hAd, hn0, rfl⟩
    · exact up _ _ _ _ hT fT
    · exact up _ _ _ _ hg fG
    · obtain ⟨T, hT0⟩ : ∃ T, os[0]? = some T := ⟨_, List.getElem?_eq_getElem (by omega)⟩
      obtain ⟨ad', e, _, ⟨cs, t, fr, hc, hf⟩, _⟩ := hA 0 T hT0
      rw [hAd] at e
      cases e
      exact up _ _ _ _ hc hf
  have hXf : ∀ k, X k → ¬ Ft0 k := fun k hk => by
    rw [hXd] at hk
    rcases hk with rfl | rfl | ⟨ad, hAd, hn0, rfl⟩
    · exact hnT
    · exact hnG
    · obtain ⟨T, hT0⟩ : ∃ T, os[0]? = some T := ⟨_, List.getElem?_eq_getElem (by omega)⟩
      obtain ⟨ad', e, hf, _, _⟩ := hA 0 T hT0
      rw [hAd] at e
      cases e
      exact hf
  have hXG : X gG := by rw [hXd]; exact .inr (.inl rfl)
  have hA1 : ∀ (k : Nat) (T : AT), os[k]? = some T → ∃ ad, A = some ad ∧ X ad.block ∧ W.cell? (ad.add k) = some (.pointer T.ptr) := fun k T hk => by
    obtain ⟨ad, e, _, _, hc⟩ := hA k T hk
    exact ⟨ad, e, by rw [hXd]; exact .inr (.inr ⟨ad, e, by have := (List.getElem?_eq_some_iff.1 hk).1; omega, rfl⟩), keep_cell hbW hc⟩
  have hXD : ∀ k, X k → k < D := fun k hk => (hX k hk).1
  rw [hC] at hG hB hJ hY1
  rw [hD] at hJ hY1
  have h0 : AtP w0 W C D U step pot Env X J tot fin s0 Ft0 [] os [] [] W :=
    ⟨hnk.trans (.of_below hbW), hG.below he hbW, fun k hk => .inl (by have := hG.lt he hk; omega), hXf, fun k _ => rfl, (fun u hu => by cases hu), ho, hJ0, by omega, by simp [hTot], by simpa using hFin, by simp; omega⟩
  have H0 := Lib.hid h0
  have hN' := Lib.hid hN
  have hG' := Lib.hid hG
  have hJ' := Lib.hid hJ
  have hY' := Lib.hid hY1
  have hX' := Lib.hid hX
  have hXD' := Lib.hid hXD
  have hXG' := Lib.hid hXG
  have hA' := Lib.hid hA1
  have hU' := Lib.hid hU
  have hlies' := Lib.hid hlies
  have hl' := Lib.hid hl
  have hbd : Hid (B ≤ D) := by show B ≤ D; omega
  have hxG' := Lib.hid xG
  clear hN hG hJ hY1 hX hXD hXG hA1 hU hlies hl h0 hXf hXd hTot hFin hD hC hCD he hp hnk hT hg hnT hnG hA hbW hJ0 ho hB xG
  refine callsIn_of_wp Try.func29 rfl trivial ?_ rfl
  simp only [Try.ntmps29, List.size_toArray, List.length_cons, List.length_nil, Nat.reduceAdd, Nat.reduceSub, Array.replicate_succ, Array.replicate_zero, List.push_toArray, List.append_toArray, List.nil_append, List.cons_append]
  refine wpIn_wide.2 ?_
  go_wp2_with fail
  clear xT
  go_loopg [11] n (fun k iv wr => ∃ (i : Nat) (s : σ) (Ft : Nat → Prop) (pre : List Value), iv = .int .i64 (i : Int) ∧ k + i = n ∧ AtP w0 W C D U step pot Env X J tot fin s Ft [] (os.drop i) pre [] wr)
  case atStart => exact ⟨0, s0, Ft0, [], rfl, rfl, H0.out⟩
  case round =>
    clear H0
    obtain ⟨i, s, Ft, pre, rfl, hk, hAt⟩ := hrel
    by_cases hlt : i < n
    · obtain ⟨T, hT⟩ : ∃ T, os[i]? = some T := ⟨_, List.getElem?_eq_getElem (by have := hl'.out; omega)⟩
      obtain ⟨ad, rfl, hXa, hca⟩ := hA'.out i T hT
      have hdrop : os.drop i = T :: os.drop (i + 1) := by
        obtain ⟨h1, h2⟩ := List.getElem?_eq_some_iff.1 hT
        rw [List.drop_eq_getElem_cons h1, h2]
      rw [hdrop] at hAt
      have xa : wr.cell? (ad.add i) = some (.pointer T.ptr) := (cell_same (by rw [add_block]; exact hAt.fx _ hXa)).trans hca
      have d0 : decide ((i : Int) < (n : Int)) = true := decide_eq_true (by omega)
      have e0 : wrap64 ((i : Int) + 1) = ((i + 1 : Nat) : Int) := by unfold wrap64; omega
      obtain ⟨gS, hgS⟩ : ∃ g, wr.heap.size = g := ⟨_, rfl⟩
      obtain ⟨Wa, hWa⟩ : ∃ V, wr.alloc (.cells #[.pointer T.ptr] 25) = V := ⟨_, rfl⟩
      have hO0 : OpP Ft D [T] (.slice (some ⟨gS, 0, none⟩) 1 1) Wa := hgS ▸ hWa ▸ OpP.fresh hG'.out hAt.env T hAt.sz
      have hA0 : AtP w0 W C D U step pot Env X J tot fin s Ft [T] (os.drop (i + 1)) pre [] Wa := hAt.begin.below hG'.out hJ'.out hXD'.out (hWa ▸ (Below.refl _ wr).alloc (Nat.le_refl _) _)
      have HO := Lib.hid hO0
      have HA := Lib.hid hA0
      have HS := Lib.hid hgS
      have HW := Lib.hid hWa
      have HK := Lib.hid hk
      clear hO0 hA0 hgS hWa hAt hdrop hT hca hXa hk
      go_wp2_with fail
      rw [HW.out, HS.out]
      clear xa
      go_loopg [6] (2 * pot s + 1) (fun k v wx => ∃ (s : σ) (Ft : Nat → Prop) (us : List AT) (pre : List Value), k = 2 * pot s + us.length ∧ OpP Ft D us v wx ∧ AtP w0 W C D U step pot Env X J tot fin s Ft us (os.drop (i + 1)) pre [] wx)
      case atStart => exact ⟨s, Ft, [T], pre, rfl, HO.out, HA.out⟩
      case round =>
        clear HO HA HS HW
        obtain ⟨s, Ft, us, pre, hk2, hOp, hAt⟩ := hrel
        obtain ⟨Av, cv, rfl, hcn, -, -⟩ := own_slice hOp.ow
        cases us with
        | nil =>
          have HA := Lib.hid hAt
          clear hOp hAt hcn hk2
          go_wp2_with fail
          go_roundg (n - (i + 1))
          case measure => have := HK.out; omega
          case rel => exact ⟨i + 1, s, Ft, pre, rfl, by omega, HA.out⟩
        | cons T1 us =>
          obtain ⟨mm, hmm⟩ : ∃ q, us.length = q := ⟨_, rfl⟩
          obtain ⟨nn, hnn⟩ : ∃ q, mm + 1 = q := ⟨_, rfl⟩
          have hpot := hAt.pot
          rw [List.length_cons, hmm] at hpot
          have d5 : mm ≤ 10001 := by omega
          obtain ⟨ao, rfl, g0⟩ := hOp.top hmm
          rw [List.length_cons, hmm, hnn] at hcn hk2 ⊢
          have hOp1 : OpP Ft D (T1 :: us) (.slice (some ao) nn cv) wr := by
            have := hOp
            rw [List.length_cons, hmm, hnn] at this
            exact this
          have HO := Lib.hid (hOp1.pop hmm hnn)
          clear hOp hOp1
          have e1 : wrap64 ((nn : Int) - 1) = (mm : Int) := by unfold wrap64; omega
          have d1 : decide ((0 : Int) < (nn : Int)) = true := decide_eq_true (by omega)
          have d2 : 0 < nn := by omega
          have hix : mm < nn := by omega
          have ct : ∀ V, (Instr.slice 30 (.slice (some ao) nn cv) none (some (.int .i64 (mm : Int))) none).run Try.prog V = .ok (.slice (some ao) mm cv) V := cut_to Try.underlying30 size_ptr13 (some ao) nn cv mm _ rfl (by omega)
          have hnn' := Lib.hid hnn
          have hmm' := Lib.hid hmm
          have hk' := Lib.hid hk2
          have hpot' := Lib.hid hpot
          clear hcn hnn hmm hk2 hpot
          cases T1 with
          | e =>
            have g1 : wr.cell? (ao.add mm) = some (.pointer none) := g0
            clear g0
            have HA := Lib.hid hAt.none_
            clear hAt
            go_wp2_with fail
            go_roundg (2 * pot s + mm)
            case measure => have h1 := hk'.out; have h2 := hnn'.out; omega
            case rel => exact ⟨s, Ft, us, pre, by rw [hmm'.out], HO.out, HA.out⟩
          | n a x lt rt =>
            have g1 : wr.cell? (ao.add mm) = some (.pointer (some a)) := g0
            clear g0
            obtain ⟨hNd, hxl, hxr, -, -⟩ := hlies'.out _ (hAt.ls _ (List.mem_cons_self ..))
            have xg : wr.cell? ⟨gG, 0, none⟩ = some (.func (.func F) #[] cap) := (cell_same (hAt.fx _ hXG'.out)).trans hxG'.out
            have hless := hG'.out.less s Ft wr a x lt rt hAt.env (hAt.ls _ (List.mem_cons_self ..))
            have hcall := hG'.out.calls s Ft wr a x lt rt hAt.env (hAt.ls _ (List.mem_cons_self ..)) hAt.nk
            have hno := fun (h : (step s (some a)).1 = false) (Ft' : Nat → Prop) (w' : World) (he : Env (step s (some a)).2 Ft' w') (hk : Keep Ft wr w') (hf : ∀ k, Ft' k → Ft k ∨ wr.heap.size ≤ k) => hAt.no hG'.out hJ'.out hXD'.out h he hk hf
            have hyes := fun (h : (step s (some a)).1 = true) (Ft' : Nat → Prop) (w' : World) (he : Env (step s (some a)).2 Ft' w') (hk : Keep Ft wr w') (hf : ∀ k, Ft' k → Ft k ∨ wr.heap.size ≤ k) => hAt.yes hG'.out hJ'.out hXD'.out hU'.out h he hk hf
            obtain ⟨b, hb⟩ : ∃ b, (step s (some a)).1 = b := ⟨_, rfl⟩
            obtain ⟨s1, hs1⟩ : ∃ s1, (step s (some a)).2 = s1 := ⟨_, rfl⟩
            rw [hb, hs1] at hcall hno hyes hless
            have hc := Lib.hid hcall
            have hno' := Lib.hid hno
            have hyes' := Lib.hid hyes
            have hless' := Lib.hid hless
            have hNd' := Lib.hid hNd
            have hxl' := Lib.hid hxl
            have hxr' := Lib.hid hxr
            clear hAt hcall hno hyes hless hNd hxl hxr hb hs1
            cases b with
            | false =>
              go_wp2_with fail
              refine hc.out.mono ?_
              rintro e w2 ⟨rfl, Ft2, he2, hk2, hf2⟩
              have HA := Lib.hid (hno'.out trivial Ft2 w2 he2 hk2 hf2)
              have HO2 := Lib.hid (HO.out.asked hk2 hf2)
              clear he2 hk2 hf2 hc
              go_wp2_with fail
              go_roundg (2 * pot s1 + mm)
              case measure => have h1 := hk'.out; have h2 := hnn'.out; have h3 := hless'.out.2; omega
              case rel => exact ⟨s1, Ft2, us, pre, by rw [hmm'.out], HO2.out, HA.out⟩
            | true =>
              go_wp2_with fail
              refine hc.out.mono ?_
              rintro e w2 ⟨rfl, Ft2, he2, hk2, hf2⟩
              have HA := Lib.hid (hyes'.out trivial Ft2 w2 he2 hk2 hf2)
              have HO2 := Lib.hid (HO.out.asked hk2 hf2)
              obtain ⟨fnY, tmY, asY, bdY, hyv, hR⟩ := round_any (m' := 0) (hY'.out pre _ w2 HA.out.j HA.out.told)
              have hR' := Lib.hid hR
              clear he2 hk2 hf2 hc hR
              go_upto_region 9 with (fail)
              refine (wpIn_wide (n := 0)).1 ?_
              gi_wp2
              refine ⟨rfl, ?_⟩
              refine hR'.out.mono ?_
              clear hR' hyv g1 xg
              rintro e wy ⟨⟨rfl, hj, hk⟩ | ⟨rfl, hx⟩, hf⟩
              · have HY := Lib.hid (HA.out.yielded hG'.out hn1 hX'.out hj hk hf)
                have HO3 := Lib.hid (HO2.out.yielded hk hn2)
                have cR : Hid (Calls Try.prog 30 #[.pointer (some a)] wy fun e w' => e = .returned (.pointer rt.ptr) ∧ wy = w') := hxr'.out ▸ hN'.out.right wy w0.heap.size a _ (HY.out.nk.node hN'.out hNd'.out)
                have cL : Hid (Calls Try.prog 31 #[.pointer (some a)] wy fun e w' => e = .returned (.pointer lt.ptr) ∧ wy = w') := hxl'.out ▸ hN'.out.left wy w0.heap.size a _ (HY.out.nk.node hN'.out hNd'.out)
                have hsl : wy.ownsRow D 25 1 (.slice (some ao) mm cv) mm (valsT us.reverse) := hmm'.out ▸ HO3.out.ow
                have hby : D ≤ wy.heap.size := HY.out.sz
                clear hj hk hf
                gi_wp2
                go_wp2_with fail
                refine cR.out.mono ?_
                rintro e w' ⟨rfl, rfl⟩
                go_wp2_with fail
                refine cL.out.mono ?_
                rintro e w' ⟨rfl, rfl⟩
                go_wp2_with (
                  (at_builtin
                   refine wpList_append_where rfl _ _ 30 rfl D 25 i0 (.pointer none) 1 8 Try.underlying30 hin hz0 hz1 hz2 rfl (by decide) (.slice (some ao) mm cv) mm (valsT us.reverse) rfl (hsl.alloc _) ⟨wy.heap.size, 0, none⟩ 2 2 [.pointer rt.ptr, .pointer lt.ptr] rfl rfl (fun j u hu => ((Has.new wy 25 #[.pointer rt.ptr, .pointer lt.ptr]).row.at_ hu).2) (by simp [Value.oneCell']) (by unfold maxLen; omega) (by omega) (by simp; omega) ?_
                   intro v2 w4 hown' hgrow hwhere
                   obtain ⟨g', cap', rfl⟩ := ownsRow_succ hown'
                   have HA9 := Lib.hid (AtP.grown hG'.out hJ'.out hXD'.out hm hbd.out (HY.out.below hG'.out hJ'.out hXD'.out ((Below.refl _ wy).alloc (Nat.le_refl _) (.cells #[.pointer rt.ptr, .pointer lt.ptr] 25))) (hsl.alloc _) (by rw [← hmm'.out]; exact fun r e => HO3.out.nft r e) hgrow)
                   have HO9 := Lib.hid (HO3.out.push (l := lt) (r := rt) hG'.out HY.out.env (by rw [hmm'.out]; exact hown') hwhere)))
                go_roundg (2 * pot s1 + (lt :: rt :: us).length)
                case measure => have h1 := hk'.out; have h2 := hnn'.out; have h3 := hless'.out.1 (by trivial); have h4 := hmm'.out; simp only [List.length_cons]; omega
                case rel => exact ⟨s1, Ft2, _, _, rfl, by first | exact HO9.out | (have := HO9.out; simpa [hmm'.out] using this), HA9.out⟩
              · have hx' := Lib.hid hx
                clear hx
                gi_wp2
                go_wp2_with fail
                exact bodyPost_ret (results_none rfl _ _ _) rfl ⟨⟨_, rfl⟩, .inr ⟨_, hx'.out⟩⟩
    · have d0 : decide ((i : Int) < (n : Int)) = false := decide_eq_false (by omega)
      have hi : os.drop i = [] := List.drop_eq_nil_of_le (by have := hl'.out; omega)
      rw [hi] at hAt
      have h1 := hAt.all
      have h2 := hAt.fin
      simp only [goL, List.map_nil, List.append_nil] at h1 h2
      have hend : Hid (pre = valsT tot ∧ Env fin Ft wr ∧ J pre wr) := ⟨h1, h2 ▸ hAt.env, hAt.j⟩
      clear hAt h1 h2 hk
      go_wp2_with fail
      go_end0
      exact ⟨⟨_, rfl⟩, .inl ⟨pre, ⟨hend.out.1, Ft, hend.out.2.1⟩, hend.out.2.2⟩⟩
end
end Go.Proofs.Ythhhkcjggfdagaa
/- Layer 13, as landed: a function that notes nodes; going over nodes for the sake of that. -/
namespace Go.Proofs.Ythhhkcjggfdagaa
open Go.RowKit Go.Shelf Go.Proofs.Treem Go.Proofs.Cardm
attribute [local go_sem] Oper.semAt_some
set_option maxRecDepth 100000
variable {Nd : NdP}

theorem zero_bool13 (W : World) : (zeroValue 4).run Try.prog W = .ok (.bool false) W := by kernel_rfl
theorem look13 (W : World) (r : Nat) (S : List (Option Addr)) (hr : W.heap[r]? = some (setO S)) (hg : ∀ q ∈ S, GoodP W q) (p : Option Addr) (h : GoodP W p) (B : Bool) (hB : decide (p ∈ S) = B) :
    (Instr.lookup 62 (.map (some r)) (.pointer p) false).run Try.prog W = .ok (.bool B) W := by
  obtain ⟨j, hj, hs⟩ := node_info
  exact look_ptr W Try.underlying62 Try.underlying25 hj hs (zero_bool13 W) r S hr hg p h B hB
theorem put13 (W : World) (r : Nat) (S : List (Option Addr)) (hr : W.heap[r]? = some (setO S)) (hg : ∀ q ∈ S, GoodP W q) (p : Option Addr) (h : GoodP W p) :
    (Instr.mapUpdate 62 (.map (some r)) (.pointer p) (.bool true)).run Try.prog W = .ok () (W.putObj r (setO (insP S p))) := by
  obtain ⟨j, hj, hs⟩ := node_info
  exact put_any W Try.underlying62 Try.underlying25 hj hs r S hr hg p h
theorem note_any (W : World) (gN r : Nat) (S : List (Option Addr)) (p : Option Addr) (hb : Boxed W gN 62 (.map (some r))) (hr : W.heap[r]? = some (setO S)) (hg : ∀ q ∈ S, GoodP W q) (h : GoodP W p) :
    Calls Try.prog 32 #[.pointer p, .pointer (some ⟨gN, 0, none⟩)] W fun e W' => e = .returned (.bool (!decide (p ∈ S))) ∧ W.putObj r (setO (insP S p)) = W' := by
  have xN := hb.cell
  have lk := look13 W r S hr hg p h _ rfl
  have pt := put13 W r S hr hg p h
  obtain ⟨B, hB⟩ : ∃ b, decide (p ∈ S) = b := ⟨_, rfl⟩
  obtain ⟨W1, hW1⟩ : ∃ V, W.putObj r (setO (insP S p)) = V := ⟨_, rfl⟩
  rw [hB] at lk ⊢
  rw [hW1] at pt ⊢
  clear hB hW1 hb hr hg h
  go_enter Try.func32, Try.ntmps32
  go_wp2_with fail
  go_ret
  exact ⟨rfl, rfl⟩
def mine13 (t : TypeId) : Bool := t == 25 || t == 62 || t == 30 || t == 48
def U13 (Nd : NdP) (w0 : World) (L : List Addr) (T : AT) : Prop := T.lies Nd w0 w0.heap.size ∧ ∀ b ∈ T.addrs, b ∈ L
theorem U13.sides {w0 : World} {L : List Addr} (a : Addr) (x : No) (l r : AT) (h : U13 Nd w0 L (.n a x l r)) : U13 Nd w0 L l ∧ U13 Nd w0 L r :=
  ⟨⟨h.1.2.2.2.1, fun b hb => h.2 b (AT.mem_n.2 (.inr (.inl hb)))⟩, ⟨h.1.2.2.2.2, fun b hb => h.2 b (AT.mem_n.2 (.inr (.inr hb)))⟩⟩
/-- where a set of nodes lies that are noted -/
structure SetN (w0 : World) (L : List Addr) (gN r : Nat) (S : List (Option Addr)) (W : World) : Prop where
  box : Boxed W gN 62 (.map (some r))
  set : W.heap[r]? = some (setO S)
  nk : NK w0 W
  good : ∀ q ∈ S, GoodN w0 q
  nodup : S.Nodup
  sub : ∀ p ∈ S, ∃ a, a ∈ L ∧ p = some a
theorem SetN.frame {w0 W W' : World} {L : List Addr} {gN r : Nat} {S : List (Option Addr)} (h : SetN w0 L gN r S W) (hk : NK W W') (h1 : W'.heap[gN]? = W.heap[gN]?) (h2 : W'.heap[r]? = W.heap[r]?) : SetN w0 L gN r S W' :=
  ⟨(show W'.heap[gN]? = _ from h1.trans h.box), h2.trans h.set, h.nk.trans hk, h.good, h.nodup, h.sub⟩
theorem SetN.ne {w0 W : World} {L : List Addr} {gN r : Nat} {S : List (Option Addr)} (h : SetN w0 L gN r S W) : gN ≠ r := fun e => by
  have h1 : W.heap[gN]? = _ := h.box
  rw [e, h.set] at h1
  cases h1
theorem SetN.put {w0 W : World} {L : List Addr} {gN r : Nat} {S : List (Option Addr)} (h : SetN w0 L gN r S W) {p : Option Addr} (hp : GoodN w0 p) (hL : ∃ a, a ∈ L ∧ p = some a) : SetN w0 L gN r (insP S p) (W.putObj r (setO (insP S p))) := by
  refine ⟨(World.putObj_heap_other h.ne).trans h.box, World.putObj_heap_same (Array.getElem?_eq_some_iff.1 h.set).1, h.nk.trans (.of_grown (grownBy_putObj' W r _) (fun k e cs hc => ?_)), fun q hq => ?_, insP_nodup h.nodup p, fun q hq => ?_⟩
  · cases e
    rw [h.set] at hc
    cases hc
  · rcases (insP_mem _ _ _).1 hq with hq | rfl
    · exact h.good q hq
    · exact hp
  · rcases (insP_mem _ _ _).1 hq with hq | rfl
    · exact h.sub q hq
    · exact hL
theorem SetN.len {w0 W : World} {L : List Addr} {gN r : Nat} {S : List (Option Addr)} (h : SetN w0 L gN r S W) : S.length ≤ card L := by
  have h1 := card_nodup S h.nodup
  have h2 : card S ≤ card (L.map some) := card_sub fun p hp => by
    obtain ⟨a, ha, rfl⟩ := h.sub p hp
    exact List.mem_map.2 ⟨a, ha, rfl⟩
  rw [card_some] at h2
  omega
abbrev EnvN (w0 : World) (L : List Addr) (gN r : Nat) (S : List (Option Addr)) (Ft : Nat → Prop) (W : World) : Prop := (Ft = fun k => k = gN ∨ k = r) ∧ SetN w0 L gN r S W
theorem note_enters : Enters Try.prog 32 := enters_of Try.func32 (by kernel_rfl) rfl
theorem note_goes (hN : NodeSays Nd) (w0 : World) (L : List Addr) (gN r B C : Nat) (free : TypeId → Bool) (hf : free 62 = false) (h1 : B ≤ gN) (h2 : B ≤ r) (h3 : r < C) :
    GoesOn Nd w0 32 #[.pointer (some ⟨gN, 0, none⟩)] B C mine13 free (U13 Nd w0 L) noteStep (fun S => card L - S.length) (EnvN w0 L gN r) where
  enters := note_enters
  calls := fun S Ft W a x l rr ⟨hFt, hS⟩ hU hk => by
    have hgood : GoodN w0 (some a) := GoodN.root hN (T := .n a x l rr) hU.1
    refine (note_any W gN r S (some a) hS.box hS.set (fun q hq => (hS.good q hq).good hS.nk) (hgood.good hk)).mono ?_
    rintro e W' ⟨rfl, rfl⟩
    exact ⟨rfl, Ft, ⟨hFt, hS.put hgood ⟨a, hU.2 a (AT.mem_n.2 (.inl rfl)), rfl⟩⟩, Keep.put W r _ (by rw [hFt]; exact .inr rfl), fun k hx => .inl hx⟩
  foot := fun S Ft W ⟨hFt, hS⟩ k hk => by
    rw [hFt] at hk
    rcases hk with rfl | rfl
    · exact ⟨h1, _, hS.box, .inr ⟨_, _, _, rfl, rfl, hf, by decide⟩⟩
    · exact ⟨h2, _, hS.set, .inl ⟨rfl, h3⟩⟩
  frame := fun S Ft W W' ⟨hFt, hS⟩ hr => ⟨hFt, hS.frame hr.nk (hr.same gN (by rw [hFt]; exact .inl rfl)) (hr.same r (by rw [hFt]; exact .inr rfl))⟩
  less := fun S Ft W a x l rr ⟨hFt, hS⟩ hU => by
    have hgood : GoodN w0 (some a) := GoodN.root hN (T := .n a x l rr) hU.1
    have h4 := (hS.put hgood ⟨a, hU.2 a (AT.mem_n.2 (.inl rfl)), rfl⟩).len
    simp only [noteStep]
    by_cases hx : some a ∈ S
    · simp [insP, hx]
    · simp only [insP, hx, if_false, List.length_append, List.length_cons, List.length_nil] at h4 ⊢
      simp
      omega
theorem nodes13_any (F : FuncId) (cap : Array Value) (A : Option Addr) (n c : Nat) (w : World) : Calls Try.prog 19 #[.func (.func F) #[] cap, .slice A n c] w fun e w' =>
    e = .returned (.func (.func 29) #[] #[.pointer (some ⟨w.heap.size + 1, 0, none⟩), .pointer (some ⟨w.heap.size, 0, none⟩)]) ∧ (w.alloc (.cells #[.func (.func F) #[] cap] 48)).alloc (.cells #[.slice A n c] 30) = w' := by
  go_enter Try.func19, Try.ntmps19
  go_wp2
  go_ret
  exact ⟨rfl, rfl⟩
set_option maxHeartbeats 4000000 in
theorem goOver_any {B g : Nat} {mine free : TypeId → Bool} {lb : Array Value} {Lies : List Value → Value → World → Prop} {S : List Value → World → Prop} (w : World) (hB : B ≤ w.heap.size) (he : Enters Try.prog g)
    (hseq : ∀ n, SeqFrom B mine Fence.wide n Try.prog g lb (fun y => #[y]) (Kf free 0) Lies S w) (hS : ∀ (xs : List Value) (W : World) (l : Nat) (o o' : Obj), w.heap.size ≤ l → W.heap[l]? = some o → o.isCells = false → S xs W → S xs (W.putObj l o')) :
    Calls Try.prog 22 #[.func (.func g) #[] lb] w fun e w' => (∃ v, e = .returned v) ∧ (∃ xs, S xs w') ∧ TurnF mine B w.heap.size w.heap.size w w' := by
  have henter : ∀ (args : Array Value) (V : World), (callFunc g args).run Try.prog V = .ok (.enter g args) V := he
  have hS' := Lib.hid hS
  have hseq' := Lib.hid hseq
  clear hS hseq
  refine (callsIn_wide (n := 9)).1 ?_
  refine callsIn_of_wp_marks Try.func22 rfl trivial ?_ rfl
  simp only [Try.ntmps22, List.size_toArray, List.length_cons, List.length_nil, Nat.reduceAdd, Nat.reduceSub, Array.replicate_succ, Array.replicate_zero, List.push_toArray, List.append_toArray, List.nil_append, List.cons_append]
  refine wpIn_wide.2 ?_
  go_wp2_with fail
  refine (wpIn_wide (n := 9)).1 ?_
  refine wpIn_rangeFunc_from (α := Value) (mine := mine) rfl (by omega) (gf := g) (lb := lb) rfl trivial henter (hseq'.out _) hB (fun xs W l o o' h1 h2 h3 h4 => hS'.out xs W l o o' h1 h2 h3 h4) Kf.trans (fun W l o o' _ h hc hw => Kf.putObj W l o o' (Nat.zero_le _) h hc) (Below.refl _ _) (fun _ => rfl)
    (fun _ W => TurnF mine B w.heap.size w.heap.size w W) (fun _ _ _ => False) (AbideF.turn w) (fun _ _ _ _ h _ => h) (TurnF.refl _ _ _ _ _)
    (fun _ _ _ _ => True) (fun _ _ _ _ _ _ _ _ _ _ => trivial) ?assign ?body ?done ?stop
  case assign =>
    rintro L pre y V KK hI - hK
    have hK2 := Lib.hid (fun a' => hK a' V (.refl _ _) (Kf.refl _ _ V) hI trivial)
    clear hK hI
    gi_wp2
    exact hK2.out _
  case body =>
    rintro L pre y a' V hL - hI -
    have hI' := Lib.hid hI
    clear hI
    gi_wp2
    exact ⟨.refl _ _, Kf.refl _ _ V, hI'.out⟩
  case done =>
    rintro D xs V hD hs hI hK
    go_wp2_with fail
    refine ⟨by simp, .inl ⟨_, _, rfl, run_takeDeferred hK, ?_⟩⟩
    exact ⟨_, results_none rfl _ _ _, ⟨_, rfl⟩, ⟨xs, hS'.out xs V D _ _ hD hK rfl hs⟩, hI.trans (.put _ (Nat.le_trans hB hD) (.inr hD) hK rfl)⟩
  case stop =>
    rintro D c pre V _ h _
    exact h.elim
/-- what noter's answer is: a function that notes nodes, that has noted those of trees -/
def Noter (w0 : World) (L : List Addr) (os : List AT) (w : World) (e : Ending) (w' : World) : Prop :=
  ∃ gN r, e = .returned (.func (.func 32) #[] #[.pointer (some ⟨gN, 0, none⟩)]) ∧ w.heap.size ≤ gN ∧ w.heap.size ≤ r ∧ r < w'.heap.size ∧ gN < w'.heap.size ∧ SetN w0 L gN r (goL noteStep os []).2 w' ∧ Below w.heap.size w w'
set_option maxHeartbeats 4000000 in
theorem noter_any (hN : NodeSays Nd) (w0 w : World) (hb : Below w0.heap.size w0 w) (L : List Addr) (hL : card L ≤ 2000) (os : List AT) (ho : ∀ T ∈ os, U13 Nd w0 L T) (A : Option Addr) (n c : Nat) (hn : n ≤ 2000) (hA : LieP w w.heap.size A n c (os.map AT.ptr)) :
    Calls Try.prog 20 #[.slice A n c] w (Noter w0 L os w) := by
  have hmm := @run_makeMap Try.prog
  obtain ⟨r, hr⟩ : ∃ r, w.heap.size = r := ⟨_, rfl⟩
  obtain ⟨gN, hgN⟩ : ∃ g, w.heap.size + 1 = g := ⟨_, rfl⟩
  obtain ⟨w1, hw1⟩ : ∃ v, w.alloc (.map #[] 0) = v := ⟨_, rfl⟩
  obtain ⟨w2, hw2⟩ : ∃ v, w1.alloc (.cells #[.map (some r)] 62) = v := ⟨_, rfl⟩
  obtain ⟨w3, hw3⟩ : ∃ v, (w2.alloc (.cells #[.func (.func 32) #[] #[.pointer (some ⟨gN, 0, none⟩)]] 48)).alloc (.cells #[.slice A n c] 30) = v := ⟨_, rfl⟩
  have z1 : w1.heap.size = r + 1 := by rw [← hw1, ← hr]; simp
  have z2 : w2.heap.size = r + 2 := by rw [← hw2]; simp [z1]
  have z3 : w3.heap.size = r + 4 := by rw [← hw3]; simp [z2]
  have b1 : Below w.heap.size w w1 := hw1 ▸ (Below.refl _ w).alloc (Nat.le_refl _) _
  have b2 : Below w1.heap.size w1 w2 := hw2 ▸ (Below.refl _ w1).alloc (Nat.le_refl _) _
  have b3 : Below w2.heap.size w2 w3 := hw3 ▸ ((Below.refl _ w2).alloc (Nat.le_refl _) _).alloc (by simp) _
  have bw3 : Below w.heap.size w w3 := Below.after (Below.after b1 b2) b3
  have m1 : w1.heap[r]? = some (setO []) := hr ▸ hw1 ▸ World.alloc_heap_new w _
  have n2 : Boxed w2 gN 62 (.map (some r)) := by
    have := Boxed.new w1 62 (.map (some r))
    rw [hw2, z1, show r + 1 = gN by omega] at this
    exact this
  have hn3 : NK w0 w3 := .of_below (Below.after hb bw3)
  have s3 : SetN w0 L gN r [] w3 := ⟨Has.next (show Has _ _ _ _ from n2) b3, ((Below.after b2 b3).block r (by omega)).trans m1, hn3, (fun q hq => by cases hq), by simp, (fun q hq => by cases hq)⟩
  have hg3 : Boxed w3 w2.heap.size 48 (.func (.func 32) #[] #[.pointer (some ⟨gN, 0, none⟩)]) := hw3 ▸ Has.alloc (show Has _ _ _ _ from Boxed.new w2 _ _) _
  have ht3 : Boxed w3 (w2.heap.size + 1) 30 (.slice A n c) := by
    have := Boxed.new (w2.alloc (.cells #[.func (.func 32) #[] #[.pointer (some ⟨gN, 0, none⟩)]] 48)) 30 (.slice A n c)
    rw [hw3, World.size_alloc] at this
    exact this
  have goes := note_goes hN w0 L gN r r w3.heap.size (fun _ => false) rfl (by omega) (Nat.le_refl _) (by omega)
  have hseq := fun k => nodes13_from (Nd := Nd) hN w3 goes rfl rfl rfl rfl rfl U13.sides (fun T h => h.1) os ho (w2.heap.size + 1) w2.heap.size A n c (by have := hA.len; rw [List.length_map] at this; exact this) hn (by omega) [] _ ⟨rfl, s3⟩ (by simp; omega) hn3 ht3 hg3 (by omega) (by omega)
    (fun k T hk => by
      obtain ⟨ad, e, hlt, hc⟩ := hA.at_ k T.ptr (by rw [List.getElem?_map, hk]; rfl)
      refine ⟨ad, e, by omega, ?_, keep_cell bw3 hc⟩
      have hc' := keep_cell bw3 hc
      cases hq : w3.heap[ad.block]? with
      | none => simp [World.cell?, add_block, hq] at hc'
      | some o =>
        cases o with
        | cells cs t fr => exact ⟨cs, t, fr, rfl, rfl⟩
        | _ => simp [World.cell?, add_block, hq] at hc') k
  have cO := goOver_any (B := r) (mine := mine13) w3 (by omega) (enters_of Try.func29 (by kernel_rfl) rfl) hseq (fun xs W l o o' hl ho' hc ⟨e1, Ft, hF, hS⟩ => ⟨e1, Ft, hF, hS.frame (.of_grown (grownBy_putObj' W l o') (fun k e cs hx => by cases e; rw [ho'] at hx; cases hx; cases hc)) (World.putObj_heap_other (by omega)) (World.putObj_heap_other (by omega))⟩)
  have cO' := Lib.hid cO
  have HR := Lib.hid hr
  have HG := Lib.hid hgN
  have HW1 := Lib.hid hw1
  have HW2 := Lib.hid hw2
  have HW3 := Lib.hid hw3
  have Z1 := Lib.hid z1
  have Z2 := Lib.hid z2
  have Z3 := Lib.hid z3
  have B3 := Lib.hid bw3
  clear cO hr hgN hw1 hw2 hw3 z1 z2 z3 b1 b2 b3 bw3 m1 n2 hn3 s3 hg3 ht3 goes hseq hA ho hL hb hN
  go_enter Try.func20, Try.ntmps20
  go_wp2_with fail
  rw [HG.out, HW1.out, HR.out, HW2.out]
  refine (nodes13_any _ _ A n c w2).mono ?_
  rintro e w' ⟨rfl, h3⟩
  have h4 := HW3.out.symm.trans h3
  clear h3
  subst h4
  go_wp2_with fail
  refine cO'.out.mono ?_
  rintro e w4 ⟨⟨v, rfl⟩, ⟨xs, -, Ft, -, hS⟩, hT⟩
  have hS' := Lib.hid hS
  have hT' := Lib.hid hT
  clear hS hT cO'
  go_wp2_with fail
  go_ret
  have h1 := HR.out
  have h2 := HG.out
  have h3 := Z3.out
  have h4 := hT'.out.size
  exact ⟨gN, r, rfl, by omega, by omega, by omega, by omega, hS'.out, B3.out.trans (by rw [h1]; exact hT'.out.below (Nat.le_refl _) (by omega))⟩
end Go.Proofs.Ythhhkcjggfdagaa
/- Layer 13, as landed: New, Nodes, Same. -/
namespace Go.Proofs.Ythhhkcjggfdagaa
open Go.RowKit Go.Shelf Go.Proofs.Treem Go.Proofs.Cardm
attribute [local go_sem] Oper.semAt_some
set_option maxRecDepth 100000
variable {Nd : NdP}

abbrev isInt (t : TypeId) : Bool := t == 3
/-- going over one tree's nodes that aren't noted yet -/
theorem one_from (hN : NodeSays Nd) (w0 w2 : World) (hb : NK w0 w2) (L : List Addr) (hL : card L ≤ 2000) (T : AT) (hT : U13 Nd w0 L T) (S : List (Option Addr)) (gN r B : Nat) (free : TypeId → Bool) (f1 : free 62 = false) (f2 : free 55 = false) (f3 : free 25 = false) (f4 : free 30 = false) (f5 : free 48 = false)
    (hS : SetN w0 L gN r S w2) (h1 : B ≤ gN) (h2 : B ≤ r) (h3 : r < w2.heap.size) (h4 : gN < w2.heap.size) (w3 w4 : World) (e3 : w2.alloc (.cells #[.pointer T.ptr] 25) = w3)
    (e4 : (w3.alloc (.cells #[.func (.func 32) #[] #[.pointer (some ⟨gN, 0, none⟩)]] 48)).alloc (.cells #[.slice (some ⟨w2.heap.size, 0, none⟩) 1 1] 30) = w4) (m : Nat) :
    SeqFrom B mine13 Fence.wide m Try.prog 29 #[.pointer (some ⟨w3.heap.size + 1, 0, none⟩), .pointer (some ⟨w3.heap.size, 0, none⟩)] (fun y => #[y]) (Kf free 0) (fun pre y _ => pre ++ [y] <+: valsT (goL noteStep [T] S).1)
      (fun xs W => xs = valsT (goL noteStep [T] S).1 ∧ ∃ Ft, EnvN w0 L gN r (goL noteStep [T] S).2 Ft W) w4 := by
  have b3 : Below w2.heap.size w2 w3 := e3 ▸ (Below.refl _ w2).alloc (Nat.le_refl _) _
  have b4 : Below w3.heap.size w3 w4 := e4 ▸ ((Below.refl _ w3).alloc (Nat.le_refl _) _).alloc (by simp) _
  have b24 := Below.after b3 b4
  have z3 : w3.heap.size = w2.heap.size + 1 := by rw [← e3]; simp
  have z4 : w4.heap.size = w3.heap.size + 2 := by rw [← e4]; simp
  have k4 : NK w2 w4 := .of_below b24
  have s4 : SetN w0 L gN r S w4 := hS.frame k4 (b24.block _ h4) (b24.block _ h3)
  have hg4 : Boxed w4 w3.heap.size 48 (.func (.func 32) #[] #[.pointer (some ⟨gN, 0, none⟩)]) := e4 ▸ Has.alloc (show Has _ _ _ _ from Boxed.new w3 _ _) _
  have ht4 : Boxed w4 (w3.heap.size + 1) 30 (.slice (some ⟨w2.heap.size, 0, none⟩) 1 1) := by
    have := Boxed.new (w3.alloc (.cells #[.func (.func 32) #[] #[.pointer (some ⟨gN, 0, none⟩)]] 48)) 30 (.slice (some ⟨w2.heap.size, 0, none⟩) 1 1)
    rw [e4, World.size_alloc] at this
    exact this
  have hl4 : Has w4 w2.heap.size 25 #[.pointer T.ptr] := Has.next (e3 ▸ Has.new w2 25 #[.pointer T.ptr]) b4
  refine nodes13_from (Nd := Nd) hN w4 (note_goes hN w0 L gN r B w4.heap.size free f1 h1 h2 (by omega)) f2 f3 rfl f4 f5 U13.sides (fun T h => h.1) [T] (fun V hV => by rw [List.mem_singleton.1 hV]; exact hT) (w3.heap.size + 1) w3.heap.size _ 1 1 rfl (by omega) (by omega) S _ ⟨rfl, s4⟩ (by show card L - S.length ≤ 5000; omega) (hb.trans k4) ht4 hg4 (by omega) (by omega) ?_ m
  intro k V hk
  match k with
  | 0 =>
    obtain rfl : T = V := by simpa using hk
    exact ⟨_, rfl, by show ¬ (w2.heap.size = gN ∨ w2.heap.size = r); omega, ⟨_, _, _, hl4, f3⟩, hl4.cell 0⟩
  | k + 1 => simp at hk
theorem setN_put {w0 W : World} {L : List Addr} {gN r l : Nat} {S : List (Option Addr)} {o : Obj} (o' : Obj) (h : SetN w0 L gN r S W) (h1 : gN < l) (h2 : r < l) (ho : W.heap[l]? = some o) (hc : o.isCells = false) : SetN w0 L gN r S (W.putObj l o') :=
  h.frame (.of_grown (grownBy_putObj' W l o') (fun k e cs hx => by cases e; rw [ho] at hx; cases hx; cases hc)) (World.putObj_heap_other (by omega)) (World.putObj_heap_other (by omega))
set_option maxHeartbeats 8000000 in
theorem new13_any (hN : NodeSays Nd) (w : World) (T : AT) (os : List AT) (A : Option Addr) (n c : Nat) (hT : Stand Nd w T) (ho : ∀ U ∈ os, Stand Nd w U) (hA : LieP w w.heap.size A n c (os.map AT.ptr)) (hn : n ≤ 2000) (hc : card (addrsOf os ++ T.addrs) ≤ 2000) :
    Calls Try.prog 9 #[.pointer T.ptr, .slice A n c] w fun e w' => e = .returned (nI (newC T.addrs (addrsOf os))) ∧ Below w.heap.size w w' := by
  obtain ⟨L, hL⟩ : ∃ L, addrsOf os ++ T.addrs = L := ⟨_, rfl⟩
  have uT : U13 Nd w L T := ⟨hT.lies, fun b hb => hL ▸ List.mem_append_right _ hb⟩
  have uo : ∀ V ∈ os, U13 Nd w L V := fun V hV => ⟨(ho V hV).lies, fun b hb => hL ▸ List.mem_append_left _ (List.mem_flatMap.2 ⟨V, hV, hb⟩)⟩
  obtain ⟨v1, v2, -⟩ := note_is hN (us := os) (S := []) (L0 := []) (vis_nil w w.heap.size) (fun a => by simp) (fun V hV => (ho V hV).lies)
  have hcount := note_new hN v1 v2 hT.lies
  rw [List.nil_append] at hcount
  obtain ⟨S, hS⟩ : ∃ S, (goL noteStep os []).2 = S := ⟨_, rfl⟩
  rw [hS] at hcount
  obtain ⟨tot, hTot⟩ : ∃ t, (goL noteStep [T] S).1 = t := ⟨_, rfl⟩
  rw [hTot] at hcount
  have hlen : tot.length ≤ 2000 := by
    have h1 := new_le T.addrs (addrsOf os)
    have h2 : card T.addrs ≤ card (addrsOf os ++ T.addrs) := card_sub fun a ha => List.mem_append_right _ ha
    omega
  obtain ⟨N, hNC⟩ : ∃ N, newC T.addrs (addrsOf os) = N := ⟨_, rfl⟩
  rw [hNC] at hcount ⊢
  rw [hL] at hc
  obtain ⟨gC, hgC⟩ : ∃ g, w.heap.size = g := ⟨_, rfl⟩
  obtain ⟨w1, hw1⟩ : ∃ v, w.alloc (.cells #[.int .i64 0] 3) = v := ⟨_, rfl⟩
  have b1 : Below w.heap.size w w1 := hw1 ▸ (Below.refl _ w).alloc (Nat.le_refl _) _
  have z1 : w1.heap.size = gC + 1 := by rw [← hw1, ← hgC]; simp
  have x1 : Boxed w1 gC 3 (.int .i64 0) := hgC ▸ hw1 ▸ Boxed.new w _ _
  have cNo := noter_any hN w w1 b1 L hc os uo A n c hn (hA.after b1)
  have cF := fun (w2 : World) (gN r : Nat) (hb : NK w w2) (hS' : SetN w L gN r S w2) h1 h2 h3 h4 w3 w4 e3 e4 m => one_from hN w w2 hb L hc T uT S gN r (gC + 1) isInt rfl rfl rfl rfl rfl hS' h1 h2 h3 h4 w3 w4 e3 e4 m
  rw [hTot] at cF
  have cN' := Lib.hid cNo
  have cF' := Lib.hid cF
  have HC := Lib.hid hgC
  have HW := Lib.hid hw1
  have Z1 := Lib.hid z1
  have B1 := Lib.hid b1
  have X1 := Lib.hid x1
  have HS := Lib.hid hS
  have HL := Lib.hid hlen
  have HN := Lib.hid hcount
  clear cNo cF hgC hw1 z1 b1 x1 hS hlen hcount hTot v1 v2 uT uo hL hc hT ho hA hNC hN
  refine (callsIn_wide (n := 9)).1 ?_
  refine callsIn_of_wp_marks Try.func9 rfl trivial ?_ rfl
  simp only [Try.ntmps9, List.size_toArray, List.length_cons, List.length_nil, Nat.reduceAdd, Nat.reduceSub, Array.replicate_succ, Array.replicate_zero, List.push_toArray, List.append_toArray, List.nil_append, List.cons_append]
  refine wpIn_wide.2 ?_
  go_upto_region 2 with (fail)
  rw [HW.out, HC.out]
  go_wp2_with fail
  refine cN'.out.mono ?_
  rintro e w2 ⟨gN, r, rfl, h1, h2, h3, h4, hS, hb2⟩
  rw [HS.out] at hS
  obtain ⟨w3, e3⟩ : ∃ v, w2.alloc (.cells #[.pointer T.ptr] 25) = v := ⟨_, rfl⟩
  obtain ⟨g2, hg2⟩ : ∃ g, w2.heap.size = g := ⟨_, rfl⟩
  have HS2 := Lib.hid hS
  have H1 := Lib.hid h1
  have H2 := Lib.hid h2
  have H3 := Lib.hid h3
  have H4 := Lib.hid h4
  have HB2 := Lib.hid hb2
  have E3 := Lib.hid e3
  have G2 := Lib.hid hg2
  clear hS h1 h2 h3 h4 hb2 e3 hg2 cN'
  go_wp2_with fail
  rw [E3.out, G2.out]
  refine (nodes13_any _ _ _ 1 1 w3).mono ?_
  rintro e w4 ⟨rfl, e4⟩
  have hseq := cF'.out w2 gN r (.of_below (Below.after B1.out HB2.out)) HS2.out (by have := H1.out; have := Z1.out; omega) (by have := H2.out; have := Z1.out; omega) H3.out H4.out w3 w4 E3.out (by rw [G2.out]; exact e4)
  have b3 : Below w2.heap.size w2 w3 := E3.out ▸ (Below.refl _ w2).alloc (Nat.le_refl _) _
  have b4 : Below w3.heap.size w3 w4 := e4 ▸ ((Below.refl _ w3).alloc (Nat.le_refl _) _).alloc (by simp) _
  have b14 := Below.after HB2.out (Below.after b3 b4)
  have x4 : Boxed w4 gC 3 (.int .i64 0) := Has.next (show Has _ _ _ _ from X1.out) b14
  have b04 := Below.after B1.out b14
  have hz4 : gN < w4.heap.size ∧ r < w4.heap.size := ⟨Nat.lt_of_lt_of_le H4.out (Below.after b3 b4).size, Nat.lt_of_lt_of_le H3.out (Below.after b3 b4).size⟩
  have hB4 : gC + 1 ≤ w4.heap.size := by have := b14.size; have := Z1.out; omega
  obtain ⟨z3, hz3⟩ : ∃ z, w3.heap.size = z := ⟨_, rfl⟩
  rw [hz3] at hseq ⊢
  clear e4 b3 b4 b14 cF' hz3
  go_wp2_with fail
  refine (wpIn_wide (n := 9)).1 ?_
  refine wpIn_rangeFunc_from (α := Value) (mine := mine13) rfl (by omega) (gf := 29) (lb := #[.pointer (some ⟨z3 + 1, 0, none⟩), .pointer (some ⟨z3, 0, none⟩)]) rfl trivial (enters_of Try.func29 (by kernel_rfl) rfl) (hseq _) hB4
    (fun xs W l o o' hl ho' hc ⟨e1, Ft, hF, hS⟩ => ⟨e1, Ft, hF, setN_put o' hS (by omega) (by omega) ho' hc⟩) Kf.trans (fun W l o o' _ h hc hw => Kf.putObj W l o o' (Nat.zero_le _) h hc) (Below.refl _ _) (fun _ => rfl)
    (fun pre W => Boxed W gC 3 (.int .i64 (pre.length : Int)) ∧ Below w.heap.size w W) (fun _ _ _ => False)
    (AbideF.and (AbideF.boxed gC _ _ (.inr (by omega))) (AbideF.below (by have := HC.out; omega) (Nat.le_refl _))) (fun _ _ _ _ h _ => h) ⟨x4, b04⟩
    (fun pre y a' W => pre.length + 1 ≤ 2000 ∧ a' = { tmps := #[.pointer T.ptr, .slice A n c, undef, undef, .int .i64 0, .pointer (some ⟨gC, 0, none⟩), .slice A n c, .func (.func 32) #[] #[.pointer (some ⟨gN, 0, none⟩)], .pointer T.ptr, .slice (some ⟨g2, 0, none⟩) 1 1, .func (.func 29) #[] #[.pointer (some ⟨z3 + 1, 0, none⟩), .pointer (some ⟨z3, 0, none⟩)], y, undef, undef, undef], defers := [] }) (fun _ _ _ _ _ _ _ h _ _ => h) ?assign ?body ?done ?stop
  case assign =>
    rintro L' pre y V KK hI hLi hK
    have hle : pre.length + 1 ≤ 2000 := by
      have h1 := hLi.length_le
      have h2 := HL.out
      simp only [List.length_append, List.length_cons, List.length_nil, List.length_map] at h1
      omega
    have hK2 := Lib.hid (hK { tmps := #[.pointer T.ptr, .slice A n c, undef, undef, .int .i64 0, .pointer (some ⟨gC, 0, none⟩), .slice A n c, .func (.func 32) #[] #[.pointer (some ⟨gN, 0, none⟩)], .pointer T.ptr, .slice (some ⟨g2, 0, none⟩) 1 1, .func (.func 29) #[] #[.pointer (some ⟨z3 + 1, 0, none⟩), .pointer (some ⟨z3, 0, none⟩)], y, undef, undef, undef], defers := [] } V (.refl _ _) (Kf.refl _ _ V) hI ⟨hle, rfl⟩)
    clear hK hI hLi hle
    gi_wp2
    first | exact hK2.out | simpa using hK2.out
  case body =>
    rintro L' pre y a' V hL - ⟨bC, hb⟩ ⟨hle, rfl⟩
    have xC := bC.cell
    have fC := bC.frozen
    have e1 : wrap64 ((pre.length : Int) + 1) = ((pre.length + 1 : Nat) : Int) := by unfold wrap64; omega
    have hX : Hid (Boxed (V.setCell ⟨gC, 0, none⟩ (.int .i64 ((pre.length + 1 : Nat) : Int))) gC 3 (.int .i64 ((pre.length + 1 : Nat) : Int))) := bC.set _
    have hb2 : Hid (Below w.heap.size w (V.setCell ⟨gC, 0, none⟩ (.int .i64 ((pre.length + 1 : Nat) : Int)))) := hb.setCell (p := ⟨gC, 0, none⟩) (by have := HC.out; show w.heap.size ≤ gC; omega) _
    have kf : Hid (Kf isInt 0 V (V.setCell ⟨gC, 0, none⟩ (.int .i64 ((pre.length + 1 : Nat) : Int)))) := Kf.store bC _ rfl (Nat.zero_le _)
    have kk : Hid (KeepsFrom (gC + 1) V (V.setCell ⟨gC, 0, none⟩ (.int .i64 ((pre.length + 1 : Nat) : Int)))) := .of_grownBy (grownBy_setCell' V gC _) (fun j e => by cases e; omega)
    obtain ⟨q, hq⟩ : ∃ q, pre.length = q := ⟨_, rfl⟩
    rw [hq] at e1 xC hX hb2 kf kk
    have HQ := Lib.hid hq
    clear bC hb hle hq
    gi_wp2
    refine ⟨kk.out, kf.out, ?_, hb2.out⟩
    rw [List.length_append, HQ.out]
    exact hX.out
  case done =>
    rintro D xs V hD ⟨rfl, -⟩ ⟨bC, hb⟩ hK
    have e1 : (valsT tot).length = N := by rw [List.length_map]; exact HN.out
    rw [e1] at bC
    have xC := bC.cell
    have hb' := Lib.hid hb
    clear hb bC e1
    go_wp2_with fail
    refine ⟨by simp, .inl ⟨_, _, rfl, run_takeDeferred hK, ?_⟩⟩
    exact ⟨_, results_tmp rfl _ _ _, rfl, hb'.out.trans (belowK_b (w := w) (Nat.le_refl _) V D _ _ (by have := b04.size; omega) hK rfl rfl)⟩
  case stop =>
    rintro D c pre V _ h _
    exact h.elim
theorem nodes_all (hN : NodeSays Nd) (w : World) (T : AT) (hT : Stand Nd w T) (hc : card T.addrs ≤ 2000) :
    Calls Try.prog 10 #[.pointer T.ptr] w fun e w' => e = .returned (nI (card T.addrs)) ∧ Below w.heap.size w w' := by
  have c1 : Hid (Calls Try.prog 9 #[.pointer T.ptr, .slice none 0 0] w fun e w' => e = .returned (nI (card T.addrs)) ∧ Below w.heap.size w w') := by
    have := new13_any hN w T [] none 0 0 hT (fun U hU => by cases hU) ⟨rfl, Nat.le_refl _, Nat.zero_le _, fun _ => rfl, Row.none_ _ _ _⟩ (by omega) (by simpa [addrsOf] using hc)
    rw [show addrsOf [] = [] from rfl, new_nil] at this
    exact this
  clear hN hT hc
  go_enter Try.func10, Try.ntmps10
  go_wp2_with fail
  refine c1.out.mono ?_
  rintro e w1 ⟨rfl, hb⟩
  have hb' := Lib.hid hb
  clear hb c1
  go_wp2_with fail
  go_ret
  exact ⟨rfl, hb'.out⟩
set_option maxHeartbeats 4000000 in
theorem same13_any (hN : NodeSays Nd) (w : World) (T U : AT) (hT : Stand Nd w T) (hU : Stand Nd w U) (hc : card (U.addrs ++ T.addrs) ≤ 2000) :
    Calls Try.prog 8 #[.pointer T.ptr, .pointer U.ptr] w fun e w' => e = .returned (nI (sameC T.addrs U.addrs)) ∧ Below w.heap.size w w' := by
  have hle : card T.addrs ≤ card (U.addrs ++ T.addrs) := card_sub fun a ha => List.mem_append_right _ ha
  have hs := new_same T.addrs U.addrs
  obtain ⟨a, ha⟩ : ∃ a, card T.addrs = a := ⟨_, rfl⟩
  obtain ⟨b, hb⟩ : ∃ b, newC T.addrs U.addrs = b := ⟨_, rfl⟩
  obtain ⟨d, hd⟩ : ∃ d, sameC T.addrs U.addrs = d := ⟨_, rfl⟩
  have c1 : Hid (Calls Try.prog 10 #[.pointer T.ptr] w fun e w' => e = .returned (.int .i64 (a : Int)) ∧ Below w.heap.size w w') := ha ▸ nodes_all hN w T hT (by omega)
  have c2 : Hid (∀ (W : World) (g : Nat), Below w.heap.size w W → W.heap.size = g → Calls Try.prog 9 #[.pointer T.ptr, .slice (some ⟨g, 0, none⟩) 1 1] (W.alloc (.cells #[.pointer U.ptr] 25)) fun e w' => e = .returned (.int .i64 (b : Int)) ∧ Below W.heap.size W w') := fun W g hW hg => by
    have hb2 : Below W.heap.size W (W.alloc (.cells #[.pointer U.ptr] 25)) := (Below.refl _ W).alloc (Nat.le_refl _) _
    have h2 := Below.after hW hb2
    have := new13_any hN (W.alloc (.cells #[.pointer U.ptr] 25)) T [U] (some ⟨g, 0, none⟩) 1 1 (hT.after hN h2) (fun V hV => by rw [List.mem_singleton.1 hV]; exact hU.after hN h2) (by rw [← hg]; exact one_lit W _ _) (by omega) (by simpa [addrsOf] using hc)
    rw [show addrsOf [U] = U.addrs by simp [addrsOf], hb] at this
    exact this.mono fun e w' ⟨h3, h4⟩ => ⟨h3, Below.after hb2 h4⟩
  rw [ha, hb, hd] at hs
  rw [ha] at hle
  rw [hd]
  have e1 : wrap64 ((a : Int) - (b : Int)) = (d : Int) := by unfold wrap64; omega
  clear hN hT hU ha hb hd hs hle hc
  go_enter Try.func8, Try.ntmps8
  go_wp2_with fail
  refine c1.out.mono ?_
  rintro e w1 ⟨rfl, hb⟩
  have hb' := Lib.hid hb
  obtain ⟨g, hg⟩ : ∃ g, w1.heap.size = g := ⟨_, rfl⟩
  have HG := Lib.hid hg
  clear hb c1 hg
  go_wp2_with fail
  rw [HG.out]
  refine (c2.out w1 g hb'.out HG.out).mono ?_
  rintro e w2 ⟨rfl, hb⟩
  have hb2 := Lib.hid (Below.after hb'.out hb)
  clear hb
  go_wp2_with fail
  go_ret
  refine ⟨?_, hb2.out⟩
  show Ending.returned (.int .i64 (wrap64 ((a : Int) - (b : Int)))) = _
  rw [e1]
end Go.Proofs.Ythhhkcjggfdagaa
namespace Go.Proofs.Ythhhkcjggfdagaa
open Go.RowKit Go.Shelf Go.Proofs.Treem Go.Proofs.Cardm
attribute [local go_sem] Oper.semAt_some
set_option maxRecDepth 100000
variable {Nd : NdP}

theorem goV_some {σ : Type} (step : σ → Option Addr → Bool × σ) : ∀ (T : AT) (s : σ), ∀ V ∈ (goV step T s).1, ∃ a, V.ptr = some a
  | .e, s, V, hV => by simp [goV] at hV
  | .n a x l r, s, V, hV => by
    unfold goV at hV
    split at hV
    · rcases List.mem_cons.1 hV with rfl | hV
      · exact ⟨a, rfl⟩
      · rcases List.mem_append.1 hV with hV | hV
        · exact goV_some step l _ V hV
        · exact goV_some step r _ V hV
    · cases hV
theorem eql13 (W : World) (p q : Option Addr) (h : GoodP W p) (k : GoodP W q) (b : Bool) (hb : decide (p = q) = b) : (binOp .eql 25 (.pointer p) (.pointer q)).run Try.prog W = .ok (.bool b) W := by
  obtain ⟨j, hj, hs⟩ := node_info
  have e := equal_ptr (P := Try.prog) W Try.underlying25 hj hs p q h k
  rw [hb] at e
  simp [binOp, e]
theorem results_cell1 {P : Program} {fn : Func} {p : Tmp} {t : TypeId} (h : fn.results = #[.cell p t]) (tmps : Array Value) (w : World) (gp : Nat) (x : Value)
    (hp : tmps.getD p undef = .pointer (some ⟨gp, 0, none⟩)) (lp : (loadVar t ⟨gp, 0, none⟩).run P w = .ok x w) : (results fn tmps).run P w = .ok x w := by
  have hp' : tmps[p]?.getD undef = .pointer (some ⟨gp, 0, none⟩) := by simpa using hp
  simp [results, h, hp', asAddr, lp]
theorem load_bool13 (w : World) (a : Addr) (x : Value) (h : w.cell? a = some x) : (loadVar 4 a).run Try.prog w = .ok x w := by
  simp [loadVar, h]
/-- what of In lies there -/
def InAt (w : World) (gV gR : Nat) (p : Option Addr) (b : Bool) (W : World) : Prop := Boxed W gV 25 (.pointer p) ∧ Boxed W gR 4 (.bool b) ∧ Below w.heap.size w W
set_option maxHeartbeats 8000000 in
theorem in13_any (hN : NodeSays Nd) (w : World) (T V : AT) (hT : Stand Nd w T) (hV : Stand Nd w V) (hc : card T.addrs ≤ 2000) :
    Calls Try.prog 16 #[.pointer T.ptr, .pointer V.ptr] w fun e w' => e = .returned (.bool (inB V.ptr T.addrs)) ∧ Below w.heap.size w w' := by
  have uT : U13 Nd w T.addrs T := ⟨hT.lies, fun b hb => hb⟩
  obtain ⟨v1, v2, v3⟩ := note_is hN (us := [T]) (S := []) (L0 := []) (vis_nil w w.heap.size) (fun a => by simp) (fun V hV => by rw [List.mem_singleton.1 hV]; exact hT.lies)
  have hsome := goV_some noteStep T []
  rw [← goL_one] at hsome
  have hgood : ∀ U ∈ (goL noteStep [T] []).1, GoodN w U.ptr := fun U hU => by
    obtain ⟨a, ha⟩ := hsome U hU
    have h1 : some a ∈ (goL noteStep [T] []).2 := by rw [v3]; exact List.mem_append_right _ (List.mem_map.2 ⟨U, hU, ha⟩)
    have h2 : a ∈ T.addrs := by have := (v2 a).1 h1; simpa [addrsOf] using this
    obtain ⟨Q, e, hq, -⟩ := AT.sub_at hT.lies a h2
    rw [ha, ← e]
    exact GoodN.root hN hq
  have hiff : Value.pointer V.ptr ∈ valsT (goL noteStep [T] []).1 ↔ inB V.ptr T.addrs = true := by
    constructor
    · intro h
      obtain ⟨U, hU, e⟩ := List.mem_map.1 h
      obtain ⟨a, ha⟩ := hsome U hU
      have e2 : V.ptr = some a := by rw [← ha]; simpa using e.symm
      have h1 : some a ∈ (goL noteStep [T] []).2 := by rw [v3]; exact List.mem_append_right _ (List.mem_map.2 ⟨U, hU, ha⟩)
      have h2 : a ∈ T.addrs := by have := (v2 a).1 h1; simpa [addrsOf] using this
      rw [e2]; simpa [inB] using h2
    · intro h
      cases hp : V.ptr with
      | none => rw [hp] at h; cases h
      | some a =>
        rw [hp] at h
        have h2 : a ∈ T.addrs := by simpa [inB] using h
        have h1 : some a ∈ (goL noteStep [T] []).2 := (v2 a).2 (by simpa [addrsOf] using h2)
        rw [v3, List.nil_append] at h1
        obtain ⟨U, hU, e⟩ := List.mem_map.1 h1
        exact List.mem_map.2 ⟨U, hU, by rw [e]⟩
  have gV0 : GoodN w V.ptr := GoodN.root hN hV.lies
  obtain ⟨tot, hTot⟩ : ∃ t, (goL noteStep [T] []).1 = t := ⟨_, rfl⟩
  obtain ⟨ans, hans⟩ : ∃ b, inB V.ptr T.addrs = b := ⟨_, rfl⟩
  obtain ⟨p, hp⟩ : ∃ p, V.ptr = p := ⟨_, rfl⟩
  rw [hTot] at hgood hiff
  rw [hans] at hiff ⊢
  rw [hp] at gV0 hiff ⊢
  obtain ⟨gV, hgV⟩ : ∃ g, w.heap.size = g := ⟨_, rfl⟩
  obtain ⟨gR, hgR⟩ : ∃ g, w.heap.size + 1 = g := ⟨_, rfl⟩
  obtain ⟨w1, hw1⟩ : ∃ v, (w.alloc (.cells #[.pointer p] 25)).alloc (.cells #[.bool false] 4) = v := ⟨_, rfl⟩
  have b1 : Below w.heap.size w w1 := hw1 ▸ ((Below.refl _ w).alloc (Nat.le_refl _) _).alloc (by simp) _
  have z1 : w1.heap.size = gV + 2 := by rw [← hw1, ← hgV]; simp
  have x1 : Boxed w1 gV 25 (.pointer p) := hgV ▸ hw1 ▸ Has.alloc (show Has _ _ _ _ from Boxed.new w _ _) _
  have y1 : Boxed w1 gR 4 (.bool false) := by
    have := Boxed.new (w.alloc (.cells #[.pointer p] 25)) 4 (.bool false)
    rw [hw1, World.size_alloc, hgR] at this
    exact this
  have hVR : gR = gV + 1 := by omega
  have cNo := noter_any hN w w1 b1 T.addrs hc [] (fun U hU => by cases hU) none 0 0 (by omega) ⟨rfl, Nat.le_refl _, Nat.zero_le _, fun _ => rfl, Row.none_ _ _ _⟩
  have cF := fun (w2 : World) (gN r : Nat) (hb : NK w w2) (hS' : SetN w T.addrs gN r [] w2) h1 h2 h3 h4 w3 w4 e3 e4 m => one_from hN w w2 hb T.addrs hc T uT [] gN r (gV + 2) (fun _ => false) rfl rfl rfl rfl rfl hS' h1 h2 h3 h4 w3 w4 e3 e4 m
  rw [hTot] at cF
  have cN' := Lib.hid cNo
  have cF' := Lib.hid cF
  have HV := Lib.hid hgV
  have HR := Lib.hid hgR
  have HW := Lib.hid hw1
  have Z1 := Lib.hid z1
  have B1 := Lib.hid b1
  have X1 := Lib.hid x1
  have Y1 := Lib.hid y1
  have HI := Lib.hid hiff
  have HG := Lib.hid hgood
  have GV := Lib.hid gV0
  have VR := Lib.hid hVR
  clear cNo cF hgV hgR hw1 z1 b1 x1 y1 hiff hgood gV0 hTot v1 v2 v3 uT hc hT hV hN hsome hp hans hVR
  refine (callsIn_wide (n := 9)).1 ?_
  refine callsIn_of_wp_marks Try.func16 rfl trivial ?_ rfl
  simp only [Try.ntmps16, List.size_toArray, List.length_cons, List.length_nil, Nat.reduceAdd, Nat.reduceSub, Array.replicate_succ, Array.replicate_zero, List.push_toArray, List.append_toArray, List.nil_append, List.cons_append]
  refine wpIn_wide.2 ?_
  go_upto_region 1 with (fail)
  rw [HW.out, HR.out, HV.out]
  go_wp2_with fail
  refine cN'.out.mono ?_
  rintro e w2 ⟨gN, r, rfl, h1, h2, h3, h4, hS, hb2⟩
  have hS : SetN w T.addrs gN r [] w2 := hS
  obtain ⟨w3, e3⟩ : ∃ v, w2.alloc (.cells #[.pointer T.ptr] 25) = v := ⟨_, rfl⟩
  obtain ⟨g2, hg2⟩ : ∃ g, w2.heap.size = g := ⟨_, rfl⟩
  have HS2 := Lib.hid hS
  have H1 := Lib.hid h1
  have H2 := Lib.hid h2
  have H3 := Lib.hid h3
  have H4 := Lib.hid h4
  have HB2 := Lib.hid hb2
  have E3 := Lib.hid e3
  have G2 := Lib.hid hg2
  clear hS h1 h2 h3 h4 hb2 e3 hg2 cN'
  go_wp2_with fail
  rw [E3.out, G2.out]
  refine (nodes13_any _ _ _ 1 1 w3).mono ?_
  rintro e w4 ⟨rfl, e4⟩
  have hseq := cF'.out w2 gN r (.of_below (Below.after B1.out HB2.out)) HS2.out (by have := H1.out; have := Z1.out; omega) (by have := H2.out; have := Z1.out; omega) H3.out H4.out w3 w4 E3.out (by rw [G2.out]; exact e4)
  have b3 : Below w2.heap.size w2 w3 := E3.out ▸ (Below.refl _ w2).alloc (Nat.le_refl _) _
  have b4 : Below w3.heap.size w3 w4 := e4 ▸ ((Below.refl _ w3).alloc (Nat.le_refl _) _).alloc (by simp) _
  have b14 := Below.after HB2.out (Below.after b3 b4)
  have h0 : InAt w gV gR p false w4 := ⟨Has.next (show Has _ _ _ _ from X1.out) b14, Has.next (show Has _ _ _ _ from Y1.out) b14, Below.after B1.out b14⟩
  have hz4 : gN < w4.heap.size ∧ r < w4.heap.size := ⟨Nat.lt_of_lt_of_le H4.out (Below.after b3 b4).size, Nat.lt_of_lt_of_le H3.out (Below.after b3 b4).size⟩
  have hB4 : gV + 2 ≤ w4.heap.size := by have := b14.size; have := Z1.out; omega
  have hgw : w.heap.size ≤ gV + 2 := by have := HV.out; omega
  obtain ⟨z3, hz3⟩ : ∃ z, w3.heap.size = z := ⟨_, rfl⟩
  rw [hz3] at hseq ⊢
  have H0 := Lib.hid h0
  clear e4 b3 b4 b14 cF' hz3 h0
  go_wp2_with fail
  refine (wpIn_wide (n := 9)).1 ?_
  have ab : ∀ b, AbideF mine13 (gV + 2) w4.heap.size w4.heap.size (fun (_ : List Value) W => InAt w gV gR p b W) := fun b => AbideF.and (AbideF.boxed gV _ _ (.inr (by omega))) (AbideF.and (AbideF.boxed gR _ _ (.inr (by have := VR.out; omega))) (AbideF.below hgw (Nat.le_refl _)))
  refine wpIn_rangeFunc_from (α := Value) (mine := mine13) rfl (by omega) (gf := 29) (lb := #[.pointer (some ⟨z3 + 1, 0, none⟩), .pointer (some ⟨z3, 0, none⟩)]) rfl trivial (enters_of Try.func29 (by kernel_rfl) rfl) (hseq _) hB4
    (fun xs W l o o' hl ho' hc ⟨e1, Ft, hF, hS⟩ => ⟨e1, Ft, hF, setN_put o' hS (by omega) (by omega) ho' hc⟩) Kf.trans (fun W l o o' _ h hc hw => Kf.putObj W l o o' (Nat.zero_le _) h hc) (Below.refl _ _) (fun _ => rfl)
    (fun pre W => InAt w gV gR p false W ∧ .pointer p ∉ pre) (fun c _ W => InAt w gV gR p true W ∧ c = .ret ∧ ans = true)
    (AbideF.and (ab false) (AbideF.pure _)) (fun c => AbideF.and (ab true) (AbideF.pure _)) ⟨H0.out, by simp⟩
    (fun pre y a' W => ∃ q, y = .pointer q ∧ GoodN w q ∧ .pointer q ∈ valsT tot ∧ a' = { tmps := #[.pointer T.ptr, .pointer p, undef, .pointer (some ⟨gV, 0, none⟩), .pointer (some ⟨gR, 0, none⟩), .pointer q, .func (.func 32) #[] #[.pointer (some ⟨gN, 0, none⟩)], .pointer T.ptr, .slice (some ⟨g2, 0, none⟩) 1 1, .func (.func 29) #[] #[.pointer (some ⟨z3 + 1, 0, none⟩), .pointer (some ⟨z3, 0, none⟩)], .pointer q, undef, undef, undef], defers := [] }) (fun _ _ _ _ _ _ _ h _ _ => h) ?assign ?body ?done ?stop
  case assign =>
    rintro L' pre y V' KK hI hLi hK
    have hy : y ∈ valsT tot := hLi.subset (by simp)
    obtain ⟨U, hU, rfl⟩ := List.mem_map.1 hy
    obtain ⟨q, hq⟩ : ∃ q, U.ptr = q := ⟨_, rfl⟩
    have hg := HG.out U hU
    rw [hq] at hg hy hK ⊢
    have hK2 := Lib.hid (hK _ V' (.refl _ _) (Kf.refl _ _ V') hI ⟨q, rfl, hg, hy, rfl⟩)
    clear hK hI hLi hg hy hU
    gi_wp2
    first | exact hK2.out | simpa using hK2.out
  case body =>
    rintro L' pre y a' V' hL - ⟨⟨bV, bR, hb⟩, hno⟩ ⟨q, rfl, hg, hm, rfl⟩
    have xV := bV.cell
    have hk : NK w V' := .of_below hb
    obtain ⟨b, hbq⟩ : ∃ b, decide (q = p) = b := ⟨_, rfl⟩
    have pe := eql13 V' q p (hg.good hk) (GV.out.good hk) b hbq
    cases b with
    | false =>
      have hne : q ≠ p := of_decide_eq_false hbq
      have hend : Hid (InAt w gV gR p false V' ∧ .pointer p ∉ pre ++ [.pointer q]) := ⟨⟨bV, bR, hb⟩, by simp; exact ⟨hno, fun e => hne e.symm⟩⟩
      clear hbq bV bR hb hno hg hm hk hne
      gi_wp2
      exact ⟨.refl _ _, Kf.refl _ _ V', hend.out⟩
    | true =>
      obtain rfl : q = p := of_decide_eq_true hbq
      have xR := bR.cell
      have fR := bR.frozen
      have kk : Hid (KeepsFrom (gV + 2) V' (V'.setCell ⟨gR, 0, none⟩ (.bool true))) := .of_grownBy (grownBy_setCell' V' gR _) (fun j e => by cases e; have := VR.out; omega)
      have hend : Hid (InAt w gV gR q true (V'.setCell ⟨gR, 0, none⟩ (.bool true)) ∧ ans = true) := ⟨⟨Has.far (show Has _ _ _ _ from bV) (by have := VR.out; show gV ≠ gR; omega) _, bR.set _, hb.setCell (p := ⟨gR, 0, none⟩) (by have := HR.out; show w.heap.size ≤ gR; omega) _⟩, HI.out.1 hm⟩
      clear hbq bV bR hb hno hg hm hk
      gi_wp2
      exact ⟨kk.out, hend.out.1, rfl, hend.out.2⟩
  case done =>
    rintro D xs V' hD ⟨rfl, -⟩ ⟨⟨bV, bR, hb⟩, hno⟩ hK
    obtain rfl : ans = false := by
      cases ans with
      | false => rfl
      | true => exact absurd (HI.out.2 rfl) hno
    have xR := bR.cell
    have fR := bR.frozen
    have hX2 : Has (V'.setCell ⟨gR, 0, none⟩ (.bool false)) gR 4 #[.bool false] := bR.set _
    have hb2 : Below w.heap.size w (V'.setCell ⟨gR, 0, none⟩ (.bool false)) := hb.setCell (p := ⟨gR, 0, none⟩) (by have := HR.out; show w.heap.size ≤ gR; omega) _
    have hK2 : (V'.setCell ⟨gR, 0, none⟩ (.bool false)).heap[D]? = some (.deferred (some [])) := (Below.heap_setCell _ _ _ D (fun e => by
      have e : D = gR := e
      subst e
      rw [show V'.heap[D]? = _ from bR] at hK
      cases hK)).trans hK
    have hX3 : Has ((V'.setCell ⟨gR, 0, none⟩ (.bool false)).putObj D (.deferred none)) gR 4 #[.bool false] := has_turned (B := 0) hX2 (grownBy_putObj' _ D _) (fun r e => by cases e; exact ⟨Nat.zero_le _, _, hK2, rfl⟩)
    clear bV hb hno
    go_wp2_with fail
    refine ⟨by simp, .inl ⟨_, _, rfl, run_takeDeferred hK2, ?_⟩⟩
    exact ⟨_, results_cell1 rfl _ _ gR _ rfl (load_bool13 _ _ _ (hX3.cell 0)), rfl, hb2.trans (belowK_b (w := w) (Nat.le_refl _) _ D _ _ (by have := H0.out.2.2.size; omega) hK2 rfl rfl)⟩
  case stop =>
    rintro D c pre V' hD ⟨⟨bV, bR, hb⟩, rfl, rfl⟩ hK
    have hX3 : Has (V'.putObj D (.deferred none)) gR 4 #[.bool true] := has_turned (B := 0) (show Has _ _ _ _ from bR) (grownBy_putObj' _ D _) (fun r e => by cases e; exact ⟨Nat.zero_le _, _, hK, rfl⟩)
    clear bV bR
    gi_wp2
    refine ⟨by simp, .inl ⟨_, _, rfl, run_takeDeferred hK, ?_⟩⟩
    exact ⟨_, results_cell1 rfl _ _ gR _ rfl (load_bool13 _ _ _ (hX3.cell 0)), rfl, hb.trans (belowK_b (w := w) (Nat.le_refl _) _ D _ _ (by have := H0.out.2.2.size; omega) hK rfl rfl)⟩
end Go.Proofs.Ythhhkcjggfdagaa
