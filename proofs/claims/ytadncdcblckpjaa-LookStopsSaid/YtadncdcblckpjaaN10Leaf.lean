/- Layer 10, package look as it landed: what lies on a side, which side is the greater one, one deeper. Made by wip/gen/layer10leaf.py. -/
import Derived.Test.YtadncdcblckpjaaL10Spot
import Derived.Test.YtadncdcblckpjaaGRound
import Derived.Laws.ResultCell
namespace Go.Proofs.Ytadncdcblckpjaa
open Go.RowKit Go.Shelf Go.Proofs.Treem Go.Proofs.Rowm
set_option maxRecDepth 100000
variable {Nd : NdP}

theorem size_any (hN : NodeSays Nd) (W : World) (B : Nat) (t : AT) (h : t.lies Nd W B) : Calls Try.prog 26 #[.pointer t.ptr] W fun e w' => e = .returned (K t.sz) ∧ Below W.heap.size W w' := by
  cases t with
  | e => exact (hN.size0 W).mono fun e w' h => ⟨h.1, h.2⟩
  | n a x l r => exact (hN.size W B a x h.1).mono fun e w' h => ⟨h.1, h.2 ▸ Below.refl _ _⟩
theorem left_any (hN : NodeSays Nd) (W : World) (B : Nat) (t : AT) (h : t.lies Nd W B) : Calls Try.prog 38 #[.pointer t.ptr] W fun e w' => e = .returned (.pointer (t.side true).ptr) ∧ Below W.heap.size W w' := by
  cases t with
  | e => exact (hN.left0 W).mono fun e w' h => ⟨h.1, h.2⟩
  | n a x l r => exact (hN.left W B a x h.1).mono fun e w' k => ⟨k.1.trans (by rw [h.2.1]; rfl), k.2 ▸ Below.refl _ _⟩
theorem right_any (hN : NodeSays Nd) (W : World) (B : Nat) (t : AT) (h : t.lies Nd W B) : Calls Try.prog 39 #[.pointer t.ptr] W fun e w' => e = .returned (.pointer (t.side false).ptr) ∧ Below W.heap.size W w' := by
  cases t with
  | e => exact (hN.right0 W).mono fun e w' h => ⟨h.1, h.2⟩
  | n a x l r => exact (hN.right W B a x h.1).mono fun e w' k => ⟨k.1.trans (by rw [h.2.2.1]; rfl), k.2 ▸ Below.refl _ _⟩
/-- a way over a tree: what tells the near side, what tells the far one -/
structure Sides (Nd : NdP) (d : Bool) (fN fF : FuncId) : Prop where
  eN : ∀ args W, (callFunc fN args).run Try.prog W = .ok (.enter fN args) W
  eF : ∀ args W, (callFunc fF args).run Try.prog W = .ok (.enter fF args) W
  cN : ∀ (W : World) (B : Nat) (t : AT), t.lies Nd W B → Calls Try.prog fN #[.pointer t.ptr] W fun e w' => e = .returned (.pointer (t.side d).ptr) ∧ Below W.heap.size W w'
  cF : ∀ (W : World) (B : Nat) (t : AT), t.lies Nd W B → Calls Try.prog fF #[.pointer t.ptr] W fun e w' => e = .returned (.pointer (t.side (!d)).ptr) ∧ Below W.heap.size W w'
theorem sides_right (hN : NodeSays Nd) : Sides Nd true 38 39 :=
  ⟨enters_of Try.func38 (by kernel_rfl) rfl, enters_of Try.func39 (by kernel_rfl) rfl, left_any hN, right_any hN⟩
theorem sides_left (hN : NodeSays Nd) : Sides Nd false 39 38 :=
  ⟨enters_of Try.func39 (by kernel_rfl) rfl, enters_of Try.func38 (by kernel_rfl) rfl, right_any hN, left_any hN⟩
abbrev wayV (fN fF : FuncId) : Value := .agg #[.func (.func fN) #[] #[], .func (.func fF) #[] #[]]
abbrev spotV (p : Option Addr) (k : Nat) : Value := .agg #[.pointer p, nI k]
theorem Has.pair {w : World} {g : Nat} {t : TypeId} {a b : Value} (h : Has w g t #[a, b]) : w.cell? ⟨g, 0, none⟩ = some a ∧ w.cell? ⟨g, 1, none⟩ = some b := ⟨h.cell 0, h.cell 1⟩
theorem two_next {w w' : World} {g : Nat} {t : TypeId} (h : ∃ a b, Has w g t #[a, b]) (hb : Below w.heap.size w w') : ∃ a b, Has w' g t #[a, b] := let ⟨a, b, hx⟩ := h; ⟨a, b, hx.next hb⟩
theorem Has.both {w : World} {g : Nat} {t : TypeId} {a b : Value} (h : Has w g t #[a, b]) (u v : Value) : Has ((w.setCell ⟨g, 0, none⟩ u).setCell ⟨g, 1, none⟩ v) g t #[u, v] := (h.set 0 u).set 1 v
theorem two_set {u w : World} {sz : Nat} {t : TypeId} {x0 x1 a b : Value} (v0 v1 : Value) (h0 : Has u sz t #[x0, x1]) (h1 : Has u (sz + 1) t #[a, b]) (hb : Below sz w u) :
    Has ((u.setCell ⟨sz + 1, 0, none⟩ v0).setCell ⟨sz + 1, 1, none⟩ v1) sz t #[x0, x1] ∧ (∃ a b, Has ((u.setCell ⟨sz + 1, 0, none⟩ v0).setCell ⟨sz + 1, 1, none⟩ v1) (sz + 1) t #[a, b]) ∧
      ((u.setCell ⟨sz + 1, 0, none⟩ v0).setCell ⟨sz + 1, 1, none⟩ v1).cell? ⟨sz, 0, none⟩ = some x0 ∧ ((u.setCell ⟨sz + 1, 0, none⟩ v0).setCell ⟨sz + 1, 1, none⟩ v1).cell? ⟨sz, 1, none⟩ = some x1 ∧ Below sz w ((u.setCell ⟨sz + 1, 0, none⟩ v0).setCell ⟨sz + 1, 1, none⟩ v1) := by
  have h := (h0.far (p := ⟨sz + 1, 0, none⟩) (by simp) v0).far (p := ⟨sz + 1, 1, none⟩) (by simp) v1
  exact ⟨h, ⟨_, _, h1.both v0 v1⟩, h.cell 0, h.cell 1, (hb.setCell (p := ⟨sz + 1, 0, none⟩) (by simp) v0).setCell (p := ⟨sz + 1, 1, none⟩) (by simp) v1⟩
theorem results_row1 {P : Program} {fn : Func} {p : Tmp} {ty : TypeId} (h : fn.results = #[.cell p ty]) (tmps : Array Value) (w : World) (g : Nat) (t : TypeId) (cs : Array Value) (fr : Nat × Nat) (d : TypeDesc)
    (hp : tmps.getD p undef = .pointer (some ⟨g, 0, none⟩)) (hg : w.heap[g]? = some (.cells cs t fr))
    (hu : P.underlying ty = some d) (hd : (match d with | .struct _ | .array _ _ => true | _ => false) = true) (hi : (P.info? ty).map (·.size) = some cs.size) :
    (results fn tmps).run P w = .ok (.agg cs) w := by
  have hp' : tmps[p]?.getD undef = .pointer (some ⟨g, 0, none⟩) := by simpa using hp
  simp [results, h, hp', asAddr, run_loadVar_row w g t ty cs fr d hg hu hd hi]
set_option maxHeartbeats 1000000 in
theorem greater_any (hN : NodeSays Nd) (d : Bool) (fN fF : FuncId) (hd : Sides Nd d fN fF) (w : World) (B : Nat) (hB : B ≤ w.heap.size) (t : AT) (h : t.lies Nd w B) :
    Calls Try.prog 42 #[wayV fN fF, .pointer t.ptr] w fun e w' => e = .returned (.bool (decide (((t.side (!d)).sz).toInt < ((t.side d).sz).toInt))) ∧ Below w.heap.size w w' := by
  have eN := hd.eN
  have eF := hd.eF
  have b0 : Hid (Below w.heap.size w (w.alloc (.cells #[.func (.func fN) #[] #[], .func (.func fF) #[] #[]] 63)).drew) := ((Below.refl _ w).alloc (Nat.le_refl _) _).drew
  have h0 := (Has.new w 63 #[.func (.func fN) #[] #[], .func (.func fF) #[] #[]]).pair
  obtain ⟨y0, y1⟩ := h0
  have c1 : Hid (∀ W, Below w.heap.size w W → Calls Try.prog fN #[.pointer t.ptr] W fun e w' => e = .returned (.pointer (t.side d).ptr) ∧ Below W.heap.size W w') := fun W hb => hd.cN W B t (h.next hN (hb.mono hB))
  have c2 : Hid (∀ W, Below w.heap.size w W → Calls Try.prog fF #[.pointer t.ptr] W fun e w' => e = .returned (.pointer (t.side (!d)).ptr) ∧ Below W.heap.size W w') := fun W hb => hd.cF W B t (h.next hN (hb.mono hB))
  have c3 : Hid (∀ W, Below w.heap.size w W → Calls Try.prog 26 #[.pointer (t.side d).ptr] W fun e w' => e = .returned (K (t.side d).sz) ∧ Below W.heap.size W w') := fun W hb => size_any hN W B _ ((h.next hN (hb.mono hB)).side d)
  have c4 : Hid (∀ W, Below w.heap.size w W → Calls Try.prog 26 #[.pointer (t.side (!d)).ptr] W fun e w' => e = .returned (K (t.side (!d)).sz) ∧ Below W.heap.size W w') := fun W hb => size_any hN W B _ ((h.next hN (hb.mono hB)).side (!d))
  clear h hd hN hB
  obtain ⟨p, hp⟩ : ∃ p, t.ptr = p := ⟨_, rfl⟩
  obtain ⟨p1, hp1⟩ : ∃ p, (t.side d).ptr = p := ⟨_, rfl⟩
  obtain ⟨p2, hp2⟩ : ∃ p, (t.side (!d)).ptr = p := ⟨_, rfl⟩
  obtain ⟨s1, hs1⟩ : ∃ s, (t.side d).sz = s := ⟨_, rfl⟩
  obtain ⟨s2, hs2⟩ : ∃ s, (t.side (!d)).sz = s := ⟨_, rfl⟩
  rw [hp, hp1] at c1
  rw [hp, hp2] at c2
  rw [hp1, hs1] at c3
  rw [hp2, hs2] at c4
  rw [hp, hs1, hs2]
  clear hp hp1 hp2 hs1 hs2
  obtain ⟨b, hb⟩ : ∃ b, decide (s2.toInt < s1.toInt) = b := ⟨_, rfl⟩
  have hb' := Lib.hid hb
  rw [hb]
  clear hb
  refine Calls.mono (R := fun e w' => e = .returned (.bool (decide (s2.toInt < s1.toInt))) ∧ Below w.heap.size w w') ?_ (fun e w' h => by rw [hb'.out] at h; exact h)
  go_enter Try.func42, Try.ntmps42
  go_wp2
  refine wp_region_only (S := fun u => u.cell? ⟨w.heap.size, 0, none⟩ = some (.func (.func fN) #[] #[]) ∧ u.cell? ⟨w.heap.size, 1, none⟩ = some (.func (.func fF) #[] #[]) ∧ Below w.heap.size w u) (by kernel_rfl) ⟨y0, y1, b0.out⟩ (fun hS => ?_)
  refine wpAnyH_take (i := 0) (oi := ?dqt0) (v := ?dvt0) ?hit0 (by kernel_rfl) (by kernel_rfl) (by kernel_rfl) ?hQt0 (Or.inl ⟨?hwt0, ?hyt0⟩) hS ?hrt0
  case hit0 => simp only [List.getElem?_toArray, List.getElem?_cons_zero]; rfl
  case hQt0 => exact only_panic
  case hwt0 => rfl
  case hyt0 => (intro w hSw; (try dsimp only at hSw); go_simp; (try with_reducible rfl))
  simp only [Act.put, List.setIfInBounds_toArray, List.set_cons_zero, List.set_cons_succ]
  refine wpAnyH_take (i := 1) (oi := ?dqt1) (v := ?dvt1) ?hit1 (by kernel_rfl) (by kernel_rfl) (by kernel_rfl) ?hQt1 (Or.inl ⟨?hwt1, ?hyt1⟩) hS ?hrt1
  case hit1 => simp only [List.getElem?_toArray, List.getElem?_cons_succ, List.getElem?_cons_zero]; rfl
  case hQt1 => exact only_panic
  case hwt1 => rfl
  case hyt1 => (intro w hSw; (try dsimp only at hSw); go_simp; (try with_reducible rfl))
  simp only [Act.put, List.setIfInBounds_toArray, List.set_cons_zero, List.set_cons_succ]
  refine wpAnyH_take (i := 2) (oi := ?dqt2) (v := ?dvt2) ?hit2 (by kernel_rfl) (by kernel_rfl) (by kernel_rfl) ?hQt2 (Or.inl ⟨?hwt2, ?hyt2⟩) hS ?hrt2
  case hit2 => simp only [List.getElem?_toArray, List.getElem?_cons_succ, List.getElem?_cons_zero]; rfl
  case hQt2 => exact only_panic
  case hwt2 => rfl
  case hyt2 => (intro w hSw; (try dsimp only at hSw); go_simp; (try with_reducible rfl))
  simp only [Act.put, List.setIfInBounds_toArray, List.set_cons_zero, List.set_cons_succ]
  refine wpAnyH_take (i := 5) (oi := ?dqt5) (v := ?dvt5) ?hit5 (by kernel_rfl) (by kernel_rfl) (by kernel_rfl) ?hQt5 (Or.inl ⟨?hwt5, ?hyt5⟩) hS ?hrt5
  case hit5 => simp only [List.getElem?_toArray, List.getElem?_cons_succ, List.getElem?_cons_zero]; rfl
  case hQt5 => exact only_panic
  case hwt5 => rfl
  case hyt5 => (intro w hSw; (try dsimp only at hSw); go_simp; (try with_reducible rfl))
  simp only [Act.put, List.setIfInBounds_toArray, List.set_cons_zero, List.set_cons_succ]
  refine wpAnyH_take (i := 6) (oi := ?dqt6) (v := ?dvt6) ?hit6 (by kernel_rfl) (by kernel_rfl) (by kernel_rfl) ?hQt6 (Or.inl ⟨?hwt6, ?hyt6⟩) hS ?hrt6
  case hit6 => simp only [List.getElem?_toArray, List.getElem?_cons_succ, List.getElem?_cons_zero]; rfl
  case hQt6 => exact only_panic
  case hwt6 => rfl
  case hyt6 => (intro w hSw; (try dsimp only at hSw); go_simp; (try with_reducible rfl))
  simp only [Act.put, List.setIfInBounds_toArray, List.set_cons_zero, List.set_cons_succ]
  refine wpAnyH_take (i := 7) (oi := ?dqt7) (v := ?dvt7) ?hit7 (by kernel_rfl) (by kernel_rfl) (by kernel_rfl) ?hQt7 (Or.inl ⟨?hwt7, ?hyt7⟩) hS ?hrt7
  case hit7 => simp only [List.getElem?_toArray, List.getElem?_cons_succ, List.getElem?_cons_zero]; rfl
  case hQt7 => exact only_panic
  case hwt7 => rfl
  case hyt7 => (intro w hSw; (try dsimp only at hSw); go_simp; (try with_reducible rfl))
  simp only [Act.put, List.setIfInBounds_toArray, List.set_cons_zero, List.set_cons_succ]
  refine wpAnyH_ready (rs := [3]) (by kernel_rfl) (by simp) (AllReadyH.cons (o := ?dqt3) ?hit3 (fun K hK => ?cct3) AllReadyH.nil)
  case hit3 => simp only [List.getElem?_toArray, List.getElem?_cons_succ, List.getElem?_cons_zero]; rfl
  case cct3 =>
    go_simp
    refine (c1.out _ hS.2.2).mono ?_
    rintro e u3 ⟨rfl, hb3⟩
    have hS2 := And.intro (keep_cell hb3 hS.1) (And.intro (keep_cell hb3 hS.2.1) (Below.after hS.2.2 hb3))
    clear hS
    refine hK.out _ _ hS2 (fun hS => ?_)
    clear hS2 hK K
    try simp only [Act.put, List.setIfInBounds_toArray, List.set_cons_zero, List.set_cons_succ]
    refine wpAnyH_ready (rs := [4]) (by kernel_rfl) (by simp) (AllReadyH.cons (o := ?dqt3x4) ?hit3x4 (fun K hK => ?cct3x4) AllReadyH.nil)
    case hit3x4 => simp only [List.getElem?_toArray, List.getElem?_cons_succ, List.getElem?_cons_zero]; rfl
    case cct3x4 =>
      go_simp
      refine (c3.out _ hS.2.2).mono ?_
      rintro e u4 ⟨rfl, hb4⟩
      have hS2 := And.intro (keep_cell hb4 hS.1) (And.intro (keep_cell hb4 hS.2.1) (Below.after hS.2.2 hb4))
      clear hS
      refine hK.out _ _ hS2 (fun hS => ?_)
      clear hS2 hK K
      try simp only [Act.put, List.setIfInBounds_toArray, List.set_cons_zero, List.set_cons_succ]
      refine wpAnyH_ready (rs := [8]) (by kernel_rfl) (by simp) (AllReadyH.cons (o := ?dqt3x4x8) ?hit3x4x8 (fun K hK => ?cct3x4x8) AllReadyH.nil)
      case hit3x4x8 => simp only [List.getElem?_toArray, List.getElem?_cons_succ, List.getElem?_cons_zero]; rfl
      case cct3x4x8 =>
        go_simp
        refine (c2.out _ hS.2.2).mono ?_
        rintro e u8 ⟨rfl, hb8⟩
        have hS2 := And.intro (keep_cell hb8 hS.1) (And.intro (keep_cell hb8 hS.2.1) (Below.after hS.2.2 hb8))
        clear hS
        refine hK.out _ _ hS2 (fun hS => ?_)
        clear hS2 hK K
        try simp only [Act.put, List.setIfInBounds_toArray, List.set_cons_zero, List.set_cons_succ]
        refine wpAnyH_ready (rs := [9]) (by kernel_rfl) (by simp) (AllReadyH.cons (o := ?dqt3x4x8x9) ?hit3x4x8x9 (fun K hK => ?cct3x4x8x9) AllReadyH.nil)
        case hit3x4x8x9 => simp only [List.getElem?_toArray, List.getElem?_cons_succ, List.getElem?_cons_zero]; rfl
        case cct3x4x8x9 =>
          go_simp
          refine (c4.out _ hS.2.2).mono ?_
          rintro e u9 ⟨rfl, hb9⟩
          have hS2 := And.intro (keep_cell hb9 hS.1) (And.intro (keep_cell hb9 hS.2.1) (Below.after hS.2.2 hb9))
          clear hS
          refine hK.out _ _ hS2 (fun hS => ?_)
          clear hS2 hK K
          try simp only [Act.put, List.setIfInBounds_toArray, List.set_cons_zero, List.set_cons_succ]
          refine wpAnyH_take (i := 10) (oi := ?dqt3x4x8x9x10) (v := ?dvt3x4x8x9x10) ?hit3x4x8x9x10 (by kernel_rfl) (by kernel_rfl) (by kernel_rfl) ?hQt3x4x8x9x10 (Or.inl ⟨?hwt3x4x8x9x10, ?hyt3x4x8x9x10⟩) hS ?hrt3x4x8x9x10
          case hit3x4x8x9x10 => simp only [List.getElem?_toArray, List.getElem?_cons_succ, List.getElem?_cons_zero]; rfl
          case hQt3x4x8x9x10 => exact only_panic
          case hwt3x4x8x9x10 => rfl
          case hyt3x4x8x9x10 => (intro w hSw; (try dsimp only at hSw); go_simp; (try with_reducible rfl))
          simp only [Act.put, List.setIfInBounds_toArray, List.set_cons_zero, List.set_cons_succ]
          refine wpAnyH_take (i := 11) (oi := ?dqt3x4x8x9x11) (v := ?dvt3x4x8x9x11) ?hit3x4x8x9x11 (by kernel_rfl) (by kernel_rfl) (by kernel_rfl) ?hQt3x4x8x9x11 (Or.inl ⟨?hwt3x4x8x9x11, ?hyt3x4x8x9x11⟩) hS ?hrt3x4x8x9x11
          case hit3x4x8x9x11 => simp only [List.getElem?_toArray, List.getElem?_cons_succ, List.getElem?_cons_zero]; rfl
          case hQt3x4x8x9x11 => exact only_panic
          case hwt3x4x8x9x11 => rfl
          case hyt3x4x8x9x11 => (intro w hSw; (try dsimp only at hSw); go_simp; (try with_reducible rfl))
          simp only [Act.put, List.setIfInBounds_toArray, List.set_cons_zero, List.set_cons_succ]
          refine wpAnyH_done (by kernel_rfl) ?_ _
          dsimp only [OnlyNormal]
          have hb9 := Lib.hid hS.2.2
          clear hS
          go_wp2
          go_ret
          first | exact ⟨rfl, hb9.out⟩ | exact ⟨by rfl, hb9.out⟩
set_option maxHeartbeats 1000000 in
theorem below_any (fS : FuncId) (eS : ∀ args W, (callFunc fS args).run Try.prog W = .ok (.enter fS args) W) (p q : Option Addr) (k : Nat) (hk : k ≤ 5000) (w : World)
    (h : ∀ W, Below w.heap.size w W → Calls Try.prog fS #[.pointer p] W fun e w' => e = .returned (.pointer q) ∧ Below W.heap.size W w') :
    Calls Try.prog 43 #[spotV p k, .func (.func fS) #[] #[]] w fun e w' => e = .returned (spotV q (k + 1)) ∧ Below w.heap.size w w' := by
  obtain ⟨sz, hsz⟩ : ∃ n, w.heap.size = n := ⟨_, rfl⟩
  have hsz' := Lib.hid hsz
  have c1 : Hid (∀ W, Below sz w W → Calls Try.prog fS #[.pointer p] W fun e w' => e = .returned (.pointer q) ∧ Below W.heap.size W w') := hsz ▸ h
  have e1 : (k : Int) + 1 = ((k + 1 : Nat) : Int) := by omega
  have e2 : IntKind.i64.wrap ((k : Int) + 1) = ((k + 1 : Nat) : Int) := by rw [e1]; exact IntWalk.i64_in _ (by omega)
  obtain ⟨k1, hk1⟩ : ∃ m, k + 1 = m := ⟨_, rfl⟩
  rw [hk1] at e2 ⊢
  clear h e1 hk1 hk
  obtain ⟨W0, hW0⟩ : ∃ W0, (w.alloc (.cells #[.pointer p, nI k] 67)).alloc (.cells #[.pointer none, .int .i64 0] 67) = W0 := ⟨_, rfl⟩
  have h0 : Has W0 sz 67 #[.pointer p, nI k] := hW0 ▸ hsz ▸ (Has.new w 67 #[.pointer p, nI k]).alloc _
  have h1 : Has W0 (sz + 1) 67 #[.pointer none, .int .i64 0] := by
    have := Has.new (w.alloc (.cells #[.pointer p, nI k] 67)) 67 #[.pointer none, .int .i64 0]
    rw [World.size_alloc, hsz] at this
    rw [← hW0]; exact this
  have b0 : Below w.heap.size w W0 := hW0 ▸ ((Below.refl _ w).alloc (Nat.le_refl _) _).alloc (by simp) _
  have b0' : Hid (Below sz w W0) := hsz ▸ b0
  go_enter Try.func43, Try.ntmps43
  go_wp2

  clear hW0 b0 hsz
  refine wp_region_only (S := fun u => Has u sz 67 #[.pointer p, nI k] ∧ (∃ a b, Has u (sz + 1) 67 #[a, b]) ∧ u.cell? ⟨sz, 0, none⟩ = some (.pointer p) ∧ u.cell? ⟨sz, 1, none⟩ = some (nI k) ∧ Below sz w u) (by kernel_rfl) ⟨h0, ⟨_, _, h1⟩, h0.cell 0, h0.cell 1, b0'.out.drew⟩ (fun hS => ?_)
  refine wpAnyH_take (i := 0) (oi := ?dqb0) (v := ?dvb0) ?hib0 (by kernel_rfl) (by kernel_rfl) (by kernel_rfl) ?hQb0 (Or.inl ⟨?hwb0, ?hyb0⟩) hS ?hrb0
  case hib0 => simp only [List.getElem?_toArray, List.getElem?_cons_zero]; rfl
  case hQb0 => exact only_panic
  case hwb0 => rfl
  case hyb0 => (intro w hSw; (try dsimp only at hSw); go_simp; (try with_reducible rfl))
  simp only [Act.put, List.setIfInBounds_toArray, List.set_cons_zero, List.set_cons_succ]
  refine wpAnyH_take (i := 1) (oi := ?dqb1) (v := ?dvb1) ?hib1 (by kernel_rfl) (by kernel_rfl) (by kernel_rfl) ?hQb1 (Or.inl ⟨?hwb1, ?hyb1⟩) hS ?hrb1
  case hib1 => simp only [List.getElem?_toArray, List.getElem?_cons_succ, List.getElem?_cons_zero]; rfl
  case hQb1 => exact only_panic
  case hwb1 => rfl
  case hyb1 => (intro w hSw; (try dsimp only at hSw); go_simp; (try with_reducible rfl))
  simp only [Act.put, List.setIfInBounds_toArray, List.set_cons_zero, List.set_cons_succ]
  refine wpAnyH_take (i := 2) (oi := ?dqb2) (v := ?dvb2) ?hib2 (by kernel_rfl) (by kernel_rfl) (by kernel_rfl) ?hQb2 (Or.inl ⟨?hwb2, ?hyb2⟩) hS ?hrb2
  case hib2 => simp only [List.getElem?_toArray, List.getElem?_cons_succ, List.getElem?_cons_zero]; rfl
  case hQb2 => exact only_panic
  case hwb2 => rfl
  case hyb2 => (intro w hSw; (try dsimp only at hSw); go_simp; (try with_reducible rfl))
  simp only [Act.put, List.setIfInBounds_toArray, List.set_cons_zero, List.set_cons_succ]
  refine wpAnyH_take (i := 4) (oi := ?dqb4) (v := ?dvb4) ?hib4 (by kernel_rfl) (by kernel_rfl) (by kernel_rfl) ?hQb4 (Or.inl ⟨?hwb4, ?hyb4⟩) hS ?hrb4
  case hib4 => simp only [List.getElem?_toArray, List.getElem?_cons_succ, List.getElem?_cons_zero]; rfl
  case hQb4 => exact only_panic
  case hwb4 => rfl
  case hyb4 => (intro w hSw; (try dsimp only at hSw); go_simp; (try with_reducible rfl))
  simp only [Act.put, List.setIfInBounds_toArray, List.set_cons_zero, List.set_cons_succ]
  refine wpAnyH_take (i := 5) (oi := ?dqb5) (v := ?dvb5) ?hib5 (by kernel_rfl) (by kernel_rfl) (by kernel_rfl) ?hQb5 (Or.inl ⟨?hwb5, ?hyb5⟩) hS ?hrb5
  case hib5 => simp only [List.getElem?_toArray, List.getElem?_cons_succ, List.getElem?_cons_zero]; rfl
  case hQb5 => exact only_panic
  case hwb5 => rfl
  case hyb5 => (intro w hSw; (try dsimp only at hSw); go_simp; (try with_reducible rfl))
  simp only [Act.put, List.setIfInBounds_toArray, List.set_cons_zero, List.set_cons_succ]
  refine wpAnyH_take (i := 6) (oi := ?dqb6) (v := ?dvb6) ?hib6 (by kernel_rfl) (by kernel_rfl) (by kernel_rfl) ?hQb6 (Or.inl ⟨?hwb6, ?hyb6⟩) hS ?hrb6
  case hib6 => simp only [List.getElem?_toArray, List.getElem?_cons_succ, List.getElem?_cons_zero]; rfl
  case hQb6 => exact only_panic
  case hwb6 => rfl
  case hyb6 => (intro w hSw; (try dsimp only at hSw); go_simp; (try with_reducible rfl))
  simp only [Act.put, List.setIfInBounds_toArray, List.set_cons_zero, List.set_cons_succ]
  refine wpAnyH_ready (rs := [3]) (by kernel_rfl) (by simp) (AllReadyH.cons (o := ?dqb3) ?hib3 (fun K hK => ?ccb3) AllReadyH.nil)
  case hib3 => simp only [List.getElem?_toArray, List.getElem?_cons_succ, List.getElem?_cons_zero]; rfl
  case ccb3 =>
    go_simp
    refine (c1.out _ hS.2.2.2.2).mono ?_
    rintro e u3 ⟨rfl, hb3⟩
    have hS2 := And.intro (hS.1.next hb3) (And.intro (two_next hS.2.1 hb3) (And.intro (keep_cell hb3 hS.2.2.1) (And.intro (keep_cell hb3 hS.2.2.2.1) (hS.2.2.2.2.trans (hb3.mono (Nat.le_of_lt hS.1.lt))))))
    clear hS
    refine hK.out _ _ hS2 (fun hS => ?_)
    clear hS2 hK K
    try simp only [Act.put, List.setIfInBounds_toArray, List.set_cons_zero, List.set_cons_succ]
    refine wpAnyH_take (i := 7) (oi := ?dqb3x7) (v := ?dvb3x7) ?hib3x7 (by kernel_rfl) (by kernel_rfl) (by kernel_rfl) ?hQb3x7 (Or.inl ⟨?hwb3x7, ?hyb3x7⟩) hS ?hrb3x7
    case hib3x7 => simp only [List.getElem?_toArray, List.getElem?_cons_succ, List.getElem?_cons_zero]; rfl
    case hQb3x7 => exact only_panic
    case hwb3x7 => rfl
    case hyb3x7 => (intro w hSw; (try dsimp only at hSw); go_simp; (try with_reducible rfl))
    simp only [Act.put, List.setIfInBounds_toArray, List.set_cons_zero, List.set_cons_succ]
    refine wpAnyH_ready (rs := [8]) (by kernel_rfl) (by simp) (AllReadyH.cons (o := ?dqb3x8) ?hib3x8 (fun K hK => ?ccb3x8) AllReadyH.nil)
    case hib3x8 => simp only [List.getElem?_toArray, List.getElem?_cons_succ, List.getElem?_cons_zero]; rfl
    case ccb3x8 =>
      go_simp
      obtain ⟨a9, b9, hH⟩ := hS.2.1
      have z0 := hH.cell 0
      have z1 := hH.cell 1
      have f0 := hH.free 0
      have f1 := hH.free 1
      have hS3 := Lib.hid (two_set (.pointer q) (nI k1) hS.1 hH hS.2.2.2.2)
      have hT := Lib.hid (hH.both (.pointer q) (nI k1))
      clear hS
      go_simp
      have hS := hS3.out
      have hS2 := hS3.out
      clear hS
      refine hK.out _ _ hS2 (fun hS => ?_)
      clear hS2 hK K
      try simp only [Act.put, List.setIfInBounds_toArray, List.set_cons_zero, List.set_cons_succ]
      refine wpAnyH_done (by kernel_rfl) ?_ _
      dsimp only [OnlyNormal]
      clear hS
      go_wp2
      exact bodyPost_ret (results_row1 rfl _ _ (sz + 1) _ _ _ _ rfl hT.out Try.underlying67 rfl (by kernel_rfl)) rfl ⟨rfl, hsz'.out ▸ hS3.out.2.2.2.2⟩
end Go.Proofs.Ytadncdcblckpjaa
