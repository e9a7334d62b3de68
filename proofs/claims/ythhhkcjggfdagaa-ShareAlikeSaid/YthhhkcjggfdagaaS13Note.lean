/- Layer 13, as landed: a function that notes nodes; going over nodes for the sake of that. -/
import Derived.Test.YthhhkcjggfdagaaS13Nodes
namespace Go.Proofs.Ythhhkcjggfdagaa
open Go.RowKit Go.Shelf Go.Proofs.Treem Go.Proofs.Cardm
attribute [local go_sem] Oper.semAt_some
set_option maxRecDepth 100000
variable {Nd : NdP}

theorem zero_bool13 (W : World) : (zeroValue 4).run Try.prog W = .ok (.bool false) W := by kernel_rfl
theorem look13 (W : World) (r : Nat) (S : List (Option Addr)) (hr : W.heap[r]? = some (setO S)) (hg : ∀ q ∈ S, GoodP W q) (p : Option Addr) (h : GoodP W p) (B : Bool) (hB : decide (p ∈ S) = B) :
    (Instr.lookup 62 (.map (some r)) (.pointer p) false).run Try.prog W = .ok (.bool B) W := by
  obtain ⟨j, hj, hs⟩ := node_info
  exact look_ptr W Try.underlying62 Try.underlying25 hj hs (zero_bool13 W) r S hr hg p h B hB
theorem put13 (W : World) (r : Nat) (S : List (Option Addr)) (hr : W.heap[r]? = some (setO S)) (hg : ∀ q ∈ S, GoodP W q) (p : Option Addr) (h : GoodP W p) :
    (Instr.mapUpdate 62 (.map (some r)) (.pointer p) (.bool true)).run Try.prog W = .ok () (W.putObj r (setO (insP S p))) := by
  obtain ⟨j, hj, hs⟩ := node_info
  exact put_any W Try.underlying62 Try.underlying25 hj hs r S hr hg p h
theorem note_any (W : World) (gN r : Nat) (S : List (Option Addr)) (p : Option Addr) (hb : Boxed W gN 62 (.map (some r))) (hr : W.heap[r]? = some (setO S)) (hg : ∀ q ∈ S, GoodP W q) (h : GoodP W p) :
    Calls Try.prog 32 #[.pointer p, .pointer (some ⟨gN, 0, none⟩)] W fun e W' => e = .returned (.bool (!decide (p ∈ S))) ∧ W.putObj r (setO (insP S p)) = W' := by
  have xN := hb.cell
  have lk := look13 W r S hr hg p h _ rfl
  have pt := put13 W r S hr hg p h
  obtain ⟨B, hB⟩ : ∃ b, decide (p ∈ S) = b := ⟨_, rfl⟩
  obtain ⟨W1, hW1⟩ : ∃ V, W.putObj r (setO (insP S p)) = V := ⟨_, rfl⟩
  rw [hB] at lk ⊢
  rw [hW1] at pt ⊢
  clear hB hW1 hb hr hg h
  go_enter Try.func32, Try.ntmps32
  go_wp2_with fail
  go_ret
  exact ⟨rfl, rfl⟩
def mine13 (t : TypeId) : Bool := t == 25 || t == 62 || t == 30 || t == 48
def U13 (Nd : NdP) (w0 : World) (L : List Addr) (T : AT) : Prop := T.lies Nd w0 w0.heap.size ∧ ∀ b ∈ T.addrs, b ∈ L
theorem U13.sides {w0 : World} {L : List Addr} (a : Addr) (x : No) (l r : AT) (h : U13 Nd w0 L (.n a x l r)) : U13 Nd w0 L l ∧ U13 Nd w0 L r :=
  ⟨⟨h.1.2.2.2.1, fun b hb => h.2 b (AT.mem_n.2 (.inr (.inl hb)))⟩, ⟨h.1.2.2.2.2, fun b hb => h.2 b (AT.mem_n.2 (.inr (.inr hb)))⟩⟩
/-- where a set of nodes lies that are noted -/
structure SetN (w0 : World) (L : List Addr) (gN r : Nat) (S : List (Option Addr)) (W : World) : Prop where
  box : Boxed W gN 62 (.map (some r))
  set : W.heap[r]? = some (setO S)
  nk : NK w0 W
  good : ∀ q ∈ S, GoodN w0 q
  nodup : S.Nodup
  sub : ∀ p ∈ S, ∃ a, a ∈ L ∧ p = some a
theorem SetN.frame {w0 W W' : World} {L : List Addr} {gN r : Nat} {S : List (Option Addr)} (h : SetN w0 L gN r S W) (hk : NK W W') (h1 : W'.heap[gN]? = W.heap[gN]?) (h2 : W'.heap[r]? = W.heap[r]?) : SetN w0 L gN r S W' :=
  ⟨(show W'.heap[gN]? = _ from h1.trans h.box), h2.trans h.set, h.nk.trans hk, h.good, h.nodup, h.sub⟩
theorem SetN.ne {w0 W : World} {L : List Addr} {gN r : Nat} {S : List (Option Addr)} (h : SetN w0 L gN r S W) : gN ≠ r := fun e => by
  have h1 : W.heap[gN]? = _ := h.box
  rw [e, h.set] at h1
  cases h1
theorem SetN.put {w0 W : World} {L : List Addr} {gN r : Nat} {S : List (Option Addr)} (h : SetN w0 L gN r S W) {p : Option Addr} (hp : GoodN w0 p) (hL : ∃ a, a ∈ L ∧ p = some a) : SetN w0 L gN r (insP S p) (W.putObj r (setO (insP S p))) := by
  refine ⟨(World.putObj_heap_other h.ne).trans h.box, World.putObj_heap_same (Array.getElem?_eq_some_iff.1 h.set).1, h.nk.trans (.of_grown (grownBy_putObj' W r _) (fun k e cs hc => ?_)), fun q hq => ?_, insP_nodup h.nodup p, fun q hq => ?_⟩
  · cases e
    rw [h.set] at hc
    cases hc
  · rcases (insP_mem _ _ _).1 hq with hq | rfl
    · exact h.good q hq
    · exact hp
  · rcases (insP_mem _ _ _).1 hq with hq | rfl
    · exact h.sub q hq
    · exact hL
theorem SetN.len {w0 W : World} {L : List Addr} {gN r : Nat} {S : List (Option Addr)} (h : SetN w0 L gN r S W) : S.length ≤ card L := by
  have h1 := card_nodup S h.nodup
  have h2 : card S ≤ card (L.map some) := card_sub fun p hp => by
    obtain ⟨a, ha, rfl⟩ := h.sub p hp
    exact List.mem_map.2 ⟨a, ha, rfl⟩
  rw [card_some] at h2
  omega
abbrev EnvN (w0 : World) (L : List Addr) (gN r : Nat) (S : List (Option Addr)) (Ft : Nat → Prop) (W : World) : Prop := (Ft = fun k => k = gN ∨ k = r) ∧ SetN w0 L gN r S W
theorem note_enters : Enters Try.prog 32 := enters_of Try.func32 (by kernel_rfl) rfl
theorem note_goes (hN : NodeSays Nd) (w0 : World) (L : List Addr) (gN r B C : Nat) (free : TypeId → Bool) (hf : free 62 = false) (h1 : B ≤ gN) (h2 : B ≤ r) (h3 : r < C) :
    GoesOn Nd w0 32 #[.pointer (some ⟨gN, 0, none⟩)] B C mine13 free (U13 Nd w0 L) noteStep (fun S => card L - S.length) (EnvN w0 L gN r) where
  enters := note_enters
  calls := fun S Ft W a x l rr ⟨hFt, hS⟩ hU hk => by
    have hgood : GoodN w0 (some a) := GoodN.root hN (T := .n a x l rr) hU.1
    refine (note_any W gN r S (some a) hS.box hS.set (fun q hq => (hS.good q hq).good hS.nk) (hgood.good hk)).mono ?_
    rintro e W' ⟨rfl, rfl⟩
    exact ⟨rfl, Ft, ⟨hFt, hS.put hgood ⟨a, hU.2 a (AT.mem_n.2 (.inl rfl)), rfl⟩⟩, Keep.put W r _ (by rw [hFt]; exact .inr rfl), fun k hx => .inl hx⟩
  foot := fun S Ft W ⟨hFt, hS⟩ k hk => by
    rw [hFt] at hk
    rcases hk with rfl | rfl
    · exact ⟨h1, _, hS.box, .inr ⟨_, _, _, rfl, rfl, hf, by decide⟩⟩
    · exact ⟨h2, _, hS.set, .inl ⟨rfl, h3⟩⟩
  frame := fun S Ft W W' ⟨hFt, hS⟩ hr => ⟨hFt, hS.frame hr.nk (hr.same gN (by rw [hFt]; exact .inl rfl)) (hr.same r (by rw [hFt]; exact .inr rfl))⟩
  less := fun S Ft W a x l rr ⟨hFt, hS⟩ hU => by
    have hgood : GoodN w0 (some a) := GoodN.root hN (T := .n a x l rr) hU.1
    have h4 := (hS.put hgood ⟨a, hU.2 a (AT.mem_n.2 (.inl rfl)), rfl⟩).len
    simp only [noteStep]
    by_cases hx : some a ∈ S
    · simp [insP, hx]
    · simp only [insP, hx, if_false, List.length_append, List.length_cons, List.length_nil] at h4 ⊢
      simp
      omega
theorem nodes13_any (F : FuncId) (cap : Array Value) (A : Option Addr) (n c : Nat) (w : World) : Calls Try.prog 19 #[.func (.func F) #[] cap, .slice A n c] w fun e w' =>
    e = .returned (.func (.func 29) #[] #[.pointer (some ⟨w.heap.size + 1, 0, none⟩), .pointer (some ⟨w.heap.size, 0, none⟩)]) ∧ (w.alloc (.cells #[.func (.func F) #[] cap] 48)).alloc (.cells #[.slice A n c] 30) = w' := by
  go_enter Try.func19, Try.ntmps19
  go_wp2
  go_ret
  exact ⟨rfl, rfl⟩
set_option maxHeartbeats 4000000 in
theorem goOver_any {B g : Nat} {mine free : TypeId → Bool} {lb : Array Value} {Lies : List Value → Value → World → Prop} {S : List Value → World → Prop} (w : World) (hB : B ≤ w.heap.size) (he : Enters Try.prog g)
    (hseq : ∀ n, SeqFrom B mine Fence.wide n Try.prog g lb (fun y => #[y]) (Kf free 0) Lies S w) (hS : ∀ (xs : List Value) (W : World) (l : Nat) (o o' : Obj), w.heap.size ≤ l → W.heap[l]? = some o → o.isCells = false → S xs W → S xs (W.putObj l o')) :
    Calls Try.prog 22 #[.func (.func g) #[] lb] w fun e w' => (∃ v, e = .returned v) ∧ (∃ xs, S xs w') ∧ TurnF mine B w.heap.size w.heap.size w w' := by
  have henter : ∀ (args : Array Value) (V : World), (callFunc g args).run Try.prog V = .ok (.enter g args) V := he
  have hS' := Lib.hid hS
  have hseq' := Lib.hid hseq
  clear hS hseq
  refine (callsIn_wide (n := 9)).1 ?_
  refine callsIn_of_wp_marks Try.func22 rfl trivial ?_ rfl
  simp only [Try.ntmps22, List.size_toArray, List.length_cons, List.length_nil, Nat.reduceAdd, Nat.reduceSub, Array.replicate_succ, Array.replicate_zero, List.push_toArray, List.append_toArray, List.nil_append, List.cons_append]
  refine wpIn_wide.2 ?_
  go_wp2_with fail
  refine (wpIn_wide (n := 9)).1 ?_
  refine wpIn_rangeFunc_from (α := Value) (mine := mine) rfl (by omega) (gf := g) (lb := lb) rfl trivial henter (hseq'.out _) hB (fun xs W l o o' h1 h2 h3 h4 => hS'.out xs W l o o' h1 h2 h3 h4) Kf.trans (fun W l o o' _ h hc hw => Kf.putObj W l o o' (Nat.zero_le _) h hc) (Below.refl _ _) (fun _ => rfl)
    (fun _ W => TurnF mine B w.heap.size w.heap.size w W) (fun _ _ _ => False) (AbideF.turn w) (fun _ _ _ _ h _ => h) (TurnF.refl _ _ _ _ _)
    (fun _ _ _ _ => True) (fun _ _ _ _ _ _ _ _ _ _ => trivial) ?assign ?body ?done ?stop
  case assign =>
    rintro L pre y V KK hI - hK
    have hK2 := Lib.hid (fun a' => hK a' V (.refl _ _) (Kf.refl _ _ V) hI trivial)
    clear hK hI
    gi_wp2
    exact hK2.out _
  case body =>
    rintro L pre y a' V hL - hI -
    have hI' := Lib.hid hI
    clear hI
    gi_wp2
    exact ⟨.refl _ _, Kf.refl _ _ V, hI'.out⟩
  case done =>
    rintro D xs V hD hs hI hK
    go_wp2_with fail
    refine ⟨by simp, .inl ⟨_, _, rfl, run_takeDeferred hK, ?_⟩⟩
    exact ⟨_, results_none rfl _ _ _, ⟨_, rfl⟩, ⟨xs, hS'.out xs V D _ _ hD hK rfl hs⟩, hI.trans (.put _ (Nat.le_trans hB hD) (.inr hD) hK rfl)⟩
  case stop =>
    rintro D c pre V _ h _
    exact h.elim
/-- what noter's answer is: a function that notes nodes, that has noted those of trees -/
def Noter (w0 : World) (L : List Addr) (os : List AT) (w : World) (e : Ending) (w' : World) : Prop :=
  ∃ gN r, e = .returned (.func (.func 32) #[] #[.pointer (some ⟨gN, 0, none⟩)]) ∧ w.heap.size ≤ gN ∧ w.heap.size ≤ r ∧ r < w'.heap.size ∧ gN < w'.heap.size ∧ SetN w0 L gN r (goL noteStep os []).2 w' ∧ Below w.heap.size w w'
set_option maxHeartbeats 4000000 in
theorem noter_any (hN : NodeSays Nd) (w0 w : World) (hb : Below w0.heap.size w0 w) (L : List Addr) (hL : card L ≤ 2000) (os : List AT) (ho : ∀ T ∈ os, U13 Nd w0 L T) (A : Option Addr) (n c : Nat) (hn : n ≤ 2000) (hA : LieP w w.heap.size A n c (os.map AT.ptr)) :
    Calls Try.prog 20 #[.slice A n c] w (Noter w0 L os w) := by
  have hmm := @run_makeMap Try.prog
  obtain ⟨r, hr⟩ : ∃ r, w.heap.size = r := ⟨_, rfl⟩
  obtain ⟨gN, hgN⟩ : ∃ g, w.heap.size + 1 = g := ⟨_, rfl⟩
  obtain ⟨w1, hw1⟩ : ∃ v, w.alloc (.map #[] 0) = v := ⟨_, rfl⟩
  obtain ⟨w2, hw2⟩ : ∃ v, w1.alloc (.cells #[.map (some r)] 62) = v := ⟨_, rfl⟩
  obtain ⟨w3, hw3⟩ : ∃ v, (w2.alloc (.cells #[.func (.func 32) #[] #[.pointer (some ⟨gN, 0, none⟩)]] 48)).alloc (.cells #[.slice A n c] 30) = v := ⟨_, rfl⟩
  have z1 : w1.heap.size = r + 1 := by rw [← hw1, ← hr]; simp
  have z2 : w2.heap.size = r + 2 := by rw [← hw2]; simp [z1]
  have z3 : w3.heap.size = r + 4 := by rw [← hw3]; simp [z2]
  have b1 : Below w.heap.size w w1 := hw1 ▸ (Below.refl _ w).alloc (Nat.le_refl _) _
  have b2 : Below w1.heap.size w1 w2 := hw2 ▸ (Below.refl _ w1).alloc (Nat.le_refl _) _
  have b3 : Below w2.heap.size w2 w3 := hw3 ▸ ((Below.refl _ w2).alloc (Nat.le_refl _) _).alloc (by simp) _
  have bw3 : Below w.heap.size w w3 := Below.after (Below.after b1 b2) b3
  have m1 : w1.heap[r]? = some (setO []) := hr ▸ hw1 ▸ World.alloc_heap_new w _
  have n2 : Boxed w2 gN 62 (.map (some r)) := by
    have := Boxed.new w1 62 (.map (some r))
    rw [hw2, z1, show r + 1 = gN by omega] at this
    exact this
  have hn3 : NK w0 w3 := .of_below (Below.after hb bw3)
  have s3 : SetN w0 L gN r [] w3 := ⟨Has.next (show Has _ _ _ _ from n2) b3, ((Below.after b2 b3).block r (by omega)).trans m1, hn3, (fun q hq => by cases hq), by simp, (fun q hq => by cases hq)⟩
  have hg3 : Boxed w3 w2.heap.size 48 (.func (.func 32) #[] #[.pointer (some ⟨gN, 0, none⟩)]) := hw3 ▸ Has.alloc (show Has _ _ _ _ from Boxed.new w2 _ _) _
  have ht3 : Boxed w3 (w2.heap.size + 1) 30 (.slice A n c) := by
    have := Boxed.new (w2.alloc (.cells #[.func (.func 32) #[] #[.pointer (some ⟨gN, 0, none⟩)]] 48)) 30 (.slice A n c)
    rw [hw3, World.size_alloc] at this
    exact this
  have goes := note_goes hN w0 L gN r r w3.heap.size (fun _ => false) rfl (by omega) (Nat.le_refl _) (by omega)
  have hseq := fun k => nodes13_from (Nd := Nd) hN w3 goes rfl rfl rfl rfl rfl U13.sides (fun T h => h.1) os ho (w2.heap.size + 1) w2.heap.size A n c (by have := hA.len; rw [List.length_map] at this; exact this) hn (by omega) [] _ ⟨rfl, s3⟩ (by simp; omega) hn3 ht3 hg3 (by omega) (by omega)
    (fun k T hk => by
      obtain ⟨ad, e, hlt, hc⟩ := hA.at_ k T.ptr (by rw [List.getElem?_map, hk]; rfl)
      refine ⟨ad, e, by omega, ?_, keep_cell bw3 hc⟩
      have hc' := keep_cell bw3 hc
      cases hq : w3.heap[ad.block]? with
      | none => simp [World.cell?, add_block, hq] at hc'
      | some o =>
        cases o with
        | cells cs t fr => exact ⟨cs, t, fr, rfl, rfl⟩
        | _ => simp [World.cell?, add_block, hq] at hc') k
  have cO := goOver_any (B := r) (mine := mine13) w3 (by omega) (enters_of Try.func29 (by kernel_rfl) rfl) hseq (fun xs W l o o' hl ho' hc ⟨e1, Ft, hF, hS⟩ => ⟨e1, Ft, hF, hS.frame (.of_grown (grownBy_putObj' W l o') (fun k e cs hx => by cases e; rw [ho'] at hx; cases hx; cases hc)) (World.putObj_heap_other (by omega)) (World.putObj_heap_other (by omega))⟩)
  have cO' := Lib.hid cO
  have HR := Lib.hid hr
  have HG := Lib.hid hgN
  have HW1 := Lib.hid hw1
  have HW2 := Lib.hid hw2
  have HW3 := Lib.hid hw3
  have Z1 := Lib.hid z1
  have Z2 := Lib.hid z2
  have Z3 := Lib.hid z3
  have B3 := Lib.hid bw3
  clear cO hr hgN hw1 hw2 hw3 z1 z2 z3 b1 b2 b3 bw3 m1 n2 hn3 s3 hg3 ht3 goes hseq hA ho hL hb hN
  go_enter Try.func20, Try.ntmps20
  go_wp2_with fail
  rw [HG.out, HW1.out, HR.out, HW2.out]
  refine (nodes13_any _ _ A n c w2).mono ?_
  rintro e w' ⟨rfl, h3⟩
  have h4 := HW3.out.symm.trans h3
  clear h3
  subst h4
  go_wp2_with fail
  refine cO'.out.mono ?_
  rintro e w4 ⟨⟨v, rfl⟩, ⟨xs, -, Ft, -, hS⟩, hT⟩
  have hS' := Lib.hid hS
  have hT' := Lib.hid hT
  clear hS hT cO'
  go_wp2_with fail
  go_ret
  have h1 := HR.out
  have h2 := HG.out
  have h3 := Z3.out
  have h4 := hT'.out.size
  exact ⟨gN, r, rfl, by omega, by omega, by omega, by omega, hS'.out, B3.out.trans (by rw [h1]; exact hT'.out.below (Nat.le_refl _) (by omega))⟩
end Go.Proofs.Ythhhkcjggfdagaa
