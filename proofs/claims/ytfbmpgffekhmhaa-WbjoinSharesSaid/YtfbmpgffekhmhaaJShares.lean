/- Proved here: for every two rows of beads, every key and value the law WbjoinShares of layer 19 returns true (no more nodes of a join are new than six times the difference of the ranks, and 1); it changes nothing that lay. Condition: none. -/
import Derived.Test.YtfbmpgffekhmhaaJC
import Derived.Test.YtfbmpgffekhmhaaJE
import Derived.Test.YtfbmpgffekhmhaaJD
import Derived.Test.YtfbmpgffekhmhaaL9Says
import Derived.Test.YtfbmpgffekhmhaaL9Open
import Derived.Test.YtfbmpgffekhmhaaRows
import Derived.Below
import Derived.ChangeOld
/- Layer 13, as landed: a function that notes nodes; going over nodes for the sake of that. -/
namespace Go.Proofs.Ytfbmpgffekhmhaa
open Go.RowKit Go.Shelf Go.Proofs.Treem Go.Proofs.Cardm
attribute [local go_sem] Oper.semAt_some
set_option maxRecDepth 100000
variable {Nd : NdP}

theorem zero_bool13 (W : World) : (zeroValue 4).run Try.prog W = .ok (.bool false) W := by kernel_rfl
theorem look13 (W : World) (r : Nat) (S : List (Option Addr)) (hr : W.heap[r]? = some (setO S)) (hg : ∀ q ∈ S, GoodP W q) (p : Option Addr) (h : GoodP W p) (B : Bool) (hB : decide (p ∈ S) = B) :
    (Instr.lookup 87 (.map (some r)) (.pointer p) false).run Try.prog W = .ok (.bool B) W := by
  obtain ⟨j, hj, hs⟩ := node_info
  exact look_ptr W Try.underlying87 Try.underlying25 hj hs (zero_bool13 W) r S hr hg p h B hB
theorem put13 (W : World) (r : Nat) (S : List (Option Addr)) (hr : W.heap[r]? = some (setO S)) (hg : ∀ q ∈ S, GoodP W q) (p : Option Addr) (h : GoodP W p) :
    (Instr.mapUpdate 87 (.map (some r)) (.pointer p) (.bool true)).run Try.prog W = .ok () (W.putObj r (setO (insP S p))) := by
  obtain ⟨j, hj, hs⟩ := node_info
  exact put_any W Try.underlying87 Try.underlying25 hj hs r S hr hg p h
theorem note_any (W : World) (gN r : Nat) (S : List (Option Addr)) (p : Option Addr) (hb : Boxed W gN 87 (.map (some r))) (hr : W.heap[r]? = some (setO S)) (hg : ∀ q ∈ S, GoodP W q) (h : GoodP W p) :
    Calls Try.prog 56 #[.pointer p, .pointer (some ⟨gN, 0, none⟩)] W fun e W' => e = .returned (.bool (!decide (p ∈ S))) ∧ W.putObj r (setO (insP S p)) = W' := by
  have xN := hb.cell
  have lk := look13 W r S hr hg p h _ rfl
  have pt := put13 W r S hr hg p h
  obtain ⟨B, hB⟩ : ∃ b, decide (p ∈ S) = b := ⟨_, rfl⟩
  obtain ⟨W1, hW1⟩ : ∃ V, W.putObj r (setO (insP S p)) = V := ⟨_, rfl⟩
  rw [hB] at lk ⊢
  rw [hW1] at pt ⊢
  clear hB hW1 hb hr hg h
  go_enter Try.func56, Try.ntmps56
  go_wp2_with fail
  go_ret
  exact ⟨rfl, rfl⟩
def mine13 (t : TypeId) : Bool := t == 25 || t == 87 || t == 59 || t == 63
def U13 (Nd : NdP) (w0 : World) (L : List Addr) (T : AT) : Prop := T.lies Nd w0 w0.heap.size ∧ ∀ b ∈ T.addrs, b ∈ L
theorem U13.sides {w0 : World} {L : List Addr} (a : Addr) (x : No) (l r : AT) (h : U13 Nd w0 L (.n a x l r)) : U13 Nd w0 L l ∧ U13 Nd w0 L r :=
  ⟨⟨h.1.2.2.2.1, fun b hb => h.2 b (AT.mem_n.2 (.inr (.inl hb)))⟩, ⟨h.1.2.2.2.2, fun b hb => h.2 b (AT.mem_n.2 (.inr (.inr hb)))⟩⟩
/-- where a set of nodes lies that are noted -/
structure SetN (w0 : World) (L : List Addr) (gN r : Nat) (S : List (Option Addr)) (W : World) : Prop where
  box : Boxed W gN 87 (.map (some r))
  set : W.heap[r]? = some (setO S)
  nk : NK w0 W
  good : ∀ q ∈ S, GoodN w0 q
  nodup : S.Nodup
  sub : ∀ p ∈ S, ∃ a, a ∈ L ∧ p = some a
theorem SetN.frame {w0 W W' : World} {L : List Addr} {gN r : Nat} {S : List (Option Addr)} (h : SetN w0 L gN r S W) (hk : NK W W') (h1 : W'.heap[gN]? = W.heap[gN]?) (h2 : W'.heap[r]? = W.heap[r]?) : SetN w0 L gN r S W' :=
  ⟨(show W'.heap[gN]? = _ from h1.trans h.box), h2.trans h.set, h.nk.trans hk, h.good, h.nodup, h.sub⟩
theorem SetN.ne {w0 W : World} {L : List Addr} {gN r : Nat} {S : List (Option Addr)} (h : SetN w0 L gN r S W) : gN ≠ r := fun e => by
  have h1 : W.heap[gN]? = _ := h.box
  rw [e, h.set] at h1
  cases h1
theorem SetN.put {w0 W : World} {L : List Addr} {gN r : Nat} {S : List (Option Addr)} (h : SetN w0 L gN r S W) {p : Option Addr} (hp : GoodN w0 p) (hL : ∃ a, a ∈ L ∧ p = some a) : SetN w0 L gN r (insP S p) (W.putObj r (setO (insP S p))) := by
  refine ⟨(World.putObj_heap_other h.ne).trans h.box, World.putObj_heap_same (Array.getElem?_eq_some_iff.1 h.set).1, h.nk.trans (.of_grown (grownBy_putObj' W r _) (fun k e cs hc => ?_)), fun q hq => ?_, insP_nodup h.nodup p, fun q hq => ?_⟩
  · cases e
    rw [h.set] at hc
    cases hc
  · rcases (insP_mem _ _ _).1 hq with hq | rfl
    · exact h.good q hq
    · exact hp
  · rcases (insP_mem _ _ _).1 hq with hq | rfl
    · exact h.sub q hq
    · exact hL
theorem SetN.len {w0 W : World} {L : List Addr} {gN r : Nat} {S : List (Option Addr)} (h : SetN w0 L gN r S W) : S.length ≤ card L := by
  have h1 := card_nodup S h.nodup
  have h2 : card S ≤ card (L.map some) := card_sub fun p hp => by
    obtain ⟨a, ha, rfl⟩ := h.sub p hp
    exact List.mem_map.2 ⟨a, ha, rfl⟩
  rw [card_some] at h2
  omega
abbrev EnvN (w0 : World) (L : List Addr) (gN r : Nat) (S : List (Option Addr)) (Ft : Nat → Prop) (W : World) : Prop := (Ft = fun k => k = gN ∨ k = r) ∧ SetN w0 L gN r S W
theorem note_enters : Enters Try.prog 56 := enters_of Try.func56 (by kernel_rfl) rfl
theorem note_goes (hN : NodeSays Nd) (w0 : World) (L : List Addr) (gN r B C : Nat) (free : TypeId → Bool) (hf : free 87 = false) (h1 : B ≤ gN) (h2 : B ≤ r) (h3 : r < C) :
    GoesOn Nd w0 56 #[.pointer (some ⟨gN, 0, none⟩)] B C mine13 free (U13 Nd w0 L) noteStep (fun S => card L - S.length) (EnvN w0 L gN r) where
  enters := note_enters
  calls := fun S Ft W a x l rr ⟨hFt, hS⟩ hU hk => by
    have hgood : GoodN w0 (some a) := GoodN.root hN (T := .n a x l rr) hU.1
    refine (note_any W gN r S (some a) hS.box hS.set (fun q hq => (hS.good q hq).good hS.nk) (hgood.good hk)).mono ?_
    rintro e W' ⟨rfl, rfl⟩
    exact ⟨rfl, Ft, ⟨hFt, hS.put hgood ⟨a, hU.2 a (AT.mem_n.2 (.inl rfl)), rfl⟩⟩, Keep.put W r _ (by rw [hFt]; exact .inr rfl), fun k hx => .inl hx⟩
  foot := fun S Ft W ⟨hFt, hS⟩ k hk => by
    rw [hFt] at hk
    rcases hk with rfl | rfl
    · exact ⟨h1, _, hS.box, .inr ⟨_, _, _, rfl, rfl, hf, by decide⟩⟩
    · exact ⟨h2, _, hS.set, .inl ⟨rfl, h3⟩⟩
  frame := fun S Ft W W' ⟨hFt, hS⟩ hr => ⟨hFt, hS.frame hr.nk (hr.same gN (by rw [hFt]; exact .inl rfl)) (hr.same r (by rw [hFt]; exact .inr rfl))⟩
  less := fun S Ft W a x l rr ⟨hFt, hS⟩ hU => by
    have hgood : GoodN w0 (some a) := GoodN.root hN (T := .n a x l rr) hU.1
    have h4 := (hS.put hgood ⟨a, hU.2 a (AT.mem_n.2 (.inl rfl)), rfl⟩).len
    simp only [noteStep]
    by_cases hx : some a ∈ S
    · simp [insP, hx]
    · simp only [insP, hx, if_false, List.length_append, List.length_cons, List.length_nil] at h4 ⊢
      simp
      omega
theorem nodes13_any (F : FuncId) (cap : Array Value) (A : Option Addr) (n c : Nat) (w : World) : Calls Try.prog 35 #[.func (.func F) #[] cap, .slice A n c] w fun e w' =>
    e = .returned (.func (.func 55) #[] #[.pointer (some ⟨w.heap.size + 1, 0, none⟩), .pointer (some ⟨w.heap.size, 0, none⟩)]) ∧ (w.alloc (.cells #[.func (.func F) #[] cap] 63)).alloc (.cells #[.slice A n c] 59) = w' := by
  go_enter Try.func35, Try.ntmps35
  go_wp2
  go_ret
  exact ⟨rfl, rfl⟩
set_option maxHeartbeats 4000000 in
theorem goOver_any {B g : Nat} {mine free : TypeId → Bool} {lb : Array Value} {Lies : List Value → Value → World → Prop} {S : List Value → World → Prop} (w : World) (hB : B ≤ w.heap.size) (he : Enters Try.prog g)
    (hseq : ∀ n, SeqFrom B mine Fence.wide n Try.prog g lb (fun y => #[y]) (Kf free 0) Lies S w) (hS : ∀ (xs : List Value) (W : World) (l : Nat) (o o' : Obj), w.heap.size ≤ l → W.heap[l]? = some o → o.isCells = false → S xs W → S xs (W.putObj l o')) :
    Calls Try.prog 57 #[.func (.func g) #[] lb] w fun e w' => (∃ v, e = .returned v) ∧ (∃ xs, S xs w') ∧ TurnF mine B w.heap.size w.heap.size w w' := by
  have henter : ∀ (args : Array Value) (V : World), (callFunc g args).run Try.prog V = .ok (.enter g args) V := he
  have hS' := Lib.hid hS
  have hseq' := Lib.hid hseq
  clear hS hseq
  refine (callsIn_wide (n := 9)).1 ?_
  refine callsIn_of_wp_marks Try.func57 rfl trivial ?_ rfl
  simp only [Try.ntmps57, List.size_toArray, List.length_cons, List.length_nil, Nat.reduceAdd, Nat.reduceSub, Array.replicate_succ, Array.replicate_zero, List.push_toArray, List.append_toArray, List.nil_append, List.cons_append]
  refine wpIn_wide.2 ?_
  go_wp2_with fail
  refine (wpIn_wide (n := 9)).1 ?_
  refine wpIn_rangeFunc_from (α := Value) (mine := mine) rfl (by omega) (gf := g) (lb := lb) rfl trivial henter (hseq'.out _) hB (fun xs W l o o' h1 h2 h3 h4 => hS'.out xs W l o o' h1 h2 h3 h4) Kf.trans (fun W l o o' _ h hc hw => Kf.putObj W l o o' (Nat.zero_le _) h hc) (Below.refl _ _) (fun _ => rfl)
    (fun _ W => TurnF mine B w.heap.size w.heap.size w W) (fun _ _ _ => False) (AbideF.turn w) (fun _ _ _ _ h _ => h) (TurnF.refl _ _ _ _ _)
    (fun _ _ _ _ => True) (fun _ _ _ _ _ _ _ _ _ _ => trivial) ?assign ?body ?done ?stop
  case assign =>
    rintro L pre y V KK hI - hK
    have hK2 := Lib.hid (fun a' => hK a' V (.refl _ _) (Kf.refl _ _ V) hI trivial)
    clear hK hI
    gi_wp2
    exact hK2.out _
  case body =>
    rintro L pre y a' V hL - hI -
    have hI' := Lib.hid hI
    clear hI
    gi_wp2
    exact ⟨.refl _ _, Kf.refl _ _ V, hI'.out⟩
  case done =>
    rintro D xs V hD hs hI hK
    go_wp2_with fail
    refine ⟨by simp, .inl ⟨_, _, rfl, run_takeDeferred hK, ?_⟩⟩
    exact ⟨_, results_none rfl _ _ _, ⟨_, rfl⟩, ⟨xs, hS'.out xs V D _ _ hD hK rfl hs⟩, hI.trans (.put _ (Nat.le_trans hB hD) (.inr hD) hK rfl)⟩
  case stop =>
    rintro D c pre V _ h _
    exact h.elim
/-- what noter's answer is: a function that notes nodes, that has noted those of trees -/
def Noter (w0 : World) (L : List Addr) (os : List AT) (w : World) (e : Ending) (w' : World) : Prop :=
  ∃ gN r, e = .returned (.func (.func 56) #[] #[.pointer (some ⟨gN, 0, none⟩)]) ∧ w.heap.size ≤ gN ∧ w.heap.size ≤ r ∧ r < w'.heap.size ∧ gN < w'.heap.size ∧ SetN w0 L gN r (goL noteStep os []).2 w' ∧ Below w.heap.size w w'
set_option maxHeartbeats 4000000 in
theorem noter_any (hN : NodeSays Nd) (w0 w : World) (hb : Below w0.heap.size w0 w) (L : List Addr) (hL : card L ≤ 2000) (os : List AT) (ho : ∀ T ∈ os, U13 Nd w0 L T) (A : Option Addr) (n c : Nat) (hn : n ≤ 2000) (hA : LieP w w.heap.size A n c (os.map AT.ptr)) :
    Calls Try.prog 36 #[.slice A n c] w (Noter w0 L os w) := by
  have hmm := @run_makeMap Try.prog
  obtain ⟨r, hr⟩ : ∃ r, w.heap.size = r := ⟨_, rfl⟩
  obtain ⟨gN, hgN⟩ : ∃ g, w.heap.size + 1 = g := ⟨_, rfl⟩
  obtain ⟨w1, hw1⟩ : ∃ v, w.alloc (.map #[] 0) = v := ⟨_, rfl⟩
  obtain ⟨w2, hw2⟩ : ∃ v, w1.alloc (.cells #[.map (some r)] 87) = v := ⟨_, rfl⟩
  obtain ⟨w3, hw3⟩ : ∃ v, (w2.alloc (.cells #[.func (.func 56) #[] #[.pointer (some ⟨gN, 0, none⟩)]] 63)).alloc (.cells #[.slice A n c] 59) = v := ⟨_, rfl⟩
  have z1 : w1.heap.size = r + 1 := by rw [← hw1, ← hr]; simp
  have z2 : w2.heap.size = r + 2 := by rw [← hw2]; simp [z1]
  have z3 : w3.heap.size = r + 4 := by rw [← hw3]; simp [z2]
  have b1 : Below w.heap.size w w1 := hw1 ▸ (Below.refl _ w).alloc (Nat.le_refl _) _
  have b2 : Below w1.heap.size w1 w2 := hw2 ▸ (Below.refl _ w1).alloc (Nat.le_refl _) _
  have b3 : Below w2.heap.size w2 w3 := hw3 ▸ ((Below.refl _ w2).alloc (Nat.le_refl _) _).alloc (by simp) _
  have bw3 : Below w.heap.size w w3 := Below.after (Below.after b1 b2) b3
  have m1 : w1.heap[r]? = some (setO []) := hr ▸ hw1 ▸ World.alloc_heap_new w _
  have n2 : Boxed w2 gN 87 (.map (some r)) := by
    have := Boxed.new w1 87 (.map (some r))
    rw [hw2, z1, show r + 1 = gN by omega] at this
    exact this
  have hn3 : NK w0 w3 := .of_below (Below.after hb bw3)
  have s3 : SetN w0 L gN r [] w3 := ⟨Has.next (show Has _ _ _ _ from n2) b3, ((Below.after b2 b3).block r (by omega)).trans m1, hn3, (fun q hq => by cases hq), by simp, (fun q hq => by cases hq)⟩
  have hg3 : Boxed w3 w2.heap.size 63 (.func (.func 56) #[] #[.pointer (some ⟨gN, 0, none⟩)]) := hw3 ▸ Has.alloc (show Has _ _ _ _ from Boxed.new w2 _ _) _
  have ht3 : Boxed w3 (w2.heap.size + 1) 59 (.slice A n c) := by
    have := Boxed.new (w2.alloc (.cells #[.func (.func 56) #[] #[.pointer (some ⟨gN, 0, none⟩)]] 63)) 59 (.slice A n c)
    rw [hw3, World.size_alloc] at this
    exact this
  have goes := note_goes hN w0 L gN r r w3.heap.size (fun _ => false) rfl (by omega) (Nat.le_refl _) (by omega)
  have hseq := fun k => nodes13_from (Nd := Nd) hN w3 goes rfl rfl rfl rfl rfl U13.sides (fun T h => h.1) os ho (w2.heap.size + 1) w2.heap.size A n c (by have := hA.len; rw [List.length_map] at this; exact this) hn (by omega) [] _ ⟨rfl, s3⟩ (by simp; omega) hn3 ht3 hg3 (by omega) (by omega)
    (fun k T hk => by
      obtain ⟨ad, e, hlt, hc⟩ := hA.at_ k T.ptr (by rw [List.getElem?_map, hk]; rfl)
      refine ⟨ad, e, by omega, ?_, keep_cell bw3 hc⟩
      have hc' := keep_cell bw3 hc
      cases hq : w3.heap[ad.block]? with
      | none => simp [World.cell?, add_block, hq] at hc'
      | some o =>
        cases o with
        | cells cs t fr => exact ⟨cs, t, fr, rfl, rfl⟩
        | _ => simp [World.cell?, add_block, hq] at hc') k
  have cO := goOver_any (B := r) (mine := mine13) w3 (by omega) (enters_of Try.func55 (by kernel_rfl) rfl) hseq (fun xs W l o o' hl ho' hc ⟨e1, Ft, hF, hS⟩ => ⟨e1, Ft, hF, hS.frame (.of_grown (grownBy_putObj' W l o') (fun k e cs hx => by cases e; rw [ho'] at hx; cases hx; cases hc)) (World.putObj_heap_other (by omega)) (World.putObj_heap_other (by omega))⟩)
  have cO' := Lib.hid cO
  have HR := Lib.hid hr
  have HG := Lib.hid hgN
  have HW1 := Lib.hid hw1
  have HW2 := Lib.hid hw2
  have HW3 := Lib.hid hw3
  have Z1 := Lib.hid z1
  have Z2 := Lib.hid z2
  have Z3 := Lib.hid z3
  have B3 := Lib.hid bw3
  clear cO hr hgN hw1 hw2 hw3 z1 z2 z3 b1 b2 b3 bw3 m1 n2 hn3 s3 hg3 ht3 goes hseq hA ho hL hb hN
  go_enter Try.func36, Try.ntmps36
  go_wp2_with fail
  rw [HG.out, HW1.out, HR.out, HW2.out]
  refine (nodes13_any _ _ A n c w2).mono ?_
  rintro e w' ⟨rfl, h3⟩
  have h4 := HW3.out.symm.trans h3
  clear h3
  subst h4
  go_wp2_with fail
  refine cO'.out.mono ?_
  rintro e w4 ⟨⟨v, rfl⟩, ⟨xs, -, Ft, -, hS⟩, hT⟩
  have hS' := Lib.hid hS
  have hT' := Lib.hid hT
  clear hS hT cO'
  go_wp2_with fail
  go_ret
  have h1 := HR.out
  have h2 := HG.out
  have h3 := Z3.out
  have h4 := hT'.out.size
  exact ⟨gN, r, rfl, by omega, by omega, by omega, by omega, hS'.out, B3.out.trans (by rw [h1]; exact hT'.out.below (Nat.le_refl _) (by omega))⟩
end Go.Proofs.Ytfbmpgffekhmhaa
/- Layer 13, as landed: New, Nodes, Same. -/
namespace Go.Proofs.Ytfbmpgffekhmhaa
open Go.RowKit Go.Shelf Go.Proofs.Treem Go.Proofs.Cardm
attribute [local go_sem] Oper.semAt_some
set_option maxRecDepth 100000
variable {Nd : NdP}

abbrev isInt (t : TypeId) : Bool := t == 3
/-- going over one tree's nodes that aren't noted yet -/
theorem one_from (hN : NodeSays Nd) (w0 w2 : World) (hb : NK w0 w2) (L : List Addr) (hL : card L ≤ 2000) (T : AT) (hT : U13 Nd w0 L T) (S : List (Option Addr)) (gN r B : Nat) (free : TypeId → Bool) (f1 : free 87 = false) (f2 : free 68 = false) (f3 : free 25 = false) (f4 : free 59 = false) (f5 : free 63 = false)
    (hS : SetN w0 L gN r S w2) (h1 : B ≤ gN) (h2 : B ≤ r) (h3 : r < w2.heap.size) (h4 : gN < w2.heap.size) (w3 w4 : World) (e3 : w2.alloc (.cells #[.pointer T.ptr] 25) = w3)
    (e4 : (w3.alloc (.cells #[.func (.func 56) #[] #[.pointer (some ⟨gN, 0, none⟩)]] 63)).alloc (.cells #[.slice (some ⟨w2.heap.size, 0, none⟩) 1 1] 59) = w4) (m : Nat) :
    SeqFrom B mine13 Fence.wide m Try.prog 55 #[.pointer (some ⟨w3.heap.size + 1, 0, none⟩), .pointer (some ⟨w3.heap.size, 0, none⟩)] (fun y => #[y]) (Kf free 0) (fun pre y _ => pre ++ [y] <+: valsT (goL noteStep [T] S).1)
      (fun xs W => xs = valsT (goL noteStep [T] S).1 ∧ ∃ Ft, EnvN w0 L gN r (goL noteStep [T] S).2 Ft W) w4 := by
  have b3 : Below w2.heap.size w2 w3 := e3 ▸ (Below.refl _ w2).alloc (Nat.le_refl _) _
  have b4 : Below w3.heap.size w3 w4 := e4 ▸ ((Below.refl _ w3).alloc (Nat.le_refl _) _).alloc (by simp) _
  have b24 := Below.after b3 b4
  have z3 : w3.heap.size = w2.heap.size + 1 := by rw [← e3]; simp
  have z4 : w4.heap.size = w3.heap.size + 2 := by rw [← e4]; simp
  have k4 : NK w2 w4 := .of_below b24
  have s4 : SetN w0 L gN r S w4 := hS.frame k4 (b24.block _ h4) (b24.block _ h3)
  have hg4 : Boxed w4 w3.heap.size 63 (.func (.func 56) #[] #[.pointer (some ⟨gN, 0, none⟩)]) := e4 ▸ Has.alloc (show Has _ _ _ _ from Boxed.new w3 _ _) _
  have ht4 : Boxed w4 (w3.heap.size + 1) 59 (.slice (some ⟨w2.heap.size, 0, none⟩) 1 1) := by
    have := Boxed.new (w3.alloc (.cells #[.func (.func 56) #[] #[.pointer (some ⟨gN, 0, none⟩)]] 63)) 59 (.slice (some ⟨w2.heap.size, 0, none⟩) 1 1)
    rw [e4, World.size_alloc] at this
    exact this
  have hl4 : Has w4 w2.heap.size 25 #[.pointer T.ptr] := Has.next (e3 ▸ Has.new w2 25 #[.pointer T.ptr]) b4
  refine nodes13_from (Nd := Nd) hN w4 (note_goes hN w0 L gN r B w4.heap.size free f1 h1 h2 (by omega)) f2 f3 rfl f4 f5 U13.sides (fun T h => h.1) [T] (fun V hV => by rw [List.mem_singleton.1 hV]; exact hT) (w3.heap.size + 1) w3.heap.size _ 1 1 rfl (by omega) (by omega) S _ ⟨rfl, s4⟩ (by show card L - S.length ≤ 5000; omega) (hb.trans k4) ht4 hg4 (by omega) (by omega) ?_ m
  intro k V hk
  match k with
  | 0 =>
    obtain rfl : T = V := by simpa using hk
    exact ⟨_, rfl, by show ¬ (w2.heap.size = gN ∨ w2.heap.size = r); omega, ⟨_, _, _, hl4, f3⟩, hl4.cell 0⟩
  | k + 1 => simp at hk
theorem setN_put {w0 W : World} {L : List Addr} {gN r l : Nat} {S : List (Option Addr)} {o : Obj} (o' : Obj) (h : SetN w0 L gN r S W) (h1 : gN < l) (h2 : r < l) (ho : W.heap[l]? = some o) (hc : o.isCells = false) : SetN w0 L gN r S (W.putObj l o') :=
  h.frame (.of_grown (grownBy_putObj' W l o') (fun k e cs hx => by cases e; rw [ho] at hx; cases hx; cases hc)) (World.putObj_heap_other (by omega)) (World.putObj_heap_other (by omega))
set_option maxHeartbeats 8000000 in
theorem new13_any (hN : NodeSays Nd) (w : World) (T : AT) (os : List AT) (A : Option Addr) (n c : Nat) (hT : Stand Nd w T) (ho : ∀ U ∈ os, Stand Nd w U) (hA : LieP w w.heap.size A n c (os.map AT.ptr)) (hn : n ≤ 2000) (hc : card (addrsOf os ++ T.addrs) ≤ 2000) :
    Calls Try.prog 17 #[.pointer T.ptr, .slice A n c] w fun e w' => e = .returned (nI (newC T.addrs (addrsOf os))) ∧ Below w.heap.size w w' := by
  obtain ⟨L, hL⟩ : ∃ L, addrsOf os ++ T.addrs = L := ⟨_, rfl⟩
  have uT : U13 Nd w L T := ⟨hT.lies, fun b hb => hL ▸ List.mem_append_right _ hb⟩
  have uo : ∀ V ∈ os, U13 Nd w L V := fun V hV => ⟨(ho V hV).lies, fun b hb => hL ▸ List.mem_append_left _ (List.mem_flatMap.2 ⟨V, hV, hb⟩)⟩
  obtain ⟨v1, v2, -⟩ := note_is hN (us := os) (S := []) (L0 := []) (vis_nil w w.heap.size) (fun a => by simp) (fun V hV => (ho V hV).lies)
  have hcount := note_new hN v1 v2 hT.lies
  rw [List.nil_append] at hcount
  obtain ⟨S, hS⟩ : ∃ S, (goL noteStep os []).2 = S := ⟨_, rfl⟩
  rw [hS] at hcount
  obtain ⟨tot, hTot⟩ : ∃ t, (goL noteStep [T] S).1 = t := ⟨_, rfl⟩
  rw [hTot] at hcount
  have hlen : tot.length ≤ 2000 := by
    have h1 := new_le T.addrs (addrsOf os)
    have h2 : card T.addrs ≤ card (addrsOf os ++ T.addrs) := card_sub fun a ha => List.mem_append_right _ ha
    omega
  obtain ⟨N, hNC⟩ : ∃ N, newC T.addrs (addrsOf os) = N := ⟨_, rfl⟩
  rw [hNC] at hcount ⊢
  rw [hL] at hc
  obtain ⟨gC, hgC⟩ : ∃ g, w.heap.size = g := ⟨_, rfl⟩
  obtain ⟨w1, hw1⟩ : ∃ v, w.alloc (.cells #[.int .i64 0] 3) = v := ⟨_, rfl⟩
  have b1 : Below w.heap.size w w1 := hw1 ▸ (Below.refl _ w).alloc (Nat.le_refl _) _
  have z1 : w1.heap.size = gC + 1 := by rw [← hw1, ← hgC]; simp
  have x1 : Boxed w1 gC 3 (.int .i64 0) := hgC ▸ hw1 ▸ Boxed.new w _ _
  have cNo := noter_any hN w w1 b1 L hc os uo A n c hn (hA.after b1)
  have cF := fun (w2 : World) (gN r : Nat) (hb : NK w w2) (hS' : SetN w L gN r S w2) h1 h2 h3 h4 w3 w4 e3 e4 m => one_from hN w w2 hb L hc T uT S gN r (gC + 1) isInt rfl rfl rfl rfl rfl hS' h1 h2 h3 h4 w3 w4 e3 e4 m
  rw [hTot] at cF
  have cN' := Lib.hid cNo
  have cF' := Lib.hid cF
  have HC := Lib.hid hgC
  have HW := Lib.hid hw1
  have Z1 := Lib.hid z1
  have B1 := Lib.hid b1
  have X1 := Lib.hid x1
  have HS := Lib.hid hS
  have HL := Lib.hid hlen
  have HN := Lib.hid hcount
  clear cNo cF hgC hw1 z1 b1 x1 hS hlen hcount hTot v1 v2 uT uo hL hc hT ho hA hNC hN
  refine (callsIn_wide (n := 9)).1 ?_
  refine callsIn_of_wp_marks Try.func17 rfl trivial ?_ rfl
  simp only [Try.ntmps17, List.size_toArray, List.length_cons, List.length_nil, Nat.reduceAdd, Nat.reduceSub, Array.replicate_succ, Array.replicate_zero, List.push_toArray, List.append_toArray, List.nil_append, List.cons_append]
  refine wpIn_wide.2 ?_
  go_upto_region 2 with (fail)
  rw [HW.out, HC.out]
  go_wp2_with fail
  refine cN'.out.mono ?_
  rintro e w2 ⟨gN, r, rfl, h1, h2, h3, h4, hS, hb2⟩
  rw [HS.out] at hS
  obtain ⟨w3, e3⟩ : ∃ v, w2.alloc (.cells #[.pointer T.ptr] 25) = v := ⟨_, rfl⟩
  obtain ⟨g2, hg2⟩ : ∃ g, w2.heap.size = g := ⟨_, rfl⟩
  have HS2 := Lib.hid hS
  have H1 := Lib.hid h1
  have H2 := Lib.hid h2
  have H3 := Lib.hid h3
  have H4 := Lib.hid h4
  have HB2 := Lib.hid hb2
  have E3 := Lib.hid e3
  have G2 := Lib.hid hg2
  clear hS h1 h2 h3 h4 hb2 e3 hg2 cN'
  go_wp2_with fail
  rw [E3.out, G2.out]
  refine (nodes13_any _ _ _ 1 1 w3).mono ?_
  rintro e w4 ⟨rfl, e4⟩
  have hseq := cF'.out w2 gN r (.of_below (Below.after B1.out HB2.out)) HS2.out (by have := H1.out; have := Z1.out; omega) (by have := H2.out; have := Z1.out; omega) H3.out H4.out w3 w4 E3.out (by rw [G2.out]; exact e4)
  have b3 : Below w2.heap.size w2 w3 := E3.out ▸ (Below.refl _ w2).alloc (Nat.le_refl _) _
  have b4 : Below w3.heap.size w3 w4 := e4 ▸ ((Below.refl _ w3).alloc (Nat.le_refl _) _).alloc (by simp) _
  have b14 := Below.after HB2.out (Below.after b3 b4)
  have x4 : Boxed w4 gC 3 (.int .i64 0) := Has.next (show Has _ _ _ _ from X1.out) b14
  have b04 := Below.after B1.out b14
  have hz4 : gN < w4.heap.size ∧ r < w4.heap.size := ⟨Nat.lt_of_lt_of_le H4.out (Below.after b3 b4).size, Nat.lt_of_lt_of_le H3.out (Below.after b3 b4).size⟩
  have hB4 : gC + 1 ≤ w4.heap.size := by have := b14.size; have := Z1.out; omega
  obtain ⟨z3, hz3⟩ : ∃ z, w3.heap.size = z := ⟨_, rfl⟩
  rw [hz3] at hseq ⊢
  clear e4 b3 b4 b14 cF' hz3
  go_wp2_with fail
  refine (wpIn_wide (n := 9)).1 ?_
  refine wpIn_rangeFunc_from (α := Value) (mine := mine13) rfl (by omega) (gf := 55) (lb := #[.pointer (some ⟨z3 + 1, 0, none⟩), .pointer (some ⟨z3, 0, none⟩)]) rfl trivial (enters_of Try.func55 (by kernel_rfl) rfl) (hseq _) hB4
    (fun xs W l o o' hl ho' hc ⟨e1, Ft, hF, hS⟩ => ⟨e1, Ft, hF, setN_put o' hS (by omega) (by omega) ho' hc⟩) Kf.trans (fun W l o o' _ h hc hw => Kf.putObj W l o o' (Nat.zero_le _) h hc) (Below.refl _ _) (fun _ => rfl)
    (fun pre W => Boxed W gC 3 (.int .i64 (pre.length : Int)) ∧ Below w.heap.size w W) (fun _ _ _ => False)
    (AbideF.and (AbideF.boxed gC _ _ (.inr (by omega))) (AbideF.below (by have := HC.out; omega) (Nat.le_refl _))) (fun _ _ _ _ h _ => h) ⟨x4, b04⟩
    (fun pre y a' W => pre.length + 1 ≤ 2000 ∧ a' = { tmps := #[.pointer T.ptr, .slice A n c, undef, undef, .int .i64 0, .pointer (some ⟨gC, 0, none⟩), .slice A n c, .func (.func 56) #[] #[.pointer (some ⟨gN, 0, none⟩)], .pointer T.ptr, .slice (some ⟨g2, 0, none⟩) 1 1, .func (.func 55) #[] #[.pointer (some ⟨z3 + 1, 0, none⟩), .pointer (some ⟨z3, 0, none⟩)], y, undef, undef, undef], defers := [] }) (fun _ _ _ _ _ _ _ h _ _ => h) ?assign ?body ?done ?stop
  case assign =>
    rintro L' pre y V KK hI hLi hK
    have hle : pre.length + 1 ≤ 2000 := by
      have h1 := hLi.length_le
      have h2 := HL.out
      simp only [List.length_append, List.length_cons, List.length_nil, List.length_map] at h1
      omega
    have hK2 := Lib.hid (hK { tmps := #[.pointer T.ptr, .slice A n c, undef, undef, .int .i64 0, .pointer (some ⟨gC, 0, none⟩), .slice A n c, .func (.func 56) #[] #[.pointer (some ⟨gN, 0, none⟩)], .pointer T.ptr, .slice (some ⟨g2, 0, none⟩) 1 1, .func (.func 55) #[] #[.pointer (some ⟨z3 + 1, 0, none⟩), .pointer (some ⟨z3, 0, none⟩)], y, undef, undef, undef], defers := [] } V (.refl _ _) (Kf.refl _ _ V) hI ⟨hle, rfl⟩)
    clear hK hI hLi hle
    gi_wp2
    first | exact hK2.out | simpa using hK2.out
  case body =>
    rintro L' pre y a' V hL - ⟨bC, hb⟩ ⟨hle, rfl⟩
    have xC := bC.cell
    have fC := bC.frozen
    have e1 : wrap64 ((pre.length : Int) + 1) = ((pre.length + 1 : Nat) : Int) := by unfold wrap64; omega
    have hX : Hid (Boxed (V.setCell ⟨gC, 0, none⟩ (.int .i64 ((pre.length + 1 : Nat) : Int))) gC 3 (.int .i64 ((pre.length + 1 : Nat) : Int))) := bC.set _
    have hb2 : Hid (Below w.heap.size w (V.setCell ⟨gC, 0, none⟩ (.int .i64 ((pre.length + 1 : Nat) : Int)))) := hb.setCell (p := ⟨gC, 0, none⟩) (by have := HC.out; show w.heap.size ≤ gC; omega) _
    have kf : Hid (Kf isInt 0 V (V.setCell ⟨gC, 0, none⟩ (.int .i64 ((pre.length + 1 : Nat) : Int)))) := Kf.store bC _ rfl (Nat.zero_le _)
    have kk : Hid (KeepsFrom (gC + 1) V (V.setCell ⟨gC, 0, none⟩ (.int .i64 ((pre.length + 1 : Nat) : Int)))) := .of_grownBy (grownBy_setCell' V gC _) (fun j e => by cases e; omega)
    obtain ⟨q, hq⟩ : ∃ q, pre.length = q := ⟨_, rfl⟩
    rw [hq] at e1 xC hX hb2 kf kk
    have HQ := Lib.hid hq
    clear bC hb hle hq
    gi_wp2
    refine ⟨kk.out, kf.out, ?_, hb2.out⟩
    rw [List.length_append, HQ.out]
    exact hX.out
  case done =>
    rintro D xs V hD ⟨rfl, -⟩ ⟨bC, hb⟩ hK
    have e1 : (valsT tot).length = N := by rw [List.length_map]; exact HN.out
    rw [e1] at bC
    have xC := bC.cell
    have hb' := Lib.hid hb
    clear hb bC e1
    go_wp2_with fail
    refine ⟨by simp, .inl ⟨_, _, rfl, run_takeDeferred hK, ?_⟩⟩
    exact ⟨_, results_tmp rfl _ _ _, rfl, hb'.out.trans (belowK_b (w := w) (Nat.le_refl _) V D _ _ (by have := b04.size; omega) hK rfl rfl)⟩
  case stop =>
    rintro D c pre V _ h _
    exact h.elim
end Go.Proofs.Ytfbmpgffekhmhaa
/- Package share, where a seat has New alone of it: what it answers. -/
namespace Go.Proofs.Ytfbmpgffekhmhaa
open Go.RowKit Go.Proofs.Treem Go.Proofs.Cardm
variable {Nd : NdP}

theorem share_says (hN : NodeSays Nd) : ShareSays Nd where
  new := fun w T os A n c hT ho hA hn hc => new13_any hN w T os A n c hT ho hA hn hc
end Go.Proofs.Ytfbmpgffekhmhaa
namespace Go.Proofs.Ytfbmpgffekhmhaa
open Go.ChangeShapes Go.WideShapes Go.ChangeAt Go.RowKit

set_option maxRecDepth 100000 in
theorem wbjoinShares_lifted (os : Os) (started : os.Started) (H : Type) (enc : TypeId × Value → H) :
    ReturnsInHanded {} Try.checked os 4 .any (Rows.wbjoinSharesSpec.pre6 enc Try.prog Try.f4 Rows.wbjoinSharesRow.domain false)
      (Rows.wbjoinSharesSpec.post enc Try.prog Try.f4 false true false false) := by
  refine returnsInHanded_of_change (C := Try.checked) own started (by kernel_rfl) Try.func4
    (ChangeSpec.witness6 (enc := enc) (C := Try.checked) false ⟨#[], #[.slice none 0 0, .slice none 0 0, .int .i64 0, .int .i64 0], []⟩ 8 (by kernel_rfl) (by kernel_rfl) (by kernel_rfl) (by kernel_rfl)) ?_
  intro W base args ds gs before hval0 hW _ _
  have hval : ∀ (j : Nat) t v, Try.f4.params[j]? = some t → args[j]? = some v → Value.okWide Try.prog W .any base t v := hval0
  have hW' := hW
  obtain ⟨p, q, hA0, hV, rfl, hfz, hnd⟩ := hW
  have hA : DataW.TrodAll enc Try.prog W 0 (fun _ => true) true Try.f4.params.toList args.toList ds p := hA0
  rw [Try.params4] at hA hval
  obtain ⟨v0, vs0, d0, ds0, p0, q0, hargs, rfl, rfl, h0, r0⟩ := trodAll_cons hA
  obtain ⟨v1, vs1, d1, ds1, p1, q1, rfl, rfl, rfl, h1, r1⟩ := trodAll_cons r0
  obtain ⟨v2, vs2, d2, ds2, p2, q2, rfl, rfl, rfl, h2, r2⟩ := trodAll_cons r1
  obtain ⟨v3, vs3, d3, ds3, p3, q3, rfl, rfl, rfl, h3, r3⟩ := trodAll_cons r2
  obtain ⟨rfl, rfl, rfl⟩ := trodAll_nil r3
  obtain rfl : args = #[v0, v1, v2, v3] := by cases args; simp_all
  obtain ⟨rfl, rfl⟩ := trodVars_none hV
  have k0 := h0
  have lt0 : ∀ x ∈ p0, x.block < W.heap.size := by obtain ⟨m, hm⟩ := k0; exact DataW.trod_lt m _ _ _ hm
  obtain ⟨A0, n0, c0, l0, rfl, hl0, hn0, hc0, hz0, hr0⟩ := open_beads (hval 0 22 v0 rfl rfl) h0
  have k1 := h1
  have lt1 : ∀ x ∈ p1, x.block < W.heap.size := by obtain ⟨m, hm⟩ := k1; exact DataW.trod_lt m _ _ _ hm
  obtain ⟨A1, n1, c1, l1, rfl, hl1, hn1, hc1, hz1, hr1⟩ := open_beads (hval 1 22 v1 rfl rfl) h1
  obtain ⟨a2, rfl, rfl, rfl, w2⟩ := open_int Try.underlying2 (hval 2 2 v2 rfl rfl) h2
  obtain ⟨b2, rfl⟩ := key_of a2 w2
  obtain ⟨a3, rfl, rfl, rfl, w3⟩ := open_int Try.underlying2 (hval 3 2 v3 rfl rfl) h3
  obtain ⟨b3, rfl⟩ := key_of a3 w3
  clear hA0 hval0
  refine (wbjoinShares_any node_says (wb_says node_says) (wbj_says node_says (wb_says node_says)) (share_says node_says) A0 n0 c0 l0 hl0 hn0 hc0 hz0 A1 n1 c1 l1 hl1 hn1 hc1 hz1 b2 b3 W hr0 hr1).mono fun e W' ⟨he, bel⟩ => ?_
  subst he
  exact ⟨_, rfl, _, _, _, [], _, [], hW', trodAll_mk1 (shut_bool Try.underlying4 _), trodAll_cons_mk (Below.trod laidOut (by kernel_rfl) (of_decide_eq_true (by kernel_rfl)) k0 bel lt0) (trodAll_cons_mk (Below.trod laidOut (by kernel_rfl) (of_decide_eq_true (by kernel_rfl)) k1 bel lt1) (trodAll_cons_mk (shut_int Try.underlying2 w2) (trodAll_cons_mk (shut_int Try.underlying2 w3) trodAll_mk0))), rfl, bel.frame _, fun h => by cases h⟩

theorem wbjoinShares_row : Rows.WbjoinSharesSaid :=
  OpenClaim.holds_of_wide 4 Try.f4 rfl rfl rfl rfl rfl rfl rfl ⟨rfl, rfl, rfl, rfl, rfl⟩ rfl rfl rfl rfl rfl (by kernel_rfl) Try.func4 (by kernel_rfl)
    (of_decide_eq_true (by kernel_rfl)) (by unfold Func.isWrapper; first | (rw [if_pos (by decide +kernel)]; kernel_rfl) | (rw [if_neg (by decide +kernel)]; exact ⟨rfl, rfl⟩))
    (fun os started H enc _ => wbjoinShares_lifted os started H enc)
#print axioms wbjoinShares_row
end Go.Proofs.Ytfbmpgffekhmhaa
