/- Layer 13, as landed: Tops; what package share answers. -/
import Derived.Test.YthhhkcjggfdagaaJN
import Derived.Laws.EntriesVeiled
/- Layer 13, as landed: Tops' own function, that is asked of each node whether one goes on from it. -/
namespace Go.Proofs.Ythhhkcjggfdagaa
open Go.RowKit Go.Shelf Go.Proofs.Treem Go.Proofs.Cardm
attribute [local go_sem] Oper.semAt_some
set_option maxRecDepth 100000
variable {Nd : NdP}

section
variable {Ft : Nat → Prop} {W W' W'' : World}
theorem Keep.refl (Ft : Nat → Prop) (W : World) : Keep Ft W W := ⟨rfl, rfl, rfl, Nat.le_refl _, fun _ _ _ => rfl⟩
theorem Keep.trans (h : Keep Ft W W') (k : Keep Ft W' W'') : Keep Ft W W'' := ⟨k.os.trans h.os, k.tape.trans h.tape, k.output.trans h.output, Nat.le_trans h.size k.size, fun i hi hf => (k.block i (Nat.lt_of_lt_of_le hi h.size) hf).trans (h.block i hi hf)⟩
theorem Keep.grown {row : Option Nat} (h : W.grownBy W' row) (hr : ∀ r, row = some r → Ft r) : Keep Ft W W' := ⟨h.os, h.tape, h.output, h.size, fun k hk hf => h.block k hk (fun e => hf (hr k e.symm))⟩
theorem Keep.below (h : Below W.heap.size W W') : Keep Ft W W' := ⟨h.os, h.tape, h.output, h.size, fun k hk _ => h.block k hk⟩
end
abbrev noterV (gN : Nat) : Value := .func (.func 32) #[] #[.pointer (some ⟨gN, 0, none⟩)]
/-- where what Tops notes lies: gF, gW its two functions that note nodes, gL its list -/
structure MeetAt (w0 : World) (L : List Addr) (gF gW gL gN r gM q base : Nat) (m : Met) (v : Value) (W : World) : Prop where
  f : Boxed W gF 48 (noterV gN)
  w : Boxed W gW 48 (noterV gM)
  s1 : SetN w0 L gN r m.first W
  s2 : SetN w0 L gM q m.fresh W
  l : Boxed W gL 30 v
  ow : W.ownsRow base 25 1 v m.out.length (m.out.map Value.pointer)
  len : m.out.length ≤ m.first.length
  ne1 : gN ≠ gM
  ne2 : r ≠ q
abbrev footM (gF gW gL gN r gM q : Nat) (v : Value) (k : Nat) : Prop := k = gF ∨ k = gW ∨ k = gL ∨ k = gN ∨ k = r ∨ k = gM ∨ k = q ∨ v.ownBlock = some k
def EnvM (w0 : World) (L : List Addr) (gF gW gL gN r gM q base : Nat) (m : Met) (Ft : Nat → Prop) (W : World) : Prop := ∃ v, Ft = footM gF gW gL gN r gM q v ∧ MeetAt w0 L gF gW gL gN r gM q base m v W
section
variable {w0 W W' : World} {L : List Addr} {gF gW gL gN r gM q base : Nat} {m : Met} {v : Value}
theorem MeetAt.frame (h : MeetAt w0 L gF gW gL gN r gM q base m v W) (hk : NK W W') (hs : ∀ k, footM gF gW gL gN r gM q v k → W'.heap[k]? = W.heap[k]?) : MeetAt w0 L gF gW gL gN r gM q base m v W' :=
  ⟨(hs gF (by simp [footM])).trans h.f, (hs gW (by simp [footM])).trans h.w, h.s1.frame hk (hs gN (by simp [footM])) (hs r (by simp [footM])), h.s2.frame hk (hs gM (by simp [footM])) (hs q (by simp [footM])), (hs gL (by simp [footM])).trans h.l,
    own_block_at h.ow (fun k e => hs k (by simp [footM, e])), h.len, h.ne1, h.ne2⟩
theorem block_ne {W : World} {i j : Nat} {o o' : Obj} (h : W.heap[i]? = some o) (k : W.heap[j]? = some o') (hne : o ≠ o') : i ≠ j := fun e => by
  subst e
  rw [h] at k
  cases k
  exact hne rfl
/-- what isn't cells is nothing that it owns -/
theorem set_off {W : World} {i base size n : Nat} {S : List (Option Addr)} {e : TypeId} {v : Value} {xs : List Value} (h : W.heap[i]? = some (setO S)) (ho : W.ownsRow base e size v n xs) : v.ownBlock ≠ some i := fun hv => by
  rcases ho.2 with ⟨rfl, _⟩ | ⟨g, cap, cur, rfl, _, hg, _⟩
  · simp [Value.ownBlock] at hv
  · obtain rfl : g = i := by simpa [Value.ownBlock] using hv
    rw [h] at hg
    cases hg
/-- the one set has one more -/
theorem MeetAt.put1 (h : MeetAt w0 L gF gW gL gN r gM q base m v W) {p : Option Addr} (hp : GoodN w0 p) (hL : ∃ a, a ∈ L ∧ p = some a) : MeetAt w0 L gF gW gL gN r gM q base { m with first := insP m.first p } v (W.putObj r (setO (insP m.first p))) := by
  have hs := h.s1.set
  have hk : NK W (W.putObj r (setO (insP m.first p))) := .of_grown (grownBy_putObj' W r _) (fun k e cs hc => by cases e; rw [hs] at hc; cases hc)
  have off : ∀ k o, W.heap[k]? = some o → o ≠ setO m.first → (W.putObj r (setO (insP m.first p))).heap[k]? = W.heap[k]? := fun k o ho hne => World.putObj_heap_other (block_ne ho hs hne)
  refine ⟨(off gF _ h.f (by simp [setO])).trans h.f, (off gW _ h.w (by simp [setO])).trans h.w, h.s1.put hp hL, h.s2.frame hk (off gM _ h.s2.box (by simp [setO])) (World.putObj_heap_other (Ne.symm h.ne2)), (off gL _ h.l (by simp [setO])).trans h.l, own_block_at h.ow (fun k e => World.putObj_heap_other (fun e2 => ?_)), Nat.le_trans h.len ?_, h.ne1, h.ne2⟩
  · exact set_off (i := r) hs h.ow (by rw [e, e2])
  · show m.first.length ≤ (insP m.first p).length
    unfold insP; split <;> simp
theorem MeetAt.put2 (h : MeetAt w0 L gF gW gL gN r gM q base m v W) {p : Option Addr} (hp : GoodN w0 p) (hL : ∃ a, a ∈ L ∧ p = some a) : MeetAt w0 L gF gW gL gN r gM q base { m with fresh := insP m.fresh p } v (W.putObj q (setO (insP m.fresh p))) := by
  have hs := h.s2.set
  have hk : NK W (W.putObj q (setO (insP m.fresh p))) := .of_grown (grownBy_putObj' W q _) (fun k e cs hc => by cases e; rw [hs] at hc; cases hc)
  have off : ∀ k o, W.heap[k]? = some o → o ≠ setO m.fresh → (W.putObj q (setO (insP m.fresh p))).heap[k]? = W.heap[k]? := fun k o ho hne => World.putObj_heap_other (block_ne ho hs hne)
  refine ⟨(off gF _ h.f (by simp [setO])).trans h.f, (off gW _ h.w (by simp [setO])).trans h.w, h.s1.frame hk (off gN _ h.s1.box (by simp [setO])) (World.putObj_heap_other h.ne2), h.s2.put hp hL, (off gL _ h.l (by simp [setO])).trans h.l, own_block_at h.ow (fun k e => World.putObj_heap_other (fun e2 => ?_)), h.len, h.ne1, h.ne2⟩
  exact set_off (i := q) hs h.ow (by rw [e, e2])
theorem MeetAt.below (h : MeetAt w0 L gF gW gL gN r gM q base m v W) (hb : Below W.heap.size W W') : MeetAt w0 L gF gW gL gN r gM q base m v W' :=
  h.frame (.of_below hb) fun k hk => hb.block k (by
    rcases hk with rfl | rfl | rfl | rfl | rfl | rfl | rfl | hk
    · exact (Array.getElem?_eq_some_iff.1 h.f).1
    · exact (Array.getElem?_eq_some_iff.1 h.w).1
    · exact (Array.getElem?_eq_some_iff.1 h.l).1
    · exact (Array.getElem?_eq_some_iff.1 h.s1.box).1
    · exact (Array.getElem?_eq_some_iff.1 h.s1.set).1
    · exact (Array.getElem?_eq_some_iff.1 h.s2.box).1
    · exact (Array.getElem?_eq_some_iff.1 h.s2.set).1
    · exact (h.ow.lt k hk).2)
/-- the list has grown by one -/
theorem MeetAt.app (h : MeetAt w0 L gF gW gL gN r gM q base m v W) {p : Option Addr} {v' : Value} (hlen : m.out.length + 1 ≤ m.first.length) (hg : W.grownBy W' v.ownBlock) (ho : W'.ownsRow base 25 1 v' (m.out.length + 1) (m.out.map Value.pointer ++ [.pointer p])) (hw : v'.ownBlock = v.ownBlock ∨ ∀ k, v'.ownBlock = some k → W.heap.size ≤ k) :
    MeetAt w0 L gF gW gL gN r gM q base { m with out := m.out ++ [p] } v' (W'.setCell ⟨gL, 0, none⟩ v') := by
  have hne : ∀ (k : Nat) (t : TypeId) (u : Value), Boxed W k t u → t ≠ 25 → W'.heap[k]? = W.heap[k]? := fun k t u hb ht => hg.block k (Array.getElem?_eq_some_iff.1 hb).1 (has_not_row (show Has _ _ _ _ from hb) ht h.ow)
  have hnr : ∀ (k : Nat) (S : List (Option Addr)), W.heap[k]? = some (setO S) → W'.heap[k]? = W.heap[k]? := fun k S hs => hg.block k (Array.getElem?_eq_some_iff.1 hs).1 (fun e => set_off hs h.ow e.symm)
  have lW : Boxed W' gL 30 v := (hne gL _ _ h.l (by decide)).trans h.l
  have hk : NK W (W'.setCell ⟨gL, 0, none⟩ v') := (NK.of_grown hg (row_kind h.ow)).trans (.of_grown (grownBy_setCell' W' gL v') (fun k e cs hc => by cases e; rw [show W'.heap[gL]? = _ from lW] at hc; cases hc))
  have same : ∀ (k : Nat) (o : Obj), W.heap[k]? = some o → o ≠ .cells #[v] 30 (0, 0) → W'.heap[k]? = W.heap[k]? → (W'.setCell ⟨gL, 0, none⟩ v').heap[k]? = W.heap[k]? := fun k o ho hx e => (Below.heap_setCell _ _ _ k (fun e2 => by
    have e2 : k = gL := e2
    subst e2
    rw [show W.heap[k]? = _ from h.l] at ho
    cases ho
    exact hx rfl)).trans e
  have hf := h.f
  have hw' := h.w
  refine ⟨(same gF _ h.f (by intro e; cases e) (hne _ _ _ h.f (by decide))).trans h.f, (same gW _ h.w (by intro e; cases e) (hne _ _ _ h.w (by decide))).trans h.w, h.s1.frame hk (same gN _ h.s1.box (by intro e; cases e) (hne _ _ _ h.s1.box (by decide))) (same r _ h.s1.set (by simp [setO]) (hnr _ _ h.s1.set)),
    h.s2.frame hk (same gM _ h.s2.box (by intro e; cases e) (hne _ _ _ h.s2.box (by decide))) (same q _ h.s2.set (by simp [setO]) (hnr _ _ h.s2.set)), lW.set v', own_block_at (Y := W') ?_ (fun k e => Below.heap_setCell _ _ _ k (fun e2 => ?_)), by simpa using hlen, h.ne1, h.ne2⟩
  · simpa using ho
  · have e2 : k = gL := e2
    subst e2
    exact has_not_row (show Has _ _ _ _ from lW) (by decide) ho e.symm
end
/-- what Tops' own function answers -/
def MetBy (w0 : World) (L : List Addr) (gF gW gL gN r gM q base : Nat) (m : Met) (v : Value) (p : Option Addr) (W : World) (e : Ending) (W' : World) : Prop :=
  e = .returned (.bool (meetStep m p).1) ∧ ∃ v', MeetAt w0 L gF gW gL gN r gM q base (meetStep m p).2 v' W' ∧ Keep (footM gF gW gL gN r gM q v) W W' ∧ (v'.ownBlock = v.ownBlock ∨ ∀ k, v'.ownBlock = some k → W.heap.size ≤ k)
set_option maxHeartbeats 8000000 in
theorem meet13_any (w0 : World) (L : List Addr) (hc : card L ≤ 2000) (gF gW gL gN r gM q base : Nat) (m : Met) (v : Value) (W : World) (h : MeetAt w0 L gF gW gL gN r gM q base m v W) (hbase : base ≤ W.heap.size) (a : Addr) (ha : a ∈ L) (hg : GoodN w0 (some a)) :
    Calls Try.prog 21 #[.pointer (some a), .pointer (some ⟨gF, 0, none⟩), .pointer (some ⟨gW, 0, none⟩), .pointer (some ⟨gL, 0, none⟩)] W (MetBy w0 L gF gW gL gN r gM q base m v (some a) W) := by
  obtain ⟨i0, hin, hz0, hz1, hz2⟩ := info_parts info_ptr13
  have hL : ∃ b, b ∈ L ∧ (some a : Option Addr) = some b := ⟨a, ha, rfl⟩
  have p1 := h.put1 hg hL
  have lf := h.s1.len
  have lp := p1.s1.len
  have xF := h.f.cell
  have c1 : Hid (Calls Try.prog 32 #[.pointer (some a), .pointer (some ⟨gN, 0, none⟩)] W fun e W' => e = .returned (.bool (!decide (some a ∈ m.first))) ∧ W.putObj r (setO (insP m.first (some a))) = W') := note_any W gN r m.first (some a) h.s1.box h.s1.set (fun x hx => (h.s1.good x hx).good h.s1.nk) (hg.good h.s1.nk)
  have k1 : Keep (footM gF gW gL gN r gM q v) W (W.putObj r (setO (insP m.first (some a)))) := Keep.put W r _ (by simp [footM])
  obtain ⟨W1, hW1⟩ : ∃ V, W.putObj r (setO (insP m.first (some a))) = V := ⟨_, rfl⟩
  rw [hW1] at c1 p1 k1
  by_cases hf : some a ∈ m.first
  · have e1 : meetStep m (some a) = (false, { m with first := insP m.first (some a) }) := by simp [meetStep, hf]
    have hend : Hid (MetBy w0 L gF gW gL gN r gM q base m v (some a) W (.returned (.bool false)) W1) := ⟨by rw [e1], v, by rw [e1]; exact p1, k1, .inl rfl⟩
    rw [show (!decide (some a ∈ m.first)) = false by simp [hf]] at c1
    clear p1 k1 hL hg ha h hW1 hf e1 lf lp
    go_enter Try.func21, Try.ntmps21
    go_wp2_with fail
    refine c1.out.mono ?_
    rintro e W' ⟨rfl, rfl⟩
    go_wp2_with fail
    go_ret
    exact hend.out
  · rw [show (!decide (some a ∈ m.first)) = true by simp [hf]] at c1
    have xW := p1.w.cell
    have p2 := p1.put2 hg hL
    have c2 : Hid (Calls Try.prog 32 #[.pointer (some a), .pointer (some ⟨gM, 0, none⟩)] W1 fun e W' => e = .returned (.bool (!decide (some a ∈ m.fresh))) ∧ W1.putObj q (setO (insP m.fresh (some a))) = W') := note_any W1 gM q m.fresh (some a) p1.s2.box p1.s2.set (fun x hx => (p1.s2.good x hx).good p1.s2.nk) (hg.good p1.s2.nk)
    have k2 : Keep (footM gF gW gL gN r gM q v) W (W1.putObj q (setO (insP m.fresh (some a)))) := k1.trans (Keep.put W1 q _ (by simp [footM]))
    obtain ⟨W2, hW2⟩ : ∃ V, W1.putObj q (setO (insP m.fresh (some a))) = V := ⟨_, rfl⟩
    rw [hW2] at k2
    have p2 : MeetAt w0 L gF gW gL gN r gM q base ⟨insP m.first (some a), insP m.fresh (some a), m.out⟩ v W2 := hW2 ▸ p2
    have hlen : m.out.length + 1 ≤ (insP m.first (some a)).length := by have := h.len; simp [insP, hf]; omega
    have lp' : (insP m.first (some a)).length ≤ card L := lp
    by_cases hO : some a ∈ m.fresh
    · have e1 : meetStep m (some a) = (false, ⟨insP m.first (some a), insP m.fresh (some a), m.out ++ [some a]⟩) := by simp [meetStep, hf, hO]
      rw [show (!decide (some a ∈ m.fresh)) = false by simp [hO]] at c2
      rw [hW2] at c2
      have xL := p2.l.cell
      have fL := p2.l.frozen
      have hsl := p2.ow
      obtain ⟨A, cq, rfl, -, -, -⟩ := own_slice hsl
      have hsl : W2.ownsRow base 25 1 (.slice A m.out.length cq) m.out.length (m.out.map Value.pointer) := hsl
      obtain ⟨n, hn⟩ : ∃ n, m.out.length = n := ⟨_, rfl⟩
      have hn2 : n + 1 ≤ 2000 := by omega
      have hbase2 : base ≤ W2.heap.size := Nat.le_trans hbase k2.size
      have hfin : Hid (∀ W' v', (W2.alloc (.cells #[.pointer (some a)] 25)).grownBy W' (Value.slice A n cq).ownBlock → W'.ownsRow base 25 1 v' (n + 1) (m.out.map Value.pointer ++ [.pointer (some a)]) → (v'.ownBlock = (Value.slice A n cq).ownBlock ∨ ∀ k, v'.ownBlock = some k → (W2.alloc (.cells #[.pointer (some a)] 25)).heap.size ≤ k) →
          MetBy w0 L gF gW gL gN r gM q base m (.slice A n cq) (some a) W (.returned (.bool false)) (W'.setCell ⟨gL, 0, none⟩ v')) := fun W' v' h1 h2 h3 => by
        have ba : Below W2.heap.size W2 (W2.alloc (.cells #[.pointer (some a)] 25)) := (Below.refl _ W2).alloc (Nat.le_refl _) _
        have p3 := p2.below ba
        rw [← hn] at h1 h2 h3 ⊢
        have p4 := p3.app (p := some a) hlen h1 h2 h3
        refine ⟨by rw [e1], v', by rw [e1]; exact p4, ((k2.trans (.below ba)).trans (.grown h1 (fun k e => by simp [footM, e]))).trans (.grown (grownBy_setCell' W' gL v') (fun k e => by cases e; simp [footM])), h3.imp id (fun x k e => Nat.le_trans (Nat.le_trans k2.size ba.size) (x k e))⟩
      have hob := fun (W' : World) (h1 : (W2.alloc (.cells #[.pointer (some a)] 25)).grownBy W' (Value.slice A n cq).ownBlock) => (show Boxed W' gL 30 (.slice A n cq) from by
        have ba : Below W2.heap.size W2 (W2.alloc (.cells #[.pointer (some a)] 25)) := (Below.refl _ W2).alloc (Nat.le_refl _) _
        have p3 := p2.below ba
        rw [← hn] at h1 ⊢
        exact (h1.block gL (Array.getElem?_eq_some_iff.1 p3.l).1 (has_not_row (show Has _ _ _ _ from p3.l) (by decide) p3.ow)).trans p3.l)
      have hob' := Lib.hid hob
      rw [hn] at hsl xL
      have HN := Lib.hid hn
      clear p1 k1 p2 k2 hL hg ha h hW1 hW2 hf hO e1 lf lp lp' hlen hob hn
      obtain ⟨outs, houts⟩ : ∃ l, m.out.map Value.pointer = l := ⟨_, rfl⟩
      rw [houts] at hsl hfin
      clear houts
      go_enter Try.func21, Try.ntmps21
      go_wp2_with fail
      refine c1.out.mono ?_
      rintro e W' ⟨rfl, rfl⟩
      clear c1
      go_wp2_with fail
      refine c2.out.mono ?_
      rintro e W' ⟨rfl, rfl⟩
      clear c2
      go_wp2_with (
        (at_builtin
         refine wpList_append_where rfl _ _ 30 rfl base 25 i0 (.pointer none) 1 8 Try.underlying30 hin hz0 hz1 hz2 rfl (by decide) (.slice A n cq) n outs rfl (hsl.alloc _) ⟨W2.heap.size, 0, none⟩ 1 1 [.pointer (some a)] rfl rfl (fun j u hu => ((Has.new W2 25 #[.pointer (some a)]).row.at_ hu).2) (by simp [Value.oneCell']) (by unfold maxLen; omega) (by omega) (by simp; omega) ?_
         intro v2 w4 hown' hgrow hwhere
         have hE := Lib.hid (hfin.out w4 v2 hgrow hown' hwhere)
         obtain ⟨g', cap', rfl⟩ := ownsRow_succ hown'
         have xL4 := (hob'.out w4 hgrow).cell
         have fL4 := (hob'.out w4 hgrow).frozen))
      go_ret
      rw [HN.out]
      exact hE.out
    · have e1 : meetStep m (some a) = (true, ⟨insP m.first (some a), insP m.fresh (some a), m.out⟩) := by simp [meetStep, hf, hO]
      have hend : Hid (MetBy w0 L gF gW gL gN r gM q base m v (some a) W (.returned (.bool true)) W2) := ⟨by rw [e1], v, by rw [e1]; exact p2, k2, .inl rfl⟩
      rw [show (!decide (some a ∈ m.fresh)) = true by simp [hO]] at c2
      rw [hW2] at c2
      clear p1 k1 p2 k2 hL hg ha h hW1 hW2 hf hO e1 lf lp lp' hlen
      go_enter Try.func21, Try.ntmps21
      go_wp2_with fail
      refine c1.out.mono ?_
      rintro e W' ⟨rfl, rfl⟩
      go_wp2_with fail
      refine c2.out.mono ?_
      rintro e W' ⟨rfl, rfl⟩
      go_wp2_with fail
      go_ret
      exact hend.out
end Go.Proofs.Ythhhkcjggfdagaa
namespace Go.Proofs.Ythhhkcjggfdagaa
open Go.RowKit Go.Shelf Go.Proofs.Treem Go.Proofs.Cardm
attribute [local go_sem] Oper.semAt_some
set_option maxRecDepth 100000
variable {Nd : NdP}

theorem meet_goes (hN : NodeSays Nd) (w0 : World) (L : List Addr) (hc : card L ≤ 2000) (gF gW gL gN r gM q base B C : Nat) (free : TypeId → Bool) (f1 : free 62 = false) (f2 : free 25 = false) (f3 : free 30 = false) (f4 : free 48 = false)
    (h1 : B ≤ gF) (h2 : B ≤ gW) (h3 : B ≤ gL) (h4 : B ≤ gN) (h5 : B ≤ r) (h6 : B ≤ gM) (h7 : B ≤ q) (h8 : B ≤ base) (h9 : r < C) (h10 : q < C) (h11 : base ≤ gL) :
    GoesOn Nd w0 21 #[.pointer (some ⟨gF, 0, none⟩), .pointer (some ⟨gW, 0, none⟩), .pointer (some ⟨gL, 0, none⟩)] B C mine13 free (U13 Nd w0 L) meetStep (fun m => card L - m.first.length) (EnvM w0 L gF gW gL gN r gM q base) where
  enters := enters_of Try.func21 (by kernel_rfl) rfl
  calls := fun m Ft W a x l rr ⟨v, hFt, hM⟩ hU hk => by
    have hgood : GoodN w0 (some a) := GoodN.root hN (T := .n a x l rr) hU.1
    have hb : base ≤ W.heap.size := by have := (Array.getElem?_eq_some_iff.1 hM.l).1; omega
    refine (meet13_any w0 L hc gF gW gL gN r gM q base m v W hM hb a (hU.2 a (AT.mem_n.2 (.inl rfl))) hgood).mono ?_
    rintro e W' ⟨he, v', hM', hk', hv⟩
    refine ⟨he, _, ⟨v', rfl, hM'⟩, hFt ▸ hk', fun k hx => ?_⟩
    rw [hFt]
    rcases hx with hx | hx | hx | hx | hx | hx | hx | hx
    · exact .inl (by simp [footM, hx])
    · exact .inl (by simp [footM, hx])
    · exact .inl (by simp [footM, hx])
    · exact .inl (by simp [footM, hx])
    · exact .inl (by simp [footM, hx])
    · exact .inl (by simp [footM, hx])
    · exact .inl (by simp [footM, hx])
    · rcases hv with hv | hv
      · exact .inl (by simp [footM, ← hv, hx])
      · exact .inr (hv k hx)
  foot := fun m Ft W ⟨v, hFt, hM⟩ k hk => by
    rw [hFt] at hk
    rcases hk with rfl | rfl | rfl | rfl | rfl | rfl | rfl | hk
    · exact ⟨h1, _, hM.f, .inr ⟨_, _, _, rfl, rfl, f4, by decide⟩⟩
    · exact ⟨h2, _, hM.w, .inr ⟨_, _, _, rfl, rfl, f4, by decide⟩⟩
    · exact ⟨h3, _, hM.l, .inr ⟨_, _, _, rfl, rfl, f3, by decide⟩⟩
    · exact ⟨h4, _, hM.s1.box, .inr ⟨_, _, _, rfl, rfl, f1, by decide⟩⟩
    · exact ⟨h5, _, hM.s1.set, .inl ⟨rfl, h9⟩⟩
    · exact ⟨h6, _, hM.s2.box, .inr ⟨_, _, _, rfl, rfl, f1, by decide⟩⟩
    · exact ⟨h7, _, hM.s2.set, .inl ⟨rfl, h10⟩⟩
    · rcases hM.ow.2 with ⟨rfl, _⟩ | ⟨g, cap, cur, rfl, hbg, hg, _⟩
      · simp [Value.ownBlock] at hk
      · obtain rfl : g = k := by simpa [Value.ownBlock] using hk
        exact ⟨by omega, _, hg, .inr ⟨_, _, _, rfl, rfl, f2, by decide⟩⟩
  frame := fun m Ft W W' ⟨v, hFt, hM⟩ hr => ⟨v, hFt, hM.frame hr.nk (fun k hk => hr.same k (by rw [hFt]; exact hk))⟩
  less := fun m Ft W a x l rr ⟨v, hFt, hM⟩ hU => by
    have hgood : GoodN w0 (some a) := GoodN.root hN (T := .n a x l rr) hU.1
    have h12 := (hM.s1.put hgood ⟨a, hU.2 a (AT.mem_n.2 (.inl rfl)), rfl⟩).len
    unfold meetStep
    by_cases hx : some a ∈ m.first
    · simp [insP, hx]
    · simp only [insP, hx, if_false, List.length_append, List.length_cons, List.length_nil] at h12
      by_cases hy : some a ∈ m.fresh
      · simp [insP, hx, hy]; omega
      · simp [insP, hx, hy]; omega
theorem goM_out (T : AT) (m : Met) : (goL meetStep [T] m).2 = (goV meetStep T m).2 := by rw [goL_one]
set_option maxHeartbeats 8000000 in
theorem tops13_any (hN : NodeSays Nd) (w : World) (T : AT) (os : List AT) (A : Option Addr) (n c : Nat) (hT : Stand Nd w T) (ho : ∀ U ∈ os, Stand Nd w U) (hA : LieP w w.heap.size A n c (os.map AT.ptr)) (hn : n ≤ 2000) (hc : card (addrsOf os ++ T.addrs) ≤ 2000) :
    Calls Try.prog 11 #[.pointer T.ptr, .slice A n c] w fun e w' => ∃ v, e = .returned v ∧ w'.ownsRow w.heap.size 25 1 v (topsOf (addrsOf os) T).length (((topsOf (addrsOf os) T).map AT.ptr).map Value.pointer) ∧ Below w.heap.size w w' := by
  obtain ⟨L, hL⟩ : ∃ L, addrsOf os ++ T.addrs = L := ⟨_, rfl⟩
  have uT : U13 Nd w L T := ⟨hT.lies, fun b hb => hL ▸ List.mem_append_right _ hb⟩
  have uo : ∀ V ∈ os, U13 Nd w L V := fun V hV => ⟨(ho V hV).lies, fun b hb => hL ▸ List.mem_append_left _ (List.mem_flatMap.2 ⟨V, hV, hb⟩)⟩
  obtain ⟨v1, v2, -⟩ := note_is hN (us := os) (S := []) (L0 := []) (vis_nil w w.heap.size) (fun a => by simp) (fun V hV => (ho V hV).lies)
  have hout := meet_tops hN hT.lies v2
  rw [List.nil_append] at hout
  obtain ⟨S, hS⟩ : ∃ S, (goL noteStep os []).2 = S := ⟨_, rfl⟩
  rw [hS] at hout
  obtain ⟨fin, hFin⟩ : ∃ t, (goL meetStep [T] ⟨[], S, []⟩).2 = t := ⟨_, rfl⟩
  rw [hFin] at hout
  obtain ⟨N, hNC⟩ : ∃ N, topsOf (addrsOf os) T = N := ⟨_, rfl⟩
  rw [hNC] at hout ⊢
  rw [hL] at hc
  obtain ⟨gL, hgL⟩ : ∃ g, w.heap.size = g := ⟨_, rfl⟩
  obtain ⟨w1, hw1⟩ : ∃ v, w.alloc (.cells #[.slice none 0 0] 30) = v := ⟨_, rfl⟩
  have b1 : Below w.heap.size w w1 := hw1 ▸ (Below.refl _ w).alloc (Nat.le_refl _) _
  have z1 : w1.heap.size = gL + 1 := by rw [← hw1, ← hgL]; simp
  have x1 : Boxed w1 gL 30 (.slice none 0 0) := hgL ▸ hw1 ▸ Boxed.new w _ _
  have cA := noter_any hN w w1 b1 L hc [] (fun U hU => by cases hU) none 0 0 (by omega) ⟨rfl, Nat.le_refl _, Nat.zero_le _, fun _ => rfl, Row.none_ _ _ _⟩
  have cB : Hid (∀ w2, Below w1.heap.size w1 w2 → Calls Try.prog 20 #[.slice A n c] w2 (Noter w L os w2)) := fun w2 hb => noter_any hN w w2 (Below.after b1 hb) L hc os uo A n c hn (hA.after (Below.after b1 hb))
  -- what goes over the nodes, once all lies there
  have cF : Hid (∀ (w3 w4 w5 w6 : World) (gF gN r gM q : Nat), SetN w L gN r [] w3 → SetN w L gM q S w3 → gL < gN → gL < r → gN < gM → gN < q → r < gM → r < q → gM < w3.heap.size → q < w3.heap.size → w3.heap.size = gF → Below w1.heap.size w1 w3 →
      (w3.alloc (.cells #[noterV gN] 48)).alloc (.cells #[noterV gM] 48) = w4 → w4.alloc (.cells #[.pointer T.ptr] 25) = w5 →
      (w5.alloc (.cells #[.func (.func 21) #[] #[.pointer (some ⟨gF, 0, none⟩), .pointer (some ⟨gF + 1, 0, none⟩), .pointer (some ⟨gL, 0, none⟩)]] 48)).alloc (.cells #[.slice (some ⟨gF + 2, 0, none⟩) 1 1] 30) = w6 →
      Calls Try.prog 22 #[.func (.func 29) #[] #[.pointer (some ⟨w5.heap.size + 1, 0, none⟩), .pointer (some ⟨w5.heap.size, 0, none⟩)]] w6 fun e w' => (∃ v, e = .returned v) ∧ (∃ v, Boxed w' gL 30 v ∧ w'.ownsRow w.heap.size 25 1 v fin.out.length (fin.out.map Value.pointer)) ∧ Below w.heap.size w w') := fun w3 w4 w5 w6 gF gN r gM q s1 s2 q1 q2 q3 q4 q5 q6 q7 q8 q9 hb3 e4 e5 e6 => by
    have b4 : Below w3.heap.size w3 w4 := e4 ▸ ((Below.refl _ w3).alloc (Nat.le_refl _) _).alloc (by simp) _
    have b5 : Below w4.heap.size w4 w5 := e5 ▸ (Below.refl _ w4).alloc (Nat.le_refl _) _
    have b6 : Below w5.heap.size w5 w6 := e6 ▸ ((Below.refl _ w5).alloc (Nat.le_refl _) _).alloc (by simp) _
    have b46 := Below.after b5 b6
    have b36 := Below.after b4 b46
    have z4 : w4.heap.size = gF + 2 := by rw [← e4, ← q9]; simp
    have z5 : w5.heap.size = gF + 3 := by rw [← e5]; simp [z4]
    have z6 : w6.heap.size = gF + 5 := by rw [← e6]; simp [z5]
    have bw6 : Below w.heap.size w w6 := Below.after b1 (Below.after hb3 b36)
    have hF : Boxed w4 gF 48 (noterV gN) := q9 ▸ e4 ▸ Has.alloc (show Has _ _ _ _ from Boxed.new w3 _ _) _
    have hW : Boxed w4 (gF + 1) 48 (noterV gM) := by
      have := Boxed.new (w3.alloc (.cells #[noterV gN] 48)) 48 (noterV gM)
      rw [e4, World.size_alloc, q9] at this
      exact this
    have k36 : NK w3 w6 := .of_below b36
    have hM : MeetAt w L gF (gF + 1) gL gN r gM q w.heap.size ⟨[], S, []⟩ (.slice none 0 0) w6 :=
      ⟨Has.next (show Has _ _ _ _ from hF) b46, Has.next (show Has _ _ _ _ from hW) b46, s1.frame k36 (b36.block _ (by omega)) (b36.block _ (by omega)), s2.frame k36 (b36.block _ (by omega)) (b36.block _ (by omega)), Has.next (show Has _ _ _ _ from x1) (Below.after hb3 b36), ⟨rfl, .inl ⟨rfl, rfl⟩⟩, Nat.le_refl _, by omega, by omega⟩
    have hg6 : Boxed w6 w5.heap.size 48 (.func (.func 21) #[] #[.pointer (some ⟨gF, 0, none⟩), .pointer (some ⟨gF + 1, 0, none⟩), .pointer (some ⟨gL, 0, none⟩)]) := e6 ▸ Has.alloc (show Has _ _ _ _ from Boxed.new w5 _ _) _
    have ht6 : Boxed w6 (w5.heap.size + 1) 30 (.slice (some ⟨gF + 2, 0, none⟩) 1 1) := by
      have := Boxed.new (w5.alloc (.cells #[.func (.func 21) #[] #[.pointer (some ⟨gF, 0, none⟩), .pointer (some ⟨gF + 1, 0, none⟩), .pointer (some ⟨gL, 0, none⟩)]] 48)) 30 (.slice (some ⟨gF + 2, 0, none⟩) 1 1)
      rw [e6, World.size_alloc] at this
      exact this
    have hl6 : Has w6 (gF + 2) 25 #[.pointer T.ptr] := by
      have := Has.new w4 25 #[.pointer T.ptr]
      rw [e5, z4] at this
      exact Has.next this b6
    have hnf : ∀ k, gF + 2 ≤ k → ¬ footM gF (gF + 1) gL gN r gM q (.slice none 0 0) k := fun k hk hx => by
      rcases hx with hx | hx | hx | hx | hx | hx | hx | hx
      · omega
      · omega
      · omega
      · omega
      · omega
      · omega
      · omega
      · simp [Value.ownBlock] at hx
    have goes := meet_goes hN w L hc gF (gF + 1) gL gN r gM q w.heap.size w.heap.size w6.heap.size (fun _ => false) rfl rfl rfl rfl (by omega) (by omega) (by omega) (by omega) (by omega) (by omega) (by omega) (Nat.le_refl _) (by omega) (by omega) (by omega)
    have hseq := fun k => nodes13_from (Nd := Nd) hN w6 goes rfl rfl rfl rfl rfl U13.sides (fun T h => h.1) [T] (fun V hV => by rw [List.mem_singleton.1 hV]; exact uT) (w5.heap.size + 1) w5.heap.size (some ⟨gF + 2, 0, none⟩) 1 1 rfl (by omega) (by omega) ⟨[], S, []⟩ _ ⟨_, rfl, hM⟩ (by simp; omega) (.of_below bw6) ht6 hg6 (hnf _ (by omega)) (hnf _ (by omega))
      (fun k V hk => by
        match k with
        | 0 =>
          obtain rfl : T = V := by simpa using hk
          exact ⟨_, rfl, hnf _ (Nat.le_refl _), ⟨_, _, _, hl6, rfl⟩, hl6.cell 0⟩
        | k + 1 => simp at hk) k
    rw [hFin] at hseq
    refine (goOver_any (B := w.heap.size) (mine := mine13) w6 (by omega) (enters_of Try.func29 (by kernel_rfl) rfl) hseq ?_).mono ?_
    · rintro xs V l o o' hl ho' hcc ⟨e1, Ft, v, hFt, hMv⟩
      refine ⟨e1, Ft, v, hFt, hMv.frame (.of_grown (grownBy_putObj' V l o') (fun k e cs hx => by cases e; rw [ho'] at hx; cases hx; cases hcc)) (fun k hk => World.putObj_heap_other ?_)⟩
      rcases hk with hx | hx | hx | hx | hx | hx | hx | hx
      · omega
      · omega
      · omega
      · omega
      · omega
      · omega
      · omega
      · intro e
        subst e
        rcases hMv.ow.2 with ⟨rfl, _⟩ | ⟨g, cap, cur, rfl, hbg, hg, _⟩
        · simp [Value.ownBlock] at hx
        · obtain rfl : g = k := by simpa [Value.ownBlock] using hx
          rw [ho'] at hg
          cases hg
          cases hcc
    · rintro e w' ⟨hv, ⟨xs, e1, Ft, v, hFt, hMv⟩, hturn⟩
      exact ⟨hv, ⟨v, hMv.l, hMv.ow⟩, bw6.trans (hturn.below (Nat.le_refl _) (by omega))⟩
  have cA' := Lib.hid cA
  have HL := Lib.hid hgL
  have HW := Lib.hid hw1
  have Z1 := Lib.hid z1
  have B1 := Lib.hid b1
  have HS := Lib.hid hS
  have HN := Lib.hid hout
  clear cA hgL hw1 z1 b1 x1 hS hout v1 v2 uT uo hL hc hT ho hA hNC hN hFin
  go_enter Try.func11, Try.ntmps11
  go_upto_region 2 with (fail)
  rw [HW.out, HL.out]
  go_wp2_with fail
  refine cA'.out.mono ?_
  rintro e w2 ⟨gN, r, rfl, h1, h2, h3, h4, hs1, hb2⟩
  have hs1 : SetN w L gN r [] w2 := hs1
  have S1 := Lib.hid hs1
  have H1 := Lib.hid (And.intro h1 (And.intro h2 (And.intro h3 h4)))
  have B2 := Lib.hid hb2
  clear h1 h2 h3 h4 hs1 hb2 cA'
  go_wp2_with fail
  refine (cB.out w2 B2.out).mono ?_
  rintro e w3 ⟨gM, q, rfl, h1, h2, h3, h4, hs2, hb3⟩
  rw [HS.out] at hs2
  have S2 := Lib.hid hs2
  have H2 := Lib.hid (And.intro h1 (And.intro h2 (And.intro h3 h4)))
  have S13 := Lib.hid (S1.out.frame (.of_below hb3) (hb3.block _ H1.out.2.2.2) (hb3.block _ H1.out.2.2.1))
  have B3 := Lib.hid (Below.after B2.out hb3)
  obtain ⟨gF, hgF⟩ : ∃ g, w3.heap.size = g := ⟨_, rfl⟩
  have HF := Lib.hid hgF
  clear h1 h2 h3 h4 hs2 hb3 cB hgF
  go_upto_region 4 with (fail)
  obtain ⟨w4, e4⟩ : ∃ v, (w3.alloc (.cells #[noterV gN] 48)).alloc (.cells #[noterV gM] 48) = v := ⟨_, rfl⟩
  obtain ⟨w5, e5⟩ : ∃ v, w4.alloc (.cells #[.pointer T.ptr] 25) = v := ⟨_, rfl⟩
  have z4 : w4.heap.size = gF + 2 := by have := HF.out; rw [← e4, ← this]; simp
  have E4 := Lib.hid e4
  have E5 := Lib.hid e5
  have Z4 := Lib.hid z4
  rw [E4.out, HF.out]
  clear e4 e5 z4
  go_wp2_with fail
  rw [E5.out, Z4.out]
  refine (nodes13_any _ _ _ 1 1 w5).mono ?_
  rintro e w6 ⟨rfl, e6⟩
  have cG := cF.out w3 w4 w5 w6 gF gN r gM q S13.out S2.out (by have := H1.out; have := Z1.out; omega) (by have := H1.out; have := Z1.out; omega) (by have := H1.out; have := H2.out; omega) (by have := H1.out; have := H2.out; omega) (by have := H1.out; have := H2.out; omega) (by have := H1.out; have := H2.out; omega) H2.out.2.2.2 H2.out.2.2.1 HF.out B3.out E4.out E5.out e6
  have cG' := Lib.hid cG
  obtain ⟨z5, hz5⟩ : ∃ z, w5.heap.size = z := ⟨_, rfl⟩
  rw [hz5] at cG' ⊢
  clear cF cG e6 hz5
  go_wp2_with fail
  refine cG'.out.mono ?_
  rintro e w7 ⟨⟨u, rfl⟩, ⟨v, hl, how⟩, hb⟩
  rw [HN.out] at how
  have xL := hl.cell
  have how' := Lib.hid how
  have hb' := Lib.hid hb
  clear how hb hl cG'
  obtain ⟨A', c', rfl, -, -, -⟩ := own_slice how'.out
  go_wp2_with fail
  go_ret
  refine ⟨_, rfl, ?_, hb'.out⟩
  have := how'.out
  simpa using this
/-- what package share answers -/
theorem share_says (hN : NodeSays Nd) : ShareSays Nd where
  nodes := fun w T hT hc => nodes_all hN w T hT hc
  isIn := fun w T V hT hV hc => in13_any hN w T V hT hV hc
  new := fun w T os A n c hT ho hA hn hc => new13_any hN w T os A n c hT ho hA hn hc
  same := fun w T U hT hU hc => same13_any hN w T U hT hU hc
  tops := fun w T os A n c hT ho hA hn hc => tops13_any hN w T os A n c hT ho hA hn hc
end Go.Proofs.Ythhhkcjggfdagaa
