/- Layer 13, as landed: Tops' own function, that is asked of each node whether one goes on from it. -/
import Derived.Test.YthhhkcjggfdagaaS13In
import Derived.Laws.EntriesVeiled
namespace Go.Proofs.Ythhhkcjggfdagaa
open Go.RowKit Go.Shelf Go.Proofs.Treem Go.Proofs.Cardm
attribute [local go_sem] Oper.semAt_some
set_option maxRecDepth 100000
variable {Nd : NdP}

section
variable {Ft : Nat → Prop} {W W' W'' : World}
theorem Keep.refl (Ft : Nat → Prop) (W : World) : Keep Ft W W := ⟨rfl, rfl, rfl, Nat.le_refl _, fun _ _ _ => rfl⟩
theorem Keep.trans (h : Keep Ft W W') (k : Keep Ft W' W'') : Keep Ft W W'' := ⟨k.os.trans h.os, k.tape.trans h.tape, k.output.trans h.output, Nat.le_trans h.size k.size, fun i hi hf => (k.block i (Nat.lt_of_lt_of_le hi h.size) hf).trans (h.block i hi hf)⟩
theorem Keep.grown {row : Option Nat} (h : W.grownBy W' row) (hr : ∀ r, row = some r → Ft r) : Keep Ft W W' := ⟨h.os, h.tape, h.output, h.size, fun k hk hf => h.block k hk (fun e => hf (hr k e.symm))⟩
theorem Keep.below (h : Below W.heap.size W W') : Keep Ft W W' := ⟨h.os, h.tape, h.output, h.size, fun k hk _ => h.block k hk⟩
end
abbrev noterV (gN : Nat) : Value := .func (.func 32) #[] #[.pointer (some ⟨gN, 0, none⟩)]
/-- where what Tops notes lies: gF, gW its two functions that note nodes, gL its list -/
structure MeetAt (w0 : World) (L : List Addr) (gF gW gL gN r gM q base : Nat) (m : Met) (v : Value) (W : World) : Prop where
  f : Boxed W gF 48 (noterV gN)
  w : Boxed W gW 48 (noterV gM)
  s1 : SetN w0 L gN r m.first W
  s2 : SetN w0 L gM q m.fresh W
  l : Boxed W gL 30 v
  ow : W.ownsRow base 25 1 v m.out.length (m.out.map Value.pointer)
  len : m.out.length ≤ m.first.length
  ne1 : gN ≠ gM
  ne2 : r ≠ q
abbrev footM (gF gW gL gN r gM q : Nat) (v : Value) (k : Nat) : Prop := k = gF ∨ k = gW ∨ k = gL ∨ k = gN ∨ k = r ∨ k = gM ∨ k = q ∨ v.ownBlock = some k
def EnvM (w0 : World) (L : List Addr) (gF gW gL gN r gM q base : Nat) (m : Met) (Ft : Nat → Prop) (W : World) : Prop := ∃ v, Ft = footM gF gW gL gN r gM q v ∧ MeetAt w0 L gF gW gL gN r gM q base m v W
section
variable {w0 W W' : World} {L : List Addr} {gF gW gL gN r gM q base : Nat} {m : Met} {v : Value}
theorem MeetAt.frame (h : MeetAt w0 L gF gW gL gN r gM q base m v W) (hk : NK W W') (hs : ∀ k, footM gF gW gL gN r gM q v k → W'.heap[k]? = W.heap[k]?) : MeetAt w0 L gF gW gL gN r gM q base m v W' :=
  ⟨(hs gF (by simp [footM])).trans h.f, (hs gW (by simp [footM])).trans h.w, h.s1.frame hk (hs gN (by simp [footM])) (hs r (by simp [footM])), h.s2.frame hk (hs gM (by simp [footM])) (hs q (by simp [footM])), (hs gL (by simp [footM])).trans h.l,
    own_block_at h.ow (fun k e => hs k (by simp [footM, e])), h.len, h.ne1, h.ne2⟩
theorem block_ne {W : World} {i j : Nat} {o o' : Obj} (h : W.heap[i]? = some o) (k : W.heap[j]? = some o') (hne : o ≠ o') : i ≠ j := fun e => by
  subst e
  rw [h] at k
  cases k
  exact hne rfl
/-- what isn't cells is nothing that it owns -/
theorem set_off {W : World} {i base size n : Nat} {S : List (Option Addr)} {e : TypeId} {v : Value} {xs : List Value} (h : W.heap[i]? = some (setO S)) (ho : W.ownsRow base e size v n xs) : v.ownBlock ≠ some i := fun hv => by
  rcases ho.2 with ⟨rfl, _⟩ | ⟨g, cap, cur, rfl, _, hg, _⟩
  · simp [Value.ownBlock] at hv
  · obtain rfl : g = i := by simpa [Value.ownBlock] using hv
    rw [h] at hg
    cases hg
/-- the one set has one more -/
theorem MeetAt.put1 (h : MeetAt w0 L gF gW gL gN r gM q base m v W) {p : Option Addr} (hp : GoodN w0 p) (hL : ∃ a, a ∈ L ∧ p = some a) : MeetAt w0 L gF gW gL gN r gM q base { m with first := insP m.first p } v (W.putObj r (setO (insP m.first p))) := by
  have hs := h.s1.set
  have hk : NK W (W.putObj r (setO (insP m.first p))) := .of_grown (grownBy_putObj' W r _) (fun k e cs hc => by cases e; rw [hs] at hc; cases hc)
  have off : ∀ k o, W.heap[k]? = some o → o ≠ setO m.first → (W.putObj r (setO (insP m.first p))).heap[k]? = W.heap[k]? := fun k o ho hne => World.putObj_heap_other (block_ne ho hs hne)
  refine ⟨(off gF _ h.f (by simp [setO])).trans h.f, (off gW _ h.w (by simp [setO])).trans h.w, h.s1.put hp hL, h.s2.frame hk (off gM _ h.s2.box (by simp [setO])) (World.putObj_heap_other (Ne.symm h.ne2)), (off gL _ h.l (by simp [setO])).trans h.l, own_block_at h.ow (fun k e => World.putObj_heap_other (fun e2 => ?_)), Nat.le_trans h.len ?_, h.ne1, h.ne2⟩
  · exact set_off (i := r) hs h.ow (by rw [e, e2])
  · show m.first.length ≤ (insP m.first p).length
    unfold insP; split <;> simp
theorem MeetAt.put2 (h : MeetAt w0 L gF gW gL gN r gM q base m v W) {p : Option Addr} (hp : GoodN w0 p) (hL : ∃ a, a ∈ L ∧ p = some a) : MeetAt w0 L gF gW gL gN r gM q base { m with fresh := insP m.fresh p } v (W.putObj q (setO (insP m.fresh p))) := by
  have hs := h.s2.set
  have hk : NK W (W.putObj q (setO (insP m.fresh p))) := .of_grown (grownBy_putObj' W q _) (fun k e cs hc => by cases e; rw [hs] at hc; cases hc)
  have off : ∀ k o, W.heap[k]? = some o → o ≠ setO m.fresh → (W.putObj q (setO (insP m.fresh p))).heap[k]? = W.heap[k]? := fun k o ho hne => World.putObj_heap_other (block_ne ho hs hne)
  refine ⟨(off gF _ h.f (by simp [setO])).trans h.f, (off gW _ h.w (by simp [setO])).trans h.w, h.s1.frame hk (off gN _ h.s1.box (by simp [setO])) (World.putObj_heap_other h.ne2), h.s2.put hp hL, (off gL _ h.l (by simp [setO])).trans h.l, own_block_at h.ow (fun k e => World.putObj_heap_other (fun e2 => ?_)), h.len, h.ne1, h.ne2⟩
  exact set_off (i := q) hs h.ow (by rw [e, e2])
theorem MeetAt.below (h : MeetAt w0 L gF gW gL gN r gM q base m v W) (hb : Below W.heap.size W W') : MeetAt w0 L gF gW gL gN r gM q base m v W' :=
  h.frame (.of_below hb) fun k hk => hb.block k (by
    rcases hk with rfl | rfl | rfl | rfl | rfl | rfl | rfl | hk
    · exact (Array.getElem?_eq_some_iff.1 h.f).1
    · exact (Array.getElem?_eq_some_iff.1 h.w).1
    · exact (Array.getElem?_eq_some_iff.1 h.l).1
    · exact (Array.getElem?_eq_some_iff.1 h.s1.box).1
    · exact (Array.getElem?_eq_some_iff.1 h.s1.set).1
    · exact (Array.getElem?_eq_some_iff.1 h.s2.box).1
    · exact (Array.getElem?_eq_some_iff.1 h.s2.set).1
    · exact (h.ow.lt k hk).2)
/-- the list has grown by one -/
theorem MeetAt.app (h : MeetAt w0 L gF gW gL gN r gM q base m v W) {p : Option Addr} {v' : Value} (hlen : m.out.length + 1 ≤ m.first.length) (hg : W.grownBy W' v.ownBlock) (ho : W'.ownsRow base 25 1 v' (m.out.length + 1) (m.out.map Value.pointer ++ [.pointer p])) (hw : v'.ownBlock = v.ownBlock ∨ ∀ k, v'.ownBlock = some k → W.heap.size ≤ k) :
    MeetAt w0 L gF gW gL gN r gM q base { m with out := m.out ++ [p] } v' (W'.setCell ⟨gL, 0, none⟩ v') := by
  have hne : ∀ (k : Nat) (t : TypeId) (u : Value), Boxed W k t u → t ≠ 25 → W'.heap[k]? = W.heap[k]? := fun k t u hb ht => hg.block k (Array.getElem?_eq_some_iff.1 hb).1 (has_not_row (show Has _ _ _ _ from hb) ht h.ow)
  have hnr : ∀ (k : Nat) (S : List (Option Addr)), W.heap[k]? = some (setO S) → W'.heap[k]? = W.heap[k]? := fun k S hs => hg.block k (Array.getElem?_eq_some_iff.1 hs).1 (fun e => set_off hs h.ow e.symm)
  have lW : Boxed W' gL 30 v := (hne gL _ _ h.l (by decide)).trans h.l
  have hk : NK W (W'.setCell ⟨gL, 0, none⟩ v') := (NK.of_grown hg (row_kind h.ow)).trans (.of_grown (grownBy_setCell' W' gL v') (fun k e cs hc => by cases e; rw [show W'.heap[gL]? = _ from lW] at hc; cases hc))
  have same : ∀ (k : Nat) (o : Obj), W.heap[k]? = some o → o ≠ .cells #[v] 30 (0, 0) → W'.heap[k]? = W.heap[k]? → (W'.setCell ⟨gL, 0, none⟩ v').heap[k]? = W.heap[k]? := fun k o ho hx e => (Below.heap_setCell _ _ _ k (fun e2 => by
    have e2 : k = gL := e2
    subst e2
    rw [show W.heap[k]? = _ from h.l] at ho
    cases ho
    exact hx rfl)).trans e
  have hf := h.f
  have hw' := h.w
  refine ⟨(same gF _ h.f (by intro e; cases e) (hne _ _ _ h.f (by decide))).trans h.f, (same gW _ h.w (by intro e; cases e) (hne _ _ _ h.w (by decide))).trans h.w, h.s1.frame hk (same gN _ h.s1.box (by intro e; cases e) (hne _ _ _ h.s1.box (by decide))) (same r _ h.s1.set (by simp [setO]) (hnr _ _ h.s1.set)),
    h.s2.frame hk (same gM _ h.s2.box (by intro e; cases e) (hne _ _ _ h.s2.box (by decide))) (same q _ h.s2.set (by simp [setO]) (hnr _ _ h.s2.set)), lW.set v', own_block_at (Y := W') ?_ (fun k e => Below.heap_setCell _ _ _ k (fun e2 => ?_)), by simpa using hlen, h.ne1, h.ne2⟩
  · simpa using ho
  · have e2 : k = gL := e2
    subst e2
    exact has_not_row (show Has _ _ _ _ from lW) (by decide) ho e.symm
end
/-- what Tops' own function answers -/
def MetBy (w0 : World) (L : List Addr) (gF gW gL gN r gM q base : Nat) (m : Met) (v : Value) (p : Option Addr) (W : World) (e : Ending) (W' : World) : Prop :=
  e = .returned (.bool (meetStep m p).1) ∧ ∃ v', MeetAt w0 L gF gW gL gN r gM q base (meetStep m p).2 v' W' ∧ Keep (footM gF gW gL gN r gM q v) W W' ∧ (v'.ownBlock = v.ownBlock ∨ ∀ k, v'.ownBlock = some k → W.heap.size ≤ k)
set_option maxHeartbeats 8000000 in
theorem meet13_any (w0 : World) (L : List Addr) (hc : card L ≤ 2000) (gF gW gL gN r gM q base : Nat) (m : Met) (v : Value) (W : World) (h : MeetAt w0 L gF gW gL gN r gM q base m v W) (hbase : base ≤ W.heap.size) (a : Addr) (ha : a ∈ L) (hg : GoodN w0 (some a)) :
    Calls Try.prog 21 #[.pointer (some a), .pointer (some ⟨gF, 0, none⟩), .pointer (some ⟨gW, 0, none⟩), .pointer (some ⟨gL, 0, none⟩)] W (MetBy w0 L gF gW gL gN r gM q base m v (some a) W) := by
  obtain ⟨i0, hin, hz0, hz1, hz2⟩ := info_parts info_ptr13
  have hL : ∃ b, b ∈ L ∧ (some a : Option Addr) = some b := ⟨a, ha, rfl⟩
  have p1 := h.put1 hg hL
  have lf := h.s1.len
  have lp := p1.s1.len
  have xF := h.f.cell
  have c1 : Hid (Calls Try.prog 32 #[.pointer (some a), .pointer (some ⟨gN, 0, none⟩)] W fun e W' => e = .returned (.bool (!decide (some a ∈ m.first))) ∧ W.putObj r (setO (insP m.first (some a))) = W') := note_any W gN r m.first (some a) h.s1.box h.s1.set (fun x hx => (h.s1.good x hx).good h.s1.nk) (hg.good h.s1.nk)
  have k1 : Keep (footM gF gW gL gN r gM q v) W (W.putObj r (setO (insP m.first (some a)))) := Keep.put W r _ (by simp [footM])
  obtain ⟨W1, hW1⟩ : ∃ V, W.putObj r (setO (insP m.first (some a))) = V := ⟨_, rfl⟩
  rw [hW1] at c1 p1 k1
  by_cases hf : some a ∈ m.first
  · have e1 : meetStep m (some a) = (false, { m with first := insP m.first (some a) }) := by simp [meetStep, hf]
    have hend : Hid (MetBy w0 L gF gW gL gN r gM q base m v (some a) W (.returned (.bool false)) W1) := ⟨by rw [e1], v, by rw [e1]; exact p1, k1, .inl rfl⟩
    rw [show (!decide (some a ∈ m.first)) = false by simp [hf]] at c1
    clear p1 k1 hL hg ha h hW1 hf e1 lf lp
    go_enter Try.func21, Try.ntmps21
    go_wp2_with fail
    refine c1.out.mono ?_
    rintro e W' ⟨rfl, rfl⟩
    go_wp2_with fail
    go_ret
    exact hend.out
  · rw [show (!decide (some a ∈ m.first)) = true by simp [hf]] at c1
    have xW := p1.w.cell
    have p2 := p1.put2 hg hL
    have c2 : Hid (Calls Try.prog 32 #[.pointer (some a), .pointer (some ⟨gM, 0, none⟩)] W1 fun e W' => e = .returned (.bool (!decide (some a ∈ m.fresh))) ∧ W1.putObj q (setO (insP m.fresh (some a))) = W') := note_any W1 gM q m.fresh (some a) p1.s2.box p1.s2.set (fun x hx => (p1.s2.good x hx).good p1.s2.nk) (hg.good p1.s2.nk)
    have k2 : Keep (footM gF gW gL gN r gM q v) W (W1.putObj q (setO (insP m.fresh (some a)))) := k1.trans (Keep.put W1 q _ (by simp [footM]))
    obtain ⟨W2, hW2⟩ : ∃ V, W1.putObj q (setO (insP m.fresh (some a))) = V := ⟨_, rfl⟩
    rw [hW2] at k2
    have p2 : MeetAt w0 L gF gW gL gN r gM q base ⟨insP m.first (some a), insP m.fresh (some a), m.out⟩ v W2 := hW2 ▸ p2
    have hlen : m.out.length + 1 ≤ (insP m.first (some a)).length := by have := h.len; simp [insP, hf]; omega
    have lp' : (insP m.first (some a)).length ≤ card L := lp
    by_cases hO : some a ∈ m.fresh
    · have e1 : meetStep m (some a) = (false, ⟨insP m.first (some a), insP m.fresh (some a), m.out ++ [some a]⟩) := by simp [meetStep, hf, hO]
      rw [show (!decide (some a ∈ m.fresh)) = false by simp [hO]] at c2
      rw [hW2] at c2
      have xL := p2.l.cell
      have fL := p2.l.frozen
      have hsl := p2.ow
      obtain ⟨A, cq, rfl, -, -, -⟩ := own_slice hsl
      have hsl : W2.ownsRow base 25 1 (.slice A m.out.length cq) m.out.length (m.out.map Value.pointer) := hsl
      obtain ⟨n, hn⟩ : ∃ n, m.out.length = n := ⟨_, rfl⟩
      have hn2 : n + 1 ≤ 2000 := by omega
      have hbase2 : base ≤ W2.heap.size := Nat.le_trans hbase k2.size
      have hfin : Hid (∀ W' v', (W2.alloc (.cells #[.pointer (some a)] 25)).grownBy W' (Value.slice A n cq).ownBlock → W'.ownsRow base 25 1 v' (n + 1) (m.out.map Value.pointer ++ [.pointer (some a)]) → (v'.ownBlock = (Value.slice A n cq).ownBlock ∨ ∀ k, v'.ownBlock = some k → (W2.alloc (.cells #[.pointer (some a)] 25)).heap.size ≤ k) →
          MetBy w0 L gF gW gL gN r gM q base m (.slice A n cq) (some a) W (.returned (.bool false)) (W'.setCell ⟨gL, 0, none⟩ v')) := fun W' v' h1 h2 h3 => by
        have ba : Below W2.heap.size W2 (W2.alloc (.cells #[.pointer (some a)] 25)) := (Below.refl _ W2).alloc (Nat.le_refl _) _
        have p3 := p2.below ba
        rw [← hn] at h1 h2 h3 ⊢
        have p4 := p3.app (p := some a) hlen h1 h2 h3
        refine ⟨by rw [e1], v', by rw [e1]; exact p4, ((k2.trans (.below ba)).trans (.grown h1 (fun k e => by simp [footM, e]))).trans (.grown (grownBy_setCell' W' gL v') (fun k e => by cases e; simp [footM])), h3.imp id (fun x k e => Nat.le_trans (Nat.le_trans k2.size ba.size) (x k e))⟩
      have hob := fun (W' : World) (h1 : (W2.alloc (.cells #[.pointer (some a)] 25)).grownBy W' (Value.slice A n cq).ownBlock) => (show Boxed W' gL 30 (.slice A n cq) from by
        have ba : Below W2.heap.size W2 (W2.alloc (.cells #[.pointer (some a)] 25)) := (Below.refl _ W2).alloc (Nat.le_refl _) _
        have p3 := p2.below ba
        rw [← hn] at h1 ⊢
        exact (h1.block gL (Array.getElem?_eq_some_iff.1 p3.l).1 (has_not_row (show Has _ _ _ _ from p3.l) (by decide) p3.ow)).trans p3.l)
      have hob' := Lib.hid hob
      rw [hn] at hsl xL
      have HN := Lib.hid hn
      clear p1 k1 p2 k2 hL hg ha h hW1 hW2 hf hO e1 lf lp lp' hlen hob hn
      obtain ⟨outs, houts⟩ : ∃ l, m.out.map Value.pointer = l := ⟨_, rfl⟩
      rw [houts] at hsl hfin
      clear houts
      go_enter Try.func21, Try.ntmps21
      go_wp2_with fail
      refine c1.out.mono ?_
      rintro e W' ⟨rfl, rfl⟩
      clear c1
      go_wp2_with fail
      refine c2.out.mono ?_
      rintro e W' ⟨rfl, rfl⟩
      clear c2
      go_wp2_with (
        (at_builtin
         refine wpList_append_where rfl _ _ 30 rfl base 25 i0 (.pointer none) 1 8 Try.underlying30 hin hz0 hz1 hz2 rfl (by decide) (.slice A n cq) n outs rfl (hsl.alloc _) ⟨W2.heap.size, 0, none⟩ 1 1 [.pointer (some a)] rfl rfl (fun j u hu => ((Has.new W2 25 #[.pointer (some a)]).row.at_ hu).2) (by simp [Value.oneCell']) (by unfold maxLen; omega) (by omega) (by simp; omega) ?_
         intro v2 w4 hown' hgrow hwhere
         have hE := Lib.hid (hfin.out w4 v2 hgrow hown' hwhere)
         obtain ⟨g', cap', rfl⟩ := ownsRow_succ hown'
         have xL4 := (hob'.out w4 hgrow).cell
         have fL4 := (hob'.out w4 hgrow).frozen))
      go_ret
      rw [HN.out]
      exact hE.out
    · have e1 : meetStep m (some a) = (true, ⟨insP m.first (some a), insP m.fresh (some a), m.out⟩) := by simp [meetStep, hf, hO]
      have hend : Hid (MetBy w0 L gF gW gL gN r gM q base m v (some a) W (.returned (.bool true)) W2) := ⟨by rw [e1], v, by rw [e1]; exact p2, k2, .inl rfl⟩
      rw [show (!decide (some a ∈ m.fresh)) = true by simp [hO]] at c2
      rw [hW2] at c2
      clear p1 k1 p2 k2 hL hg ha h hW1 hW2 hf hO e1 lf lp lp' hlen
      go_enter Try.func21, Try.ntmps21
      go_wp2_with fail
      refine c1.out.mono ?_
      rintro e W' ⟨rfl, rfl⟩
      go_wp2_with fail
      refine c2.out.mono ?_
      rintro e W' ⟨rfl, rfl⟩
      go_wp2_with fail
      go_ret
      exact hend.out
end Go.Proofs.Ythhhkcjggfdagaa
