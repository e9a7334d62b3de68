/- The contracts of taker of package sift, and of the closure that it returns; of May and Takes. -/
import Derived.Test.YtjjhmenkgcldeaaL6Rule
import Derived.Deep.RegionHeld3
namespace Go.Proofs.Ytjjhmenkgcldeaa
open Go.RowKit Go.Shelf Go.Proofs.Rowm Go.Proofs.Siftm

/-- what the closure reads stands where it stood -/
def Told5 (w : World) (a b c d : Addr) (u v s t : Value) (g : Nat) (p : Pd) (x : World) : Prop :=
  x.cell? a = some u ∧ x.cell? b = some v ∧ x.cell? c = some s ∧ x.cell? d = some t ∧ Has x g 23 (pdC p) ∧ Below w.heap.size w x
theorem told_next {w x y : World} {a b c d : Addr} {u v s t : Value} {g : Nat} {p : Pd} (h : x.cell? a = some u ∧ x.cell? b = some v ∧ x.cell? c = some s ∧ x.cell? d = some t ∧ Has x g 23 (pdC p) ∧ Below w.heap.size w x) (hb : Below x.heap.size x y) :
    y.cell? a = some u ∧ y.cell? b = some v ∧ y.cell? c = some s ∧ y.cell? d = some t ∧ Has y g 23 (pdC p) ∧ Below w.heap.size w y :=
  ⟨keep_cell hb h.1, keep_cell hb h.2.1, keep_cell hb h.2.2.1, keep_cell hb h.2.2.2.1, h.2.2.2.2.1.next hb, Below.after h.2.2.2.2.2 hb⟩

set_option maxHeartbeats 1000000 in
theorem take1 (p : Pd) (x : Pr) (rr pp g : Nat) (f : FuncId) (cs : Array Value) (hcs : cs = #[] ∨ cs = #[.pointer (some ⟨g, 0, none⟩)]) (he : ∀ args w, (callFunc f args).run Try.prog w = .ok (.enter f args) w)
    (hC : Hid (∀ W, Has W g 23 (pdC p) → Calls Try.prog f (#[pV x] ++ cs) W fun e W' => e = .returned (.bool (sel p.k p.a p.b x)) ∧ Below W.heap.size W W'))
    (w : World) (h1 : Has w rr 48 #[.bool true, .func (.func f) #[] cs]) (h2 : Has w pp 23 (pdC p)) (h3 : Has w g 23 (pdC p)) :
    Calls Try.prog 21 #[pV x, .pointer (some ⟨rr, 0, none⟩), .pointer (some ⟨pp, 0, none⟩)] w fun e w' => e = .returned (.bool (sel p.k p.a p.b x != p.n)) ∧ Below w.heap.size w w' := by
  obtain ⟨sl, hsl⟩ : ∃ sl, sel p.k p.a p.b x = sl := ⟨_, rfl⟩
  rw [hsl] at hC ⊢
  clear hsl
  have q1 := (h1.alloc (.cells #[K x.1, K x.2] 25)).cell 1
  have q2 := (h2.alloc (.cells #[K x.1, K x.2] 25)).cell 3
  have q3 := h3.alloc (.cells #[K x.1, K x.2] 25)
  have hx := Has.new w 25 #[K x.1, K x.2]
  have c0 := hx.c0
  have c1 := hx.c1
  have hw := (Below.refl w.heap.size w).alloc (Nat.le_refl _) (.cells #[K x.1, K x.2] 25)
  simp only [List.getElem?_toArray, List.getElem?_cons_zero, List.getElem?_cons_succ] at q1 q2
  clear h1 h2 h3 hx
  go_enter Try.func21, Try.ntmps21
  go_wp2_with fail
  obtain ⟨W, hW⟩ : ∃ W, w.alloc (.cells #[K x.1, K x.2] 25) = W := ⟨_, rfl⟩
  rw [hW] at q1 q2 q3 c0 c1 hw ⊢
  clear hW
  have hw' := Lib.hid hw
  have q3' := Lib.hid q3
  clear hw q3
  rcases hcs with rfl | rfl
  · have hC' := Lib.hid (show ∀ W, Has W g 23 (pdC p) → Calls Try.prog f #[pV x] W fun e W' => e = .returned (.bool sl) ∧ Below W.heap.size W W' from by simpa using hC.out)
    clear hC
    go_region_held3 (fun w' => w'.cell? ⟨rr, 1, none⟩ = some (.func (.func f) #[] #[]) ∧ w'.cell? ⟨pp, 3, none⟩ = some (.bool p.n) ∧ w'.cell? ⟨w.heap.size, 0, none⟩ = some (K x.1) ∧ w'.cell? ⟨w.heap.size, 1, none⟩ = some (K x.2) ∧ Has w' g 23 (pdC p) ∧ Below w.heap.size w w') (first | exact ⟨q1, q2, c0, c1, q3'.out, hw'.out.drew⟩ | assumption)
      ((refine (hC'.out _ (And.left (And.right (And.right (And.right (And.right (by assumption))))))).mono ?_; rintro e w' ⟨rfl, hb⟩; have hS' := told_next (w := w) (by assumption) hb; clear hb))
    go_wp2
    go_ret
    exact ⟨rfl, And.right (And.right (And.right (And.right (And.right (by assumption)))))⟩
  · have hC' := Lib.hid (show ∀ W, Has W g 23 (pdC p) → Calls Try.prog f #[pV x, .pointer (some ⟨g, 0, none⟩)] W fun e W' => e = .returned (.bool sl) ∧ Below W.heap.size W W' from by simpa using hC.out)
    clear hC
    go_region_held3 (fun w' => w'.cell? ⟨rr, 1, none⟩ = some (.func (.func f) #[] #[.pointer (some ⟨g, 0, none⟩)]) ∧ w'.cell? ⟨pp, 3, none⟩ = some (.bool p.n) ∧ w'.cell? ⟨w.heap.size, 0, none⟩ = some (K x.1) ∧ w'.cell? ⟨w.heap.size, 1, none⟩ = some (K x.2) ∧ Has w' g 23 (pdC p) ∧ Below w.heap.size w w') (first | exact ⟨q1, q2, c0, c1, q3'.out, hw'.out.drew⟩ | assumption)
      ((refine (hC'.out _ (And.left (And.right (And.right (And.right (And.right (by assumption))))))).mono ?_; rintro e w' ⟨rfl, hb⟩; have hS' := told_next (w := w) (by assumption) hb; clear hb))
    go_wp2
    go_ret
    exact ⟨rfl, And.right (And.right (And.right (And.right (And.right (by assumption)))))⟩

/-- the closure of taker, as a value: the blocks of the rule and of the predicate -/
abbrev takV (rr pp : Nat) : Value := .func (.func 21) #[] #[.pointer (some ⟨rr, 0, none⟩), .pointer (some ⟨pp, 0, none⟩)]
/-- what taker tells of a predicate that may be: a closure, which says of any pair whether it is taken, as long as all stays that lies there -/
def TakerYes (p : Pd) (w : World) (e : Ending) (w' : World) : Prop :=
  ∃ rr pp : Nat, e = .returned (.tuple #[takV rr pp, .bool true]) ∧
    (∀ x W, Below w'.heap.size w' W → Calls Try.prog 21 #[pV x, .pointer (some ⟨rr, 0, none⟩), .pointer (some ⟨pp, 0, none⟩)] W fun e W' => e = .returned (.bool (takes p x)) ∧ Below W.heap.size W W') ∧ Below w.heap.size w w'

set_option maxHeartbeats 1000000 in
theorem taker_yes (p : Pd) (hm : may p = true) (w : World) : Calls Try.prog 18 #[pdV p] w (TakerYes p w) := by
  have ht : ∀ x, (sel p.k p.a p.b x != p.n) = takes p x := fun x => by unfold takes; rw [hm]; rfl
  have hp := Has.new w 23 (pdC p)
  have b0 := (Below.refl w.heap.size w).alloc (Nat.le_refl _) (.cells (pdC p) 23)
  have hR := Lib.hid (ruleOf_yes p hm (w.alloc (.cells (pdC p) 23)) (w.heap.size + 1) (by simp))
  have hp' := Lib.hid hp
  have b0' := Lib.hid b0
  clear hp b0
  go_enter Try.func18, Try.ntmps18
  go_wp2_with fail
  refine hR.out.mono ?_
  rintro e w1 ⟨f, cs, hcs, rfl, he, hC, hg, hb⟩
  have p1 := Lib.hid (hp'.out.next hb)
  have g1 := Lib.hid hg
  have b1 := Lib.hid (Below.after b0'.out hb)
  have hC' := Lib.hid hC
  clear hb hg hC hp' b0' hR
  rcases hcs with rfl | rfl
  all_goals
    go_wp2
    go_ret2
    refine ⟨_, _, rfl, fun x W' hW' => ?_, b1.out.alloc b1.out.size _⟩
    rw [← ht x]
    refine take1 p x w1.heap.size w.heap.size (w.heap.size + 1) f _ ?_ he (Lib.hid fun V hV => hC'.out x V hV) W' ((Has.new w1 _ _).next hW') ((p1.out.alloc _).next hW') ((g1.out.alloc _).next hW')
    simp
set_option maxHeartbeats 1000000 in
theorem taker_no (p : Pd) (hm : may p = false) (w : World) : Calls Try.prog 18 #[pdV p] w fun e w' => e = .returned (.tuple #[.nilFunc, .bool false]) ∧ Below w.heap.size w w' := by
  have b0 := (Below.refl w.heap.size w).alloc (Nat.le_refl _) (.cells (pdC p) 23)
  have hR := Lib.hid (ruleOf_no p hm (w.alloc (.cells (pdC p) 23)))
  have b0' := Lib.hid b0
  clear b0
  go_enter Try.func18, Try.ntmps18
  go_wp2_with fail
  refine hR.out.mono ?_
  rintro e w1 ⟨hres, hb⟩
  have b1 := Lib.hid (Below.after b0'.out hb)
  clear hb b0' hR
  rcases hres with ⟨f, cs, rfl⟩ | rfl
  all_goals
    go_wp2
    go_ret2
    exact ⟨rfl, b1.out.alloc b1.out.size _⟩
end Go.Proofs.Ytjjhmenkgcldeaa
