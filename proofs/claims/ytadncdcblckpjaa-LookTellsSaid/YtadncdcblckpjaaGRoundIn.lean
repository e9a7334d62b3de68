/- A region that draws its order, in a round of a range over a function, with a round of another one among its calls: walked as in the wide fence. -/
import Derived.Test.YtadncdcblckpjaaGRound
import Derived.Test.YtadncdcblckpjaaGHeldIn
namespace Go.Proofs.Ytadncdcblckpjaa
open Go

theorem opsIn_inRound {P : Program} {ops : Array Oper} {Q : Exit → Act → World → Prop} (L n m : Nat) (hd : ∀ (i : Nat) (o : Oper) c, ops[i]? = some o → o.op ≠ .defer c) :
    ∀ (l : List Nat) (a : Act) (w : World), wpOpsIn Fence.wide m P ops Q l a w → wpOpsIn (Fence.wide.inRound L) n P ops Q l a w := by
  intro l
  induction l with
  | nil => exact fun _ _ h => h
  | cons i rest ih =>
    intro a w h
    simp only [wpOpsIn] at h ⊢
    cases ho : ops[i]? with
    | none => rw [ho] at h; exact ih a w h
    | some o =>
      rw [ho] at h
      simp only at h ⊢
      by_cases hw : Region.wanted o (yielded ops a.tmps) = true
      · rw [if_pos hw] at h ⊢
        unfold Oper.wpIn at h ⊢
        refine ⟨fun _ _ => trivial, ?_⟩
        have h := h.2
        rw [show (Fence.wide).round = none from rfl, Oper.semAt_none] at h
        rw [show (Fence.wide.inRound L).round = some L from rfl, Oper.semAt_some L _ _ (fun c => hd i o c ho)]
        cases hr : (execOp a.eval o).run P w with
        | ok x w' =>
          rw [hr] at h
          cases x with
          | value v => exact ih _ _ h
          | skip => exact ih _ _ h
          | defer d => exact ih _ _ h
          | enter f args =>
            refine ⟨(fun hh => by cases hh), CallsIn.inRound L (callsIn_wide.2 (callsIn_wide.1 (CallsIn.mono h.2 ?_)))⟩
            intro e w'' he
            cases e with
            | returned v => exact ih _ _ he
            | panicked chain => exact he
            | outgrown => exact he
          | row row args =>
            refine ⟨(fun hh => by cases hh), fun c cs _ => ?_⟩
            obtain ⟨v, w'', r, s⟩ := h.2 c cs (room_wide _)
            exact ⟨v, w'', ih _ _ r, by rw [fenced_inRound]; exact s⟩
          | round l f tmps assign body =>
            refine ⟨(fun hh => by cases hh), trivial, fun c cs _ => ?_⟩
            obtain ⟨e, w'', r, s⟩ := h.2.2 c cs (room_wide _)
            refine ⟨e, w'', ?_, by rw [fenced_inRound]; exact s⟩
            cases e with
            | returned v => exact ih _ _ r
            | panicked chain => exact r
            | outgrown => exact r
          | _ => exact h.elim
        | halt x w' =>
          rw [hr] at h
          cases x <;> exact h
      · rw [if_neg hw] at h ⊢
        exact ⟨fun _ _ => trivial, ih _ _ h.2⟩
theorem wpIn_round_any {P : Program} {ops : Array Oper} {Q : Exit → Act → World → Prop} {id L n : Nat} {a : Act} {w wd : World} (hm : P.follows .mixedOrders = true) (hd : noDefer ops = true) (hw : w.drew = wd)
    (h : wpAnyIn Fence.wide 0 P .any ops (OnlyNormal Q) ops.size (Array.replicate ops.size false) a wd) : (Code.region id ops true).wpIn (Fence.wide.inRound L) n P Q a w :=
  Code.wpIn_mono only_normal (wpIn_region_draw fun t => by
    subst hw
    refine opsIn_inRound L n 0 (noDefer_at hd) _ _ _ ?_
    simp only [Region.schedule, hm, Bool.true_or, if_true]
    exact wpAnyIn_sound ops.size t _ _ _ h)
end Go.Proofs.Ytadncdcblckpjaa
