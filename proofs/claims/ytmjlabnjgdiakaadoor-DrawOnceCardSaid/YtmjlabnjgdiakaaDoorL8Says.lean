/- Package draw, as it landed, answers what layer 8 asks of it. -/
import Derived.Test.YtmjlabnjgdiakaaDoorN8Many
namespace Go.Proofs.YtmjlabnjgdiakaaDoor
open Go.RowKit Go.Proofs.Mixm

theorem next_any (w : World) (S : Nat → Prop) (a : Addr) (k : BitVec 64) (l : List (BitVec 64)) (h0 : 0 < w.heap.size) (hs : Steps w) (hd : NDr w S a l) :
    Calls Tryd.prog 9 #[.pointer (some a), K k] w fun e w' => ∃ S', e = .returned (V (Drawm.out k l)) ∧ (∀ i, S' i → S i ∨ w.heap.size ≤ i) ∧ NDr w' S' a l.tail ∧ But S w w' := by
  cases l with
  | nil =>
    refine (next_empty w S a k h0 hs hd).mono ?_
    rintro e w' ⟨rfl, hb⟩
    have hlt : ∀ i, S i → i < w.heap.size := by obtain ⟨_, _, _, _, _, _, _, _, h, _⟩ := hd; exact h
    exact ⟨S, rfl, fun i h => .inl h, ndr_keep hd (fun i hi => hb.block i (hlt i hi)), But.of_below hb⟩
  | cons x l =>
    refine (next_some w S a k x l hd).mono ?_
    rintro e w' ⟨rfl, hd2, hb⟩
    exact ⟨S, rfl, fun i h => .inl h, hd2, hb⟩
theorem draw_says : DrawSays NDr where
  keep := ndr_keep
  lt := fun ⟨_, _, _, _, _, _, _, _, h, _⟩ => h
  new := fun w A n c l h => new_any w A n c l h
  next := fun w S a k l h0 hs _ _ hd => next_any w S a k l h0 hs hd
  next0 := fun w k h0 hs => next_nil w k h0 hs
  left := fun w S a l _ hd => left_some w S a l hd
  left0 := left_none
  copy := fun w S a l hl hd => copy_some w S a l hl hd
  copy0 := copy_none
  many := fun w B S a A n c ks l hB hSB h0 hs hk _ hd => many_some w B S a A n c ks l hB hSB h0 hs hk hd (fun w S k l h0 hs hd => next_any w S a k l h0 hs hd)
  many0 := fun w A n c ks h0 hs hk => many_nil w A n c ks h0 hs hk
end Go.Proofs.YtmjlabnjgdiakaaDoor
