/- A region that draws its order: the condition on the world may become a stronger one on the way. -/
import Derived.Deep.RegionHeld
namespace Go.Proofs.YtcnkgddldhkddaaDoor
open Go

theorem wpAnyH_up {P : Program} {ops : Array Oper} {Q : Exit → Act → World → Prop} {md : Region.Mode} {S S' : World → Prop} (h : ∀ w, S' w → S w) :
    ∀ {fuel : Nat} {listed : Array Bool} {a : Act} {w : World}, wpAnyH P md ops Q S' fuel listed a w → wpAnyH P md ops Q S fuel listed a w
  | 0, _, _, _, H => H
  | _ + 1, _, _, _, H => ⟨H.1, fun i hi => wpOp_mono (fun _ _ h' => ⟨h _ h'.1, wpAnyH_up h h'.2⟩) (H.2 i hi)⟩
end Go.Proofs.YtcnkgddldhkddaaDoor
