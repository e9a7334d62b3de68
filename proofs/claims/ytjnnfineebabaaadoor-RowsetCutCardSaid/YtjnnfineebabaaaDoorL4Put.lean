/- The contracts of Drop and Put of package row. -/
import Derived.Test.YtjnnfineebabaaaDoorL4Seek
import Derived.Test.YtjnnfineebabaaaDoorL4RefF
namespace Go.Proofs.YtjnnfineebabaaaDoor
open Go.RowKit Go.Shelf Go.Proofs.Rowm

/-- a part of a slice that lies, as Concat takes it -/
theorem lies_of {w : World} {A : Option Addr} {c : Nat} {l : List Pr} {B : Nat} (hr : Row w B A (flat l)) (hc : l.length ≤ c) (hA : A = none → c = 0) : (Part.mk A c l).Lies w B := ⟨hr, hc, hA⟩
theorem two_parts {w : World} {g : Nat} {t : TypeId} {p q : Part} {u v : Value} (hu : p.val = u) (hv : q.val = v) (h : Has w g t #[u, v]) : ∀ k (hk : k < [p, q].length), w.cell? ⟨g, k, none⟩ = some [p, q][k].val := by
  intro k hk
  rw [h.cell k]
  match k, hk with
  | 0, _ => simp [← hu]
  | 1, _ => simp [← hv]
theorem three_parts {w : World} {g : Nat} {t : TypeId} {p q r : Part} {u v x : Value} (hu : p.val = u) (hv : q.val = v) (hx : r.val = x) (h : Has w g t #[u, v, x]) : ∀ k (hk : k < [p, q, r].length), w.cell? ⟨g, k, none⟩ = some [p, q, r][k].val := by
  intro k hk
  rw [h.cell k]
  match k, hk with
  | 0, _ => simp [← hu]
  | 1, _ => simp [← hv]
  | 2, _ => simp [← hx]

end Go.Proofs.YtjnnfineebabaaaDoor
