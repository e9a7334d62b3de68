/- The contract of Put of package row. -/
import Derived.Test.YtjnnfineebabaaaDoorL4Put
namespace Go.Proofs.YtjnnfineebabaaaDoor
open Go.RowKit Go.Shelf Go.Proofs.Rowm

theorem comb_is {p : Nat} (h1 : 1 ≤ p) (h3 : p ≤ 3) {a b t : BitVec 64} (h : Foldm.cmb p a b = t) (w : World) : Calls Tryd.prog 48 #[.int .u8 p, K a, K b] w fun e w' => e = .returned (.tuple #[K t, .int .i64 0]) ∧ Below w.heap.size w w' := h ▸ combine_at p h1 h3 a b w

end Go.Proofs.YtjnnfineebabaaaDoor
