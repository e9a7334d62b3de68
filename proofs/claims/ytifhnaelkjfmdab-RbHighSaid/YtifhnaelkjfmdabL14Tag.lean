/- The document's own answer for a tree's tag (layer 14's Tag, which layers 16 and on ask, too); uint64 and int. -/
import Derived.Test.YtifhnaelkjfmdabL14Math
import Derived.Test.YtifhnaelkjfmdabL9Steps
import Derived.Test.YtifhnaelkjfmdabL9High
import Derived.Test.YtifhnaelkjfmdabL9Stand
import Derived.IntWalk
namespace Go.Proofs.Ytifhnaelkjfmdab
open Go.RowKit Go.Proofs.Treem
set_option maxRecDepth 100000

theorem refTag14 (t : Tr) (A : Option Addr) (n c B : Nat) (l : List Bd) (hl : l.map strip = t.pre) (w : World) (h : LieB w B A n c l) :
    Calls Try.prog 64 #[.slice A n c] w fun e w' => e = .returned (G64 t.tag) ∧ w = w' := by
  cases t with
  | e =>
    obtain rfl : l = [] := by simpa [Tr.pre] using hl
    obtain rfl : n = 0 := h.len.symm
    go_enter Try.func64, Try.ntmps64
    go_wp2
    go_ret
    exact ⟨rfl, rfl⟩
  | n tl k v g tr =>
    obtain ⟨x, la, lb, rfl, hx, -, -, -, -⟩ := parts_of hl
    have hn : n = 1 + (la ++ lb).length := by have := h.len; simp only [List.length_cons] at this; omega
    obtain ⟨ad, rfl, hadB, g0, g1, g2, g3, g4, g5, g6⟩ := bead_at h 0 (by simp)
    have e0 : ad.add (0 * 7) = ad := by simp [Addr.add]
    rw [e0] at g4
    simp only [List.getElem_cons_zero] at g4
    have hg : x.tag = g := congrArg St.tag hx
    rw [hg] at g4
    have d1 : ((n : Int) == 0) = false := by simp; omega
    have d2 : 0 < n := by omega
    clear hl hx hg h g0 g1 g2 g3 g5 g6 hn e0
    go_enter Try.func64, Try.ntmps64
    go_wp2
    go_ret
    exact ⟨rfl, rfl⟩
theorem i_of_u (b : BitVec 64) : IntKind.i64.wrap (b.toNat : Int) = b.toInt := by
  have h1 := b.isLt
  rw [BitVec.toInt_eq_toNat_cond]
  simp [IntKind.wrap, IntKind.bits, IntKind.signed]
  by_cases h : b.toNat < 9223372036854775808
  · rw [if_neg (by omega), if_pos (by omega)]; omega
  · rw [if_pos (by omega), if_neg (by omega)]; omega
theorem u_sub (p q : BitVec 64) : IntKind.u64.wrap ((p.toNat : Int) - (q.toNat : Int)) = ((p - q).toNat : Int) := by
  have := p.isLt; have := q.isLt
  rw [IntKind.wrap_u64, BitVec.toNat_sub]; omega
/-- one more than a tag -/
theorem tag_up (m : Nat) : IntKind.u64.wrap ((m : Int) + 1) = ((BitVec.ofNat 64 (m + 1)).toNat : Int) := by
  rw [BitVec.toNat_ofNat, IntKind.wrap_u64]
  omega
end Go.Proofs.Ytifhnaelkjfmdab
