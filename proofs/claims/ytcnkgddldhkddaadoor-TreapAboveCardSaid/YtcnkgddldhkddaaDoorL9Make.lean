/- Layer 9: the statements' own trees (Make). -/
import Derived.Test.YtcnkgddldhkddaaDoorL9Ok
namespace Go.Proofs.YtcnkgddldhkddaaDoor
open Go.RowKit Go.Proofs.Treem
variable {Nd : NdP}

set_option maxHeartbeats 8000000 in
theorem make9 (hN : NodeSays Nd) : ∀ (t : Tr) (A : Option Addr) (n c B : Nat) (l : List Bd), l.map strip = t.pre → t.size = n → n ≤ 5000 → ∀ w : World, B ≤ w.heap.size → LieB w B A n c l →
    Calls Tryd.prog 9 #[.slice A n c] w fun e w' => ∃ p, e = .returned (.pointer p) ∧ TreeAt Nd w' w'.heap.size t p ∧ Below w.heap.size w w' := by
  intro t
  induction t with
  | e =>
    intro A n c B l hl hn h5 w hB h
    obtain rfl : n = 0 := hn.symm
    go_enter Tryd.func9, Tryd.ntmps9
    go_wp2
    go_ret
    exact ⟨none, rfl, rfl, Below.refl _ _⟩
  | n tl k v g tr ihl ihr =>
    intro A n c B l hl hn h5 w hB h
    obtain ⟨i, hi⟩ : ∃ i, tl.size = i := ⟨_, rfl⟩
    obtain ⟨j, hj⟩ : ∃ j, tr.size = j := ⟨_, rfl⟩
    have hn2 : n = 1 + i + j := by rw [← hn, Tr.size, hi, hj]
    have hparts := Lib.hid (parts9_any A n c B l tl tr k v g hl w hB h h5)
    rw [hi, hj] at hparts
    have hL := Lib.hid (fun A c B la hla w hB h => ihl A i c B la hla hi (by omega) w hB h)
    have hR := Lib.hid (fun A c B la hla w hB h => ihr A j c B la hla hj (by omega) w hB h)
    have d1 : ((n : Int) == 0) = false := by simp; omega
    have hN' := Lib.hid hN
    clear h hl ihl ihr hi hj hn hn2 h5 hN
    go_enter Tryd.func9, Tryd.ntmps9
    go_wp2_with fail
    refine hparts.out.mono ?_
    rintro e w1 ⟨A1, c1, A2, c2, x, la, lb, rfl, rfl, hx, hla, hlb, K1, K2, hb⟩
    clear hparts
    simp only [strip, St.mk.injEq] at hx
    obtain ⟨rfl, rfl, rfl, -, -⟩ := hx
    have b1 := Lib.hid hb
    have hcL := Lib.hid (fun (W : World) (hW : Below w.heap.size w W) => hL.out A1 c1 B la hla W (Nat.le_trans hB hW.size) (K1.next (hW.mono hB)))
    have hcR := Lib.hid (fun (W : World) (hW : Below w.heap.size w W) => hR.out A2 c2 B lb hlb W (Nat.le_trans hB hW.size) (K2.next (hW.mono hB)))
    clear hb hla hlb K1 K2 hL hR hB
    have b2 : Hid (Below w.heap.size w (w1.alloc (.cells #[K x.key, K x.val, K x.sum, K x.size, G64 x.tag, .bool x.left, .bool x.right] 52))) := b1.out.alloc b1.out.size _
    have gx := Lib.hid (Has.new w1 52 #[K x.key, K x.val, K x.sum, K x.size, G64 x.tag, .bool x.left, .bool x.right])
    go_wp2_with fail
    obtain ⟨W2, hW2⟩ : ∃ W2, w1.alloc (.cells #[K x.key, K x.val, K x.sum, K x.size, G64 x.tag, .bool x.left, .bool x.right] 52) = W2 := ⟨_, rfl⟩
    rw [hW2] at b2 gx ⊢
    obtain ⟨p, hp⟩ : ∃ p, w1.heap.size = p := ⟨_, rfl⟩
    rw [hp] at gx ⊢
    clear hW2 hp b1
    obtain ⟨y0, y1, y2, y3, y4, y5, y6⟩ := gx.out.seven
    go_region_law (first
      | (go_simp; go_at_call 9; refine (hcL.out _ b2.out.drew).mono ?_
         rintro e w5 ⟨p5, rfl, ht5, hb5⟩
         have t5 := Lib.hid ht5
         have b5 := Lib.hid (Below.after b2.out.drew hb5)
         have g5 := Lib.hid (Has.next (w := W2.drew) gx.out hb5)
         obtain ⟨x0, x1, x2, x3, x4, x5, x6⟩ := g5.out.seven
         clear hb5 ht5 hcL)
      | (go_simp; go_at_call 9; refine (hcR.out _ b5.out).mono ?_
         rintro e w6 ⟨p6, rfl, ht6, hb6⟩
         have t6 := Lib.hid ht6
         have u6 : Hid (TreeAt Nd w6 w6.heap.size tl p5) := t5.out.after hN'.out hb6
         have b6 := Lib.hid (Below.after b5.out hb6)
         have g6 := Lib.hid (Has.next g5.out hb6)
         obtain ⟨z0, z1, z2, z3, z4, z5, z6⟩ := g6.out.seven
         clear hb6 ht6 hcR)
      | (go_simp; go_at_call 19; refine (hN'.out.new w6 _ p5 p6 x.key x.val x.tag _ _ _ _ (Nat.le_refl _) u6.out.look t6.out.look).mono ?_
         intro e w7 h7
         obtain ⟨a, rfl, _, _, ht7, hb7⟩ := TreeAt.born hN'.out (Nat.le_refl _) u6.out t6.out h7
         have t7 := Lib.hid ht7
         have b7 := Lib.hid (Below.after b6.out hb7)
         clear h7 ht7 hb7)
      | fail)
    all_goals
      go_wp2
      go_ret
      exact ⟨_, rfl, t7.out, b7.out⟩
end Go.Proofs.YtcnkgddldhkddaaDoor
