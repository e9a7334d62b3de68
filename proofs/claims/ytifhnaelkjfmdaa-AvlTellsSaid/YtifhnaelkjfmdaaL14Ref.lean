/- The document's own answers of layer 14: Tag, one, Check, May, Make, Least. -/
import Derived.Test.YtifhnaelkjfmdaaL14Tag
import Derived.Test.YtifhnaelkjfmdaaL9Steps
import Derived.Test.YtifhnaelkjfmdaaL9High
import Derived.Test.YtifhnaelkjfmdaaL9Stand
import Derived.IntWalk
namespace Go.Proofs.Ytifhnaelkjfmdaa
open Go.RowKit Go.Proofs.Treem
set_option maxRecDepth 100000

set_option maxHeartbeats 4000000 in
theorem refOne14 (tl tr : Tr) (k v g : BitVec 64) (A : Option Addr) (n c B : Nat) (l : List Bd) (hl : l.map strip = (Tr.n tl k v g tr).pre) (h5 : n ≤ 5000) (w : World) (hB : B ≤ w.heap.size) (h : LieB w B A n c l) :
    Calls Try.prog 82 #[.slice A n c] w fun e w' => e = .returned (nI (rootA (.n tl k v g tr))) ∧ Below w.heap.size w w' := by
  obtain ⟨i, hi⟩ : ∃ i, tl.size = i := ⟨_, rfl⟩
  obtain ⟨j, hj⟩ : ∃ j, tr.size = j := ⟨_, rfl⟩
  have hparts := Lib.hid (parts9_any A n c B l tl tr k v g hl w hB h h5)
  rw [hi, hj] at hparts
  have tA := Lib.hid fun A n c B l hl w h => refTag14 tl A n c B l hl w h
  have tB := Lib.hid fun A n c B l hl w h => refTag14 tr A n c B l hl w h
  have bG := g.isLt
  have bP := tl.tag.isLt
  have bQ := tr.tag.isLt
  have hans : rootA (.n tl k v g tr) = oneA g.toNat tl.tag.toNat tr.tag.toNat := rfl
  rw [hans]
  have hg : ∀ x, G64 x = .int .u64 (x.toNat : Int) := fun x => rfl
  obtain ⟨G, hG⟩ : ∃ G, g.toNat = G := ⟨_, rfl⟩
  obtain ⟨P, hP⟩ : ∃ P, tl.tag.toNat = P := ⟨_, rfl⟩
  obtain ⟨Q, hQ⟩ : ∃ Q, tr.tag.toNat = Q := ⟨_, rfl⟩
  rw [hg, hP] at tA
  rw [hg, hQ] at tB
  rw [hG] at bG
  rw [hP] at bP
  rw [hQ] at bQ
  have hgt : Hid (G64 g = .int .u64 (G : Int)) := hG ▸ hg g
  rw [hG, hP, hQ]
  obtain ⟨O, hO⟩ : ∃ O, oneA G P Q = O := ⟨_, rfl⟩
  rw [hO]
  have hcs := oneA_cases G P Q
  rw [hO] at hcs
  have hcs' := Lib.hid hcs
  have wr1 : 1 ≤ G → IntKind.u64.wrap ((G : Int) - 1) = (G : Int) - 1 := fun h => IntWalk.u64_in _ (by omega)
  clear hl h hi hj hans hg hG hP hQ hO hcs
  go_enter Try.func82, Try.ntmps82
  go_wp2_with fail
  refine hparts.out.mono ?_
  rintro e w1 ⟨A1, c1, A2, c2, b, la, lb, rfl, rfl, hx, hla, hlb, K1, K2, hb⟩
  clear hparts
  have b1 := Lib.hid hb
  have hla' := Lib.hid hla
  have hlb' := Lib.hid hlb
  have K1' := Lib.hid K1
  have K2' := Lib.hid K2
  have hbt : Hid (b.tag = g) := congrArg St.tag hx
  clear hb hx hla hlb K1 K2
  go_upto_region 2 with (fail)
  obtain ⟨W2, hW2⟩ : ∃ W2, w1.alloc (.cells #[K b.key, K b.val, K b.sum, K b.size, G64 b.tag, .bool b.left, .bool b.right] 44) = W2 := ⟨_, rfl⟩
  have gx : Hid (Has W2 w1.heap.size 44 #[K b.key, K b.val, K b.sum, K b.size, G64 b.tag, .bool b.left, .bool b.right]) := hW2 ▸ Has.new w1 _ _
  have b2 : Hid (Below w.heap.size w W2) := hW2 ▸ b1.out.alloc b1.out.size _
  rw [hW2]
  clear hW2 b1
  obtain ⟨p, hp⟩ : ∃ p, w1.heap.size = p := ⟨_, rfl⟩
  rw [hp] at gx ⊢
  clear hp
  rw [hbt.out, hgt.out] at gx
  obtain ⟨-, -, -, -, y4, -, -⟩ := gx.out.seven
  have c1 := Lib.hid (tA.out A1 i c1 B la hla'.out W2 (K1'.out.next (b2.out.mono hB)))
  have c2 := Lib.hid (tB.out A2 j c2 B lb hlb'.out W2 (K2'.out.next (b2.out.mono hB)))
  clear tA tB hla' hlb' K1' K2' hgt hbt gx
  have hO := hcs'.out
  clear hcs'
  rcases Nat.lt_or_ge P Q with hPQ | hPQ
  · rw [Nat.max_eq_right (Nat.le_of_lt hPQ), Nat.min_eq_left (Nat.le_of_lt hPQ)] at hO
    have wr2 : IntKind.u64.wrap ((Q : Int) - (P : Int)) = (Q : Int) - P := IntWalk.u64_in _ (by omega)
    by_cases hG : G = 0
    · subst hG
      obtain rfl : O = 140 := by omega
      clear hO wr1 wr2
      go_wp2_with (first
        | (go_at_call 38; (with_reducible refine c1.out.mono ?_); rintro e w' ⟨rfl, rfl⟩)
        | (go_at_call 38; (with_reducible refine c2.out.mono ?_); rintro e w' ⟨rfl, rfl⟩)
        | fail)
      all_goals first
        | (exfalso; omega)
        | (go_ret; exact ⟨rfl, b2.out⟩)
    · have wr3 := wr1 (by omega)
      clear wr1
      rcases hO with ⟨rfl, hO⟩ | ⟨rfl, hO, hO2⟩ | ⟨rfl, hO, hO2⟩
      · have d0 : ((G : Int) == 0) = false := by rw [beq_eq_false_iff_ne]; omega
        have d1 : (((G : Int) - 1) != (Q : Int)) = true := by rw [bne_iff_ne]; omega
        go_wp2_with (first
          | (go_at_call 38; (with_reducible refine c1.out.mono ?_); rintro e w' ⟨rfl, rfl⟩)
          | (go_at_call 38; (with_reducible refine c2.out.mono ?_); rintro e w' ⟨rfl, rfl⟩)
          | fail)
        all_goals first
          | (exfalso; omega)
          | (go_ret; exact ⟨rfl, b2.out⟩)
      · obtain rfl : G = Q + 1 := hO
        have e1 : ((Q + 1 : Nat) : Int) - 1 = (Q : Int) := by omega
        go_wp2_with (first
          | (go_at_call 38; (with_reducible refine c1.out.mono ?_); rintro e w' ⟨rfl, rfl⟩)
          | (go_at_call 38; (with_reducible refine c2.out.mono ?_); rintro e w' ⟨rfl, rfl⟩)
          | fail)
        all_goals first
          | (exfalso; omega)
          | (go_ret; exact ⟨rfl, b2.out⟩)
      · obtain rfl : G = Q + 1 := hO
        have e1 : ((Q + 1 : Nat) : Int) - 1 = (Q : Int) := by omega
        go_wp2_with (first
          | (go_at_call 38; (with_reducible refine c1.out.mono ?_); rintro e w' ⟨rfl, rfl⟩)
          | (go_at_call 38; (with_reducible refine c2.out.mono ?_); rintro e w' ⟨rfl, rfl⟩)
          | fail)
        all_goals first
          | (exfalso; omega)
          | (go_ret; exact ⟨rfl, b2.out⟩)
  · rw [Nat.max_eq_left hPQ, Nat.min_eq_right hPQ] at hO
    have wr2 : IntKind.u64.wrap ((P : Int) - (Q : Int)) = (P : Int) - Q := IntWalk.u64_in _ (by omega)
    by_cases hG : G = 0
    · subst hG
      obtain rfl : O = 140 := by omega
      clear hO wr1 wr2
      go_wp2_with (first
        | (go_at_call 38; (with_reducible refine c1.out.mono ?_); rintro e w' ⟨rfl, rfl⟩)
        | (go_at_call 38; (with_reducible refine c2.out.mono ?_); rintro e w' ⟨rfl, rfl⟩)
        | fail)
      all_goals first
        | (exfalso; omega)
        | (go_ret; exact ⟨rfl, b2.out⟩)
    · have wr3 := wr1 (by omega)
      clear wr1
      rcases hO with ⟨rfl, hO⟩ | ⟨rfl, hO, hO2⟩ | ⟨rfl, hO, hO2⟩
      · have d0 : ((G : Int) == 0) = false := by rw [beq_eq_false_iff_ne]; omega
        have d1 : (((G : Int) - 1) != (P : Int)) = true := by rw [bne_iff_ne]; omega
        go_wp2_with (first
          | (go_at_call 38; (with_reducible refine c1.out.mono ?_); rintro e w' ⟨rfl, rfl⟩)
          | (go_at_call 38; (with_reducible refine c2.out.mono ?_); rintro e w' ⟨rfl, rfl⟩)
          | fail)
        all_goals first
          | (exfalso; omega)
          | (go_ret; exact ⟨rfl, b2.out⟩)
      · obtain rfl : G = P + 1 := hO
        have e1 : ((P + 1 : Nat) : Int) - 1 = (P : Int) := by omega
        go_wp2_with (first
          | (go_at_call 38; (with_reducible refine c1.out.mono ?_); rintro e w' ⟨rfl, rfl⟩)
          | (go_at_call 38; (with_reducible refine c2.out.mono ?_); rintro e w' ⟨rfl, rfl⟩)
          | fail)
        all_goals first
          | (exfalso; omega)
          | (go_ret; exact ⟨rfl, b2.out⟩)
      · obtain rfl : G = P + 1 := hO
        have e1 : ((P + 1 : Nat) : Int) - 1 = (P : Int) := by omega
        go_wp2_with (first
          | (go_at_call 38; (with_reducible refine c1.out.mono ?_); rintro e w' ⟨rfl, rfl⟩)
          | (go_at_call 38; (with_reducible refine c2.out.mono ?_); rintro e w' ⟨rfl, rfl⟩)
          | fail)
        all_goals first
          | (exfalso; omega)
          | (go_ret; exact ⟨rfl, b2.out⟩)
end Go.Proofs.Ytifhnaelkjfmdaa
