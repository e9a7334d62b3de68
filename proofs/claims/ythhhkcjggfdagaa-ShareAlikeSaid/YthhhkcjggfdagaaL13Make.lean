/- Layer 13: the statements' own trees (layer 9's Make), each node at a place of its own. -/
import Derived.Test.YthhhkcjggfdagaaL13Says
namespace Go.Proofs.Ythhhkcjggfdagaa
open Go.RowKit Go.Proofs.Treem
set_option maxRecDepth 100000
variable {Nd : NdP}

/-- a tree that was made since, each node at a place of its own -/
def Grown13 (Nd : NdP) (t : Tr) (w : World) (e : Ending) (w' : World) : Prop := ∃ T : AT, e = .returned (.pointer T.ptr) ∧ T.tr = t ∧ Stand Nd w' T ∧ (∀ a ∈ T.addrs, w.heap.size ≤ a.block) ∧ T.addrs.Nodup ∧ Below w.heap.size w w'
set_option maxHeartbeats 8000000 in
theorem make13 (hN : NodeSays Nd) : ∀ (t : Tr) (A : Option Addr) (n c B : Nat) (l : List Bd), l.map strip = t.pre → t.size = n → n ≤ 5000 → ∀ w : World, B ≤ w.heap.size → LieB w B A n c l →
    Calls Try.prog 7 #[.slice A n c] w (Grown13 Nd t w) := by
  intro t
  induction t with
  | e =>
    intro A n c B l hl hn h5 w hB h
    obtain rfl : n = 0 := hn.symm
    go_enter Try.func7, Try.ntmps7
    go_wp2
    go_ret
    exact ⟨.e, rfl, rfl, Stand.none_ _, (fun a h => by cases h), List.nodup_nil, Below.refl _ _⟩
  | n tl k v g tr ihl ihr =>
    intro A n c B l hl hn h5 w hB h
    obtain ⟨i, hi⟩ : ∃ i, tl.size = i := ⟨_, rfl⟩
    obtain ⟨j, hj⟩ : ∃ j, tr.size = j := ⟨_, rfl⟩
    have hn2 : n = 1 + i + j := by rw [← hn, Tr.size, hi, hj]
    have hparts := Lib.hid (parts9_any A n c B l tl tr k v g hl w hB h h5)
    rw [hi, hj] at hparts
    have hL := Lib.hid (fun A c B la hla w hB h => ihl A i c B la hla hi (by omega) w hB h)
    have hR := Lib.hid (fun A c B la hla w hB h => ihr A j c B la hla hj (by omega) w hB h)
    have d1 : ((n : Int) == 0) = false := by simp; omega
    have hN' := Lib.hid hN
    clear h hl ihl ihr hi hj hn hn2 h5 hN
    go_enter Try.func7, Try.ntmps7
    go_wp2_with fail
    refine hparts.out.mono ?_
    rintro e w1 ⟨A1, c1, A2, c2, x, la, lb, rfl, rfl, hx, hla, hlb, K1, K2, hb⟩
    clear hparts
    simp only [strip, St.mk.injEq] at hx
    obtain ⟨rfl, rfl, rfl, -, -⟩ := hx
    have b1 := Lib.hid hb
    have hcL := Lib.hid (fun (W : World) (hW : Below w.heap.size w W) => hL.out A1 c1 B la hla W (Nat.le_trans hB hW.size) (K1.next (hW.mono hB)))
    have hcR := Lib.hid (fun (W : World) (hW : Below w.heap.size w W) => hR.out A2 c2 B lb hlb W (Nat.le_trans hB hW.size) (K2.next (hW.mono hB)))
    clear hb hla hlb K1 K2 hL hR hB
    have b2 : Hid (Below w.heap.size w (w1.alloc (.cells #[K x.key, K x.val, K x.sum, K x.size, G64 x.tag, .bool x.left, .bool x.right] 41))) := b1.out.alloc b1.out.size _
    have gx := Lib.hid (Has.new w1 41 #[K x.key, K x.val, K x.sum, K x.size, G64 x.tag, .bool x.left, .bool x.right])
    go_wp2_with fail
    obtain ⟨W2, hW2⟩ : ∃ W2, w1.alloc (.cells #[K x.key, K x.val, K x.sum, K x.size, G64 x.tag, .bool x.left, .bool x.right] 41) = W2 := ⟨_, rfl⟩
    rw [hW2] at b2 gx ⊢
    obtain ⟨p, hp⟩ : ∃ p, w1.heap.size = p := ⟨_, rfl⟩
    rw [hp] at gx ⊢
    clear hW2 hp b1
    obtain ⟨y0, y1, y2, y3, y4, y5, y6⟩ := gx.out.seven
    go_region_law (first
      | (go_simp; go_at_call 7; refine (hcL.out _ b2.out.drew).mono ?_
         rintro e w5 ⟨T5, rfl, rt5, ht5, ha5, hn5, hb5⟩
         have t5 := Lib.hid ht5
         have r5 := Lib.hid rt5
         have n5 := Lib.hid hn5
         have f5 : Hid (∀ a ∈ T5.addrs, w.heap.size ≤ a.block ∧ a.block < w5.heap.size) := fun a h => ⟨Nat.le_trans b2.out.size (ha5 a h), ht5.lt hN'.out a h⟩
         have b5 := Lib.hid (Below.after b2.out.drew hb5)
         have g5 := Lib.hid (Has.next (w := W2.drew) gx.out hb5)
         obtain ⟨x0, x1, x2, x3, x4, x5, x6⟩ := g5.out.seven
         clear hb5 ht5 rt5 ha5 hn5 hcL)
      | (go_simp; go_at_call 7; refine (hcR.out _ b5.out).mono ?_
         rintro e w6 ⟨T6, rfl, rt6, ht6, ha6, hn6, hb6⟩
         have t6 := Lib.hid ht6
         have r6 := Lib.hid rt6
         have n6 := Lib.hid hn6
         have f6 : Hid (∀ a ∈ T6.addrs, w5.heap.size ≤ a.block ∧ a.block < w6.heap.size) := fun a h => ⟨ha6 a h, ht6.lt hN'.out a h⟩
         have u6 : Hid (Stand Nd w6 T5) := t5.out.after hN'.out hb6
         have s56 : Hid (w5.heap.size ≤ w6.heap.size) := hb6.size
         have b6 := Lib.hid (Below.after b5.out hb6)
         have g6 := Lib.hid (Has.next g5.out hb6)
         obtain ⟨z0, z1, z2, z3, z4, z5, z6⟩ := g6.out.seven
         clear hb6 ht6 rt6 ha6 hn6 hcR)
      | (go_simp; go_at_call 15; refine (new13 hN'.out w6 T5 T6 x.key x.val x.tag u6.out t6.out).mono ?_
         rintro e w7 ⟨a, y, rfl, hk7, ht7, ha7, hb7⟩
         have k7 := Lib.hid hk7
         have t7 := Lib.hid ht7
         have a7 := Lib.hid ha7
         have b7 := Lib.hid (Below.after b6.out hb7)
         clear ht7 ha7 hb7 hk7)
      | fail)
    all_goals
      go_wp2
      go_ret
      refine ⟨.n a y T5 T6, rfl, ?_, t7.out, ?_, ?_, b7.out⟩
      · obtain ⟨e1, e2, e3⟩ := k7.out
        rw [AT.tr, r5.out, r6.out, e1, e2, e3]
      · intro b hb
        rcases AT.mem_n.1 hb with rfl | hb | hb
        · have := a7.out; have := b6.out.size; omega
        · exact (f5.out b hb).1
        · have := (f6.out b hb).1; have := b5.out.size; omega
      · rw [AT.addrs, List.nodup_append, List.nodup_cons]
        refine ⟨n5.out, ⟨fun h => ?_, n6.out⟩, ?_⟩
        · have := (f6.out a h).2; have := a7.out; omega
        · intro b hb d hd e
          subst e
          have h5 := (f5.out b hb).2
          rcases List.mem_cons.1 hd with rfl | hd
          · have := a7.out; have := s56.out; omega
          · have := (f6.out b hd).1; omega
end Go.Proofs.Ythhhkcjggfdagaa
