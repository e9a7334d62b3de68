/- Two more statements of layer 2, walked: OrderRows and OrderMeans. -/
import Derived.Test.YtmiponffkhbniaaDoorL2Walks
namespace Go.Proofs.YtmiponffkhbniaaDoor
open Go.RowKit Go.Proofs.Mixm

/-! ### OrderRows -/
/-- how three keys stand, two by two, as far as OrderRows asks -/
theorem rows_cases (m : Nat) (a b c : BitVec 64) : ∃ (x x' y z : Int) (t : Bool), Ordm.stand m a b = x ∧ Ordm.stand m b a = x' ∧ Ordm.stand m b c = y ∧ Ordm.stand m a c = z ∧ (a.toInt == b.toInt) = t ∧
    ((x = -1 ∧ x' = 1 ∧ t = false ∧ y = -1 ∧ z = -1) ∨ (x = -1 ∧ x' = 1 ∧ t = false ∧ y = 0 ∧ z = -1) ∨ (x = -1 ∧ x' = 1 ∧ t = false ∧ y = 1) ∨ (x = 0 ∧ x' = 0 ∧ t = true ∧ y = -1 ∧ z = -1) ∨ (x = 0 ∧ x' = 0 ∧ t = true ∧ y = 0 ∧ z = 0) ∨ (x = 0 ∧ x' = 0 ∧ t = true ∧ y = 1) ∨ (x = 1 ∧ x' = -1 ∧ t = false)) := by
  refine ⟨_, _, _, _, _, rfl, rfl, rfl, rfl, rfl, ?_⟩
  rw [toInt_beq]
  simp only [show (a = b) = (Ordm.code m a = Ordm.code m b) from propext (Ordm.code_inj m a b).symm]
  unfold Ordm.stand
  generalize Ordm.code m a = X
  generalize Ordm.code m b = Y
  generalize Ordm.code m c = Z
  rcases Ordm.cmp_cases X Y with ⟨h, e⟩ | ⟨h, e⟩ | ⟨h, e⟩
  · have ne : X ≠ Y := fun e' => by subst e'; omega
    rcases Ordm.cmp_cases Y Z with ⟨h', e'⟩ | ⟨h', e'⟩ | ⟨h', e'⟩
    · exact .inl ⟨e, Ordm.cmp_gt h, decide_eq_false ne, e', Ordm.cmp_lt (by omega)⟩
    · exact .inr (.inr (.inl ⟨e, Ordm.cmp_gt h, decide_eq_false ne, e'⟩))
    · exact .inr (.inl ⟨e, Ordm.cmp_gt h, decide_eq_false ne, e', by rw [← h']; exact e⟩)
  · have ne : X ≠ Y := fun e' => by subst e'; omega
    exact .inr (.inr (.inr (.inr (.inr (.inr ⟨e, Ordm.cmp_lt h, decide_eq_false ne⟩)))))
  · subst h
    rcases Ordm.cmp_cases X Z with ⟨h', e'⟩ | ⟨h', e'⟩ | ⟨h', e'⟩
    · exact .inr (.inr (.inr (.inl ⟨e, e, decide_eq_true rfl, e', e'⟩)))
    · exact .inr (.inr (.inr (.inr (.inr (.inl ⟨e, e, decide_eq_true rfl, e'⟩)))))
    · exact .inr (.inr (.inr (.inr (.inl ⟨e, e, decide_eq_true rfl, e', e'⟩))))

/-- Compare, where it is known how both stand -/
theorem compare_is {m : Nat} (h1 : 1 ≤ m) (h7 : m ≤ 7) {a b : BitVec 64} {x : Int} (hx : Ordm.stand m a b = x) (w : World) (h0 : 1 < w.heap.size) (hs : Steps w) : Calls Tryd.prog 10 #[.int .u8 m, K a, K b] w fun e w' => e = .returned (.int .i64 x) ∧ Below w.heap.size w w' :=
  hx ▸ compare_at m h1 h7 a b w h0 hs

set_option maxRecDepth 100000 in
set_option maxHeartbeats 2000000 in
theorem rows_walk (o : Nat) (a b c : BitVec 64) (w : World) (h0 : 1 < w.heap.size) (hs : Steps w) (hn : Names w) : Calls Tryd.prog 5 #[.int .u8 o, K a, K b, K c] w fun e w' => e = .returned (.bool true) ∧ Below w.heap.size w w' := by
  have k0 := Lib.hid (KeepsO.start h0 hs hn)
  clear h0 hs hn
  obtain ⟨m, hm, h1, h7⟩ : ∃ m : Nat, (1 + (o : Int) % 7) = (m : Int) ∧ 1 ≤ m ∧ m ≤ 7 := ⟨1 + o % 7, by omega, by omega, by omega⟩
  obtain ⟨x, x', y, z, t, hx, hx', hy, hz, hab, hcs⟩ := rows_cases m a b c
  have gx := Lib.hid hx
  have gx' := Lib.hid hx'
  have gy := Lib.hid hy
  have gz := Lib.hid hz
  clear hx hx' hy hz
  rcases hcs with ⟨rfl, rfl, rfl, rfl, rfl⟩ | ⟨rfl, rfl, rfl, rfl, rfl⟩ | ⟨rfl, rfl, rfl, rfl⟩ | ⟨rfl, rfl, rfl, rfl, rfl⟩ | ⟨rfl, rfl, rfl, rfl, rfl⟩ | ⟨rfl, rfl, rfl, rfl⟩ | ⟨rfl, rfl, rfl⟩
  all_goals
    go_enter Tryd.func5, Tryd.ntmps5
    go_wp2_with fail
    refine (compare_is h1 h7 gx.out _ k0.out.some k0.out.steps).mono ?_
    rintro e w1 ⟨rfl, hb⟩
    have k1 := Lib.hid (k0.out.next hb)
    clear hb
    go_wp2_with fail
    refine (compare_is h1 h7 gy.out _ k1.out.some k1.out.steps).mono ?_
    rintro e w2 ⟨rfl, hb⟩
    have k2 := Lib.hid (k1.out.next hb)
    clear hb k1
    go_wp2_with fail
    refine (compare_is h1 h7 gz.out _ k2.out.some k2.out.steps).mono ?_
    rintro e w3 ⟨rfl, hb⟩
    have k3 := Lib.hid (k2.out.next hb)
    clear hb k2
    go_wp2_with fail
    refine (compare_is h1 h7 gx'.out _ k3.out.some k3.out.steps).mono ?_
    rintro e w4 ⟨rfl, hb⟩
    have k4 := Lib.hid (k3.out.next hb)
    clear hb k3
    go_wp2_with fail
    refine (alive2_any _ k4.out.some k4.out.steps k4.out.names).mono ?_
    rintro e w5 ⟨rfl, hb⟩
    have k5 := Lib.hid (k4.out.next hb)
    clear hb k4
    go_wp2
    go_ret
    exact ⟨rfl, k5.out.below⟩

end Go.Proofs.YtmiponffkhbniaaDoor
