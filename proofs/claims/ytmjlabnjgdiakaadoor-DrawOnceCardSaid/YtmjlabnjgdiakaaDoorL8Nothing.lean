/- Layer 8: what no draws answer (nothing). -/
import Derived.Test.YtmjlabnjgdiakaaDoorL8Steps
import Derived.Deep.RegionHeld3
namespace Go.Proofs.YtmjlabnjgdiakaaDoor
open Go.RowKit Go.Proofs.Mixm
variable {Dr : DrP}

theorem held_next {w x y : World} {ad : Addr} {u : Value} (h : x.cell? ad = some u ∧ Below w.heap.size w x) (hb : Below x.heap.size x y) : y.cell? ad = some u ∧ Below w.heap.size w y := ⟨keep_cell hb h.1, Below.after h.2 hb⟩
set_option maxHeartbeats 8000000 in
theorem nothing8_any (hD : DrawSays Dr) (key : BitVec 64) (w : World) (h0 : 0 < w.heap.size) (hs : Steps w) : Calls Tryd.prog 15 #[K key] w fun e w' => e = .returned (.bool true) ∧ Below w.heap.size w w' := by
  have hD' := Lib.hid hD
  have hs' := Lib.hid hs
  have b0 := Lib.hid ((Below.refl w.heap.size w).alloc (Nat.le_refl _) (.cells #[K key, K key] 2))
  have hlie : Hid (LieU (w.alloc (.cells #[K key, K key] 2)) (w.alloc (.cells #[K key, K key] 2)).heap.size (some ⟨w.heap.size, 0, none⟩) 2 2 ([key, key].map K)) :=
    ⟨rfl, by decide, by decide, by decide, (fun e => by cases e), (Has.new w 2 #[K key, K key]).row⟩
  clear hD hs
  go_enter Tryd.func15, Tryd.ntmps15
  go_wp2_with fail
  refine (hD'.out.many0 _ _ _ _ _ (Nat.lt_of_lt_of_le h0 b0.out.size) (steps_at h0 hs'.out b0.out) hlie.out).mono ?_
  rintro e w2 ⟨v, rfl, ho, hb⟩
  obtain ⟨z, hz⟩ : ∃ z, Drawm.own key = z := ⟨_, rfl⟩
  have ho2 : w2.ownsRow (w.alloc (.cells #[K key, K key] 2)).heap.size 30 1 v 2 [V z, V z] := by rw [← hz]; exact ho
  obtain ⟨A, c, rfl, k1, k2, k3⟩ := own_slice ho2
  obtain ⟨ad, rfl, hlt, g0⟩ := (Row.of_own ho2) 0 (V z) rfl
  rw [show ad.add 0 = ad by simp [Addr.add]] at g0
  have b2 := Lib.hid (b0.out.trans (hb.mono b0.out.size))
  clear ho ho2 hb hlt hlie
  have cN : Hid (∀ W, Below w.heap.size w W → Calls Tryd.prog 9 #[.pointer none, K key] W fun e w' => e = .returned (V z) ∧ Below W.heap.size W w') := fun W hW => hz ▸ hD'.out.next0 W key (Nat.lt_of_lt_of_le h0 hW.size) (steps_at h0 hs'.out hW)
  have cO : Hid (∀ W, Below w.heap.size w W → Calls Tryd.prog 16 #[K key] W fun e w' => e = .returned (V z) ∧ Below W.heap.size W w') := fun W hW => hz ▸ of_key key h0 (Nat.le_refl _) hs'.out hW
  have k2' : (1 : Nat) ≤ c := by omega
  clear hz k1 k2 k3
  go_wp2_with fail
  go_region_held3 (fun x => x.cell? ad = some (V z) ∧ Below w.heap.size w x) (first | exact ⟨g0, b2.out.drew⟩ | assumption)
    (first
    | (go_at_call 9; refine (cN.out _ (And.right (by assumption))).mono ?_; rintro e w' ⟨rfl, hb⟩; have hS' := held_next (w := w) (by assumption) hb; clear hb)
    | (go_at_call 16; refine (cO.out _ (And.right (by assumption))).mono ?_; rintro e w' ⟨rfl, hb⟩; have hS' := held_next (w := w) (by assumption) hb; clear hb)
    | (go_at_call 11; refine (hD'.out.left0 _).mono ?_; rintro e w' ⟨rfl, hb⟩; have hS' := held_next (w := w) (by assumption) hb; clear hb)
    | (go_at_call 12; refine (hD'.out.copy0 _).mono ?_; rintro e w' ⟨rfl, hb⟩; have hS' := held_next (w := w) (by assumption) hb; clear hb))
  all_goals
    go_wp2
    go_ret
    exact ⟨rfl, And.right (by assumption)⟩
end Go.Proofs.YtmjlabnjgdiakaaDoor
