/- Layer 8: the steps of the statements over draws, at whatever world; the chapter's example (alive). -/
import Derived.Test.YtmjlabnjgdiakaaDoorL8Same
namespace Go.Proofs.YtmjlabnjgdiakaaDoor
open Go.RowKit Go.Proofs.Mixm
variable {Dr : DrP}

theorem steps_at {w W : World} {B : Nat} (h0 : 0 < B) (hs : Steps w) (hb : Below B w W) : Steps W := hs.below h0 hb
/-- Next, of draws that lie behind a base -/
theorem draw_next (hD : DrawSays Dr) {w W : World} {B : Nat} {S : Nat → Prop} {a : Addr} {l : List (BitVec 64)} (k : BitVec 64) (h0 : 0 < B) (hBw : B ≤ w.heap.size) (hs : Steps w) (hb : Below B w W) (hS : ∀ i, S i → B ≤ i) (hl : l.length ≤ 3000) (h : Dr W S a l) :
    Calls Tryd.prog 9 #[.pointer (some a), K k] W fun e w' => ∃ S', e = .returned (V (Drawm.out k l)) ∧ (∀ i, S' i → B ≤ i) ∧ Dr w' S' a l.tail ∧ Below B w w' := by
  have hBW : B ≤ W.heap.size := Nat.le_trans hBw hb.size
  refine (hD.next W S a k l (Nat.lt_of_lt_of_le h0 hBW) (steps_at h0 hs hb) (fun e => absurd (hS _ e) (by omega)) hl h).mono ?_
  rintro e w' ⟨S', he, hS', hd, hbut⟩
  exact ⟨S', he, fun i hi => (hS' i hi).elim (hS i) (fun h2 => Nat.le_trans hBW h2), hd, hb.trans (hbut.below hBW hS)⟩
theorem draw_left (hD : DrawSays Dr) {w W : World} {B : Nat} {S : Nat → Prop} {a : Addr} {l : List (BitVec 64)} (hBw : B ≤ w.heap.size) (hb : Below B w W) (hl : l.length ≤ 3000) (h : Dr W S a l) :
    Calls Tryd.prog 11 #[.pointer (some a)] W fun e w' => e = .returned (.int .i64 (l.length : Int)) ∧ Dr w' S a l ∧ Below B w w' := by
  refine (hD.left W S a l hl h).mono ?_
  rintro e w' ⟨he, h2⟩
  exact ⟨he, hD.keep h (fun i hi => h2.block i (hD.lt h i hi)), hb.trans (h2.mono (Nat.le_trans hBw hb.size))⟩
theorem of_key (k : BitVec 64) {w W : World} {B : Nat} (h0 : 0 < B) (hBw : B ≤ w.heap.size) (hs : Steps w) (hb : Below B w W) :
    Calls Tryd.prog 16 #[K k] W fun e w' => e = .returned (V (Drawm.own k)) ∧ Below W.heap.size W w' :=
  of_any k.toInt (k + 0x9e3779b97f4a7c15#64) (by rw [gold, BitVec.ofInt_toInt]) W (Nat.lt_of_lt_of_le h0 (Nat.le_trans hBw hb.size)) (steps_at h0 hs hb)

theorem v5 : V 5#64 = .int .u64 5 := rfl
theorem v6 : V 6#64 = .int .u64 6 := rfl
theorem k0 : K 0#64 = .int .i64 0 := rfl
theorem k1 : K 1#64 = .int .i64 1 := rfl
set_option maxHeartbeats 4000000 in
theorem alive8_any (hD : DrawSays Dr) (w : World) (h0 : 0 < w.heap.size) (hs : Steps w) : Calls Tryd.prog 5 #[] w fun e w' => e = .returned (.bool true) ∧ Below w.heap.size w w' := by
  have hD' := Lib.hid hD
  have hs' := Lib.hid hs
  have b0 := Lib.hid ((Below.refl w.heap.size w).alloc (Nat.le_refl _) (.cells #[.int .u64 5, .int .u64 6] 30))
  have hlie : Hid (LieU (w.alloc (.cells #[.int .u64 5, .int .u64 6] 30)) (w.alloc (.cells #[.int .u64 5, .int .u64 6] 30)).heap.size (some ⟨w.heap.size, 0, none⟩) 2 2 ([5#64, 6#64].map V)) :=
    ⟨rfl, by decide, by decide, by decide, (fun e => by cases e), (Has.new w 30 #[.int .u64 5, .int .u64 6]).row⟩
  clear hD hs
  go_enter Tryd.func5, Tryd.ntmps5
  go_wp2_with fail
  refine (hD'.out.new _ _ _ _ _ hlie.out).mono ?_
  rintro e w1 ⟨a, S1, rfl, hS, ha, hd, hb⟩
  have d1 := Lib.hid hd
  have s1 : Hid (∀ i, S1 i → w.heap.size ≤ i) := fun i hi => Nat.le_trans b0.out.size (hS i hi)
  have b1 := Lib.hid (b0.out.trans (hb.mono b0.out.size))
  clear hS ha hd hb
  go_wp2_with fail
  refine (draw_next hD'.out 1#64 h0 (Nat.le_refl _) hs'.out b1.out s1.out (by decide) d1.out).mono ?_
  rintro e w2 ⟨S2, rfl, hS, hd, hb⟩
  have d2 : Hid (Dr w2 S2 a [6#64]) := hd
  have s2 := Lib.hid hS
  have b2 := Lib.hid hb
  clear hS hd hb d1 s1 b1
  go_wp2_with fail
  refine (draw_left hD'.out (Nat.le_refl _) b2.out (by decide) d2.out).mono ?_
  rintro e w3 ⟨rfl, hd, hb⟩
  have d3 := Lib.hid hd
  have b3 := Lib.hid hb
  clear hd hb d2 b2
  go_wp2_with fail
  refine (draw_next hD'.out 1#64 h0 (Nat.le_refl _) hs'.out b3.out s2.out (by decide) d3.out).mono ?_
  rintro e w4 ⟨S4, rfl, hS, hd, hb⟩
  have d4 : Hid (Dr w4 S4 a []) := hd
  have s4 := Lib.hid hS
  have b4 := Lib.hid hb
  clear hS hd hb d3 s2 b3
  go_wp2_with fail
  refine (draw_next hD'.out 0#64 h0 (Nat.le_refl _) hs'.out b4.out s4.out (by decide) d4.out).mono ?_
  rintro e w5 ⟨S5, rfl, hS, hd, hb⟩
  have d5 : Hid (Dr w5 S5 a []) := hd
  have s5 := Lib.hid hS
  have b5 := Lib.hid hb
  clear hS hd hb d4 s4 b4
  go_wp2_with fail
  refine (draw_next hD'.out 0#64 h0 (Nat.le_refl _) hs'.out b5.out s5.out (by decide) d5.out).mono ?_
  rintro e w6 ⟨S6, rfl, hS, hd, hb⟩
  have b6 := Lib.hid hb
  clear hS hd hb d5 s5 b5
  obtain ⟨z, hz⟩ : ∃ z, Drawm.own 0#64 = z := ⟨_, rfl⟩
  have e1 : Drawm.out 0#64 [] = z := hz
  have e2 : Drawm.out 1#64 [5#64, 6#64] = 5#64 := rfl
  have e3 : Drawm.out 1#64 [6#64] = 6#64 := rfl
  rw [e1, e2, e3]
  have cO := Lib.hid (of_key 0#64 h0 (Nat.le_refl _) hs'.out b6.out)
  rw [hz, k0] at cO
  clear hz e1 e2 e3
  go_wp2_with fail
  refine cO.out.mono ?_
  rintro e w7 ⟨rfl, hb⟩
  have b7 := Lib.hid (b6.out.trans (hb.mono b6.out.size))
  clear hb cO
  go_wp2
  go_ret
  exact ⟨rfl, b7.out⟩
end Go.Proofs.YtmjlabnjgdiakaaDoor
