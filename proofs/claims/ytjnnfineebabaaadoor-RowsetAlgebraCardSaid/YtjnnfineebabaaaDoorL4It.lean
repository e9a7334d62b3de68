/- The iterators of package row: neighbours, and values. -/
import Derived.Test.YtjnnfineebabaaaDoorL4RefC
import Derived.Test.YtjnnfineebabaaaDoorL1Fwd
namespace Go.Proofs.YtjnnfineebabaaaDoor
open Go.RowKit Go.Shelf Go.Proofs.Rowm
attribute [local go_sem] Oper.semAt_some

/-- neighbours, two by two -/
def nb (l : List Pr) : List (Pr × Pr) := l.zip l.tail
theorem nb_len (l : List Pr) : (nb l).length = l.length - 1 := by simp [nb]
theorem nb_take (l : List Pr) (k : Nat) (h : k + 1 < l.length) : (nb l).take (k + 1) = (nb l).take k ++ [(l[k], l[k + 1])] := by
  rw [List.take_succ_eq_append_getElem (by rw [nb_len]; omega)]
  simp [nb]
abbrev encN (x : Pr × Pr) : Array Value := #[pV x.1, pV x.2]
abbrev encV (x : BitVec 64) : Array Value := #[K x]
theorem grown_drew (W : World) : W.grownBy W.drew none := ⟨rfl, rfl, rfl, Nat.le_refl _, fun _ _ _ => rfl⟩

set_option maxHeartbeats 400000 in
theorem neighbours_any (A : Option Addr) (n c : Nat) (w : World) : Calls Tryd.prog 45 #[.slice A n c] w fun e w' => e = .returned (.func (.func 58) #[] #[.pointer (some ⟨w.heap.size, 0, none⟩)]) ∧ w.alloc (.cells #[.slice A n c] 22) = w' := by
  go_enter Tryd.func45, Tryd.ntmps45
  go_wp2
  go_ret
  exact ⟨rfl, rfl⟩
/-- what a round of the iterator has said: go on, or no more -/
def Told (J Jx : World → Prop) (n₀ : Nat) (W : World) (b : Bool) (W' : World) : Prop := (b = true ∧ J W' ∧ Below n₀ W W') ∨ (b = false ∧ Jx W')

set_option maxRecDepth 100000 in
set_option maxHeartbeats 400000 in
theorem neighbours_stops (n : Nat) (hn : 1 ≤ n) (n₀ Bx : Nat) (A : Option Addr) (m c : Nat) (l : List Pr) (hl : l.length = m) (hm : m ≤ 1000) (w : World) (hn₀ : n₀ ≤ w.heap.size) (hBx : Bx < n₀)
    (hcB : w.cell? ⟨Bx, 0, none⟩ = some (.slice A m c)) (hrow : Row w n₀ A (flat l)) :
    SeqStopsK Fence.wide n Tryd.prog 58 #[.pointer (some ⟨Bx, 0, none⟩)] encN (Below n₀) (fun ys => ys = nb l) (fun pre => pre <+: nb l) 1000 w := fun L J Jx W hW hJa _ hY hJ0 => by
  have hcW : W.cell? ⟨Bx, 0, none⟩ = some (.slice A m c) := (hW.cell (p := ⟨Bx, 0, none⟩) (by show Bx < _; omega)).trans hcB
  have hrW := Lib.hid (hrow.below (hW.mono hn₀))
  have hl' := Lib.hid hl
  have hJa' := Lib.hid hJa
  have hY' := Lib.hid hY
  have hmx : Tryd.prog.follows .mixedOrders = true := by kernel_rfl
  clear hrow hl hJa hY hcB
  refine callsIn_of_wp Tryd.func58 rfl trivial ?_ rfl
  simp only [Tryd.ntmps58, List.size_toArray, List.length_cons, List.length_nil, Nat.reduceAdd, Nat.reduceSub, Array.replicate_succ, Array.replicate_zero, List.push_toArray, List.append_toArray, List.nil_append, List.cons_append]
  gi_wp2
  gi_loopw [3] (fun i wr => ∃ k : Nat, k ≤ m ∧ i = .int .i64 ((k : Int) + 1) ∧ J ((nb l).take k) wr ∧ Below n₀ W wr) (fun i _ => m + 1 - (intOf i).toNat)
  case atStart => exact ⟨0, Nat.zero_le _, rfl, hJ0, Below.refl _ _⟩
  case round =>
    obtain ⟨k, hk, rfl, hJs, hnx⟩ := hrel
    have b0 := Lib.hid hnx
    have j0 := Lib.hid hJs
    have cB : wr.cell? ⟨Bx, 0, none⟩ = some (.slice A m c) := (hnx.cell (p := ⟨Bx, 0, none⟩) hBx).trans hcW
    clear hnx hJs
    by_cases hlt : k + 1 < m
    · have hkl : k + 1 < l.length := by rw [hl'.out]; exact hlt
      have hk0 : k < l.length := by omega
      obtain ⟨ad, rfl, hb2, g1, g2⟩ := pair_at (hrW.out.below b0.out) k hk0
      obtain ⟨ad', he', hb3, g3, g4⟩ := pair_at (hrW.out.below b0.out) (k + 1) hkl
      cases he'
      have htk := Lib.hid (nb_take l k hkl)
      have hpre : Hid ((nb l).take (k + 1) <+: nb l) := List.take_prefix _ _
      have hy0 := hY'.out ((nb l).take k) (l[k], l[k + 1]) wr.drew (hJa'.out _ wr wr.drew none j0.out (grown_drew wr) (fun r e => by cases e)) (by rw [List.length_take]; omega)
      rw [← htk.out] at hy0
      obtain ⟨fn, tmps, assign, body, hy, hR⟩ := hy0
      have hR' := Lib.hid (hR.mono (R' := fun e W' => ∃ b : Bool, e = .returned (.bool b) ∧ Told (J ((nb l).take (k + 1))) (Jx ((nb l).take (k + 1))) n₀ wr.drew b W') (fun e w' h => by
        rcases h with ⟨rfl, h1, h2⟩ | ⟨rfl, h1⟩
        · exact ⟨true, rfl, .inl ⟨rfl, h1, h2⟩⟩
        · exact ⟨false, rfl, .inr ⟨rfl, h1⟩⟩))
      simp only [encN] at hy
      have d1 : wr.drew.cell? ⟨Bx, 0, none⟩ = some (.slice (some ad) m c) := cB
      have d2 : wr.drew.cell? (ad.add (k * 2)) = some (K l[k].1) := g1
      have d3 : wr.drew.cell? ⟨(ad.add (k * 2)).block, (ad.add (k * 2)).off + 1, none⟩ = some (K l[k].2) := g2
      have d4 : wr.drew.cell? (ad.add ((k + 1) * 2)) = some (K l[k + 1].1) := g3
      have d5 : wr.drew.cell? ⟨(ad.add ((k + 1) * 2)).block, (ad.add ((k + 1) * 2)).off + 1, none⟩ = some (K l[k + 1].2) := g4
      clear hR hb2 hb3
      have e1 : (0 : Int) ≤ (k : Int) + 1 := by omega
      have e3 : (k : Int) + 1 < (m : Int) := by omega
      have e4 : k < m := by omega
      have e0 : IntKind.i64.wrap ((k : Int) + 1 - 1) = (k : Int) := by rw [show (k : Int) + 1 - 1 = k by omega]; exact IntWalk.i64_in _ (by omega)
      have e5 : IntKind.i64.wrap (k : Int) = (k : Int) := IntWalk.i64_in _ (by omega)
      have e6 : wrap64 (k : Int) = (k : Int) := by unfold wrap64; omega
      have e2 : ((k : Int) + 1).toNat = k + 1 := by omega
      gi_wp2
      gi_region_with_o ((refine hR'.out.mono ?_; rintro e W3 ⟨b, rfl, hT⟩))
      all_goals
        rcases hT with ⟨rfl, hJ3, hk3⟩ | ⟨rfl, hJx3⟩
        · gi_wp2
          go_roundw
          case rel => exact ⟨k + 1, by omega, by go_num, hJ3, b0.out.trans (((Below.refl n₀ wr).drew).trans hk3)⟩
          case measure => simp [intOf]; omega
        · gi_wp2
          refine bodyPost_ret (results_none rfl _ _ _) rfl ?_
          exact ⟨⟨_, rfl⟩, .inr ⟨_, hpre.out, hJx3⟩⟩
    · have hlt' : ¬ ((k : Int) + 1 < (m : Int)) := by omega
      have j1 : Hid (J (nb l) wr) := by have := j0.out; rw [List.take_of_length_le (by rw [nb_len, hl'.out]; omega)] at this; exact this
      gi_wp2
      go_end0
      first | exact ⟨⟨_, rfl⟩, .inl j1.out⟩ | exact ⟨⟨_, rfl⟩, .inl ⟨_, rfl, j1.out⟩⟩
end Go.Proofs.YtjnnfineebabaaaDoor
