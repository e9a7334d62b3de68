/- The contract of the statements' own 'alive' of layer 2 (the chapter's examples hold). -/
import Derived.Test.YtmiponffkhbniaaDoorL2Cmp
import Derived.Test.YtmiponffkhbniaaDoorL2Names
namespace Go.Proofs.YtmiponffkhbniaaDoor
open Go.RowKit Go.Proofs.Mixm

/-- what is kept from call to call: what lay where the calls began, and both tables read as they did -/
structure KeepsO (w w' : World) : Prop where
  below : Below w.heap.size w w'
  some : 1 < w'.heap.size
  steps : Steps w'
  names : Names w'
theorem KeepsO.start {w : World} (h0 : 1 < w.heap.size) (hs : Steps w) (hn : Names w) : KeepsO w w := ⟨Below.refl _ _, h0, hs, hn⟩
theorem KeepsO.next {w a b : World} (k : KeepsO w a) (hb : Below a.heap.size a b) : KeepsO w b :=
  ⟨k.below.trans (hb.mono k.below.size), Nat.lt_of_lt_of_le k.some hb.size, k.steps.below k.some hb, k.names.below hb⟩

theorem code_e1 (w : World) (h0 : 1 < w.heap.size) (hs : Steps w) : Calls Tryd.prog 8 #[.int .u8 1, .int .i64 0] w fun e w' => e = .returned (.tuple #[.int .u64 9223372036854775808, .int .i64 0]) ∧ Below w.heap.size w w' := by
  have h : Ordm.code 1 0#64 = 9223372036854775808#64 := by decide
  have := code_at 1 (by omega) (by omega) 0#64 w h0 hs
  rw [h] at this
  exact this
theorem code_e2 (w : World) (h0 : 1 < w.heap.size) (hs : Steps w) : Calls Tryd.prog 8 #[.int .u8 3, .int .i64 (-1)] w fun e w' => e = .returned (.tuple #[.int .u64 1, .int .i64 0]) ∧ Below w.heap.size w w' := by
  have h : Ordm.code 3 18446744073709551615#64 = 1#64 := by decide
  have := code_at 3 (by omega) (by omega) 18446744073709551615#64 w h0 hs
  rw [h] at this
  exact this
theorem code_e3 (w : World) (h0 : 1 < w.heap.size) (hs : Steps w) : Calls Tryd.prog 8 #[.int .u8 3, .int .i64 1] w fun e w' => e = .returned (.tuple #[.int .u64 2, .int .i64 0]) ∧ Below w.heap.size w w' := by
  have h : Ordm.code 3 1#64 = 2#64 := by decide
  have := code_at 3 (by omega) (by omega) 1#64 w h0 hs
  rw [h] at this
  exact this
theorem key_e4 (w : World) (h0 : 1 < w.heap.size) (hs : Steps w) : Calls Tryd.prog 9 #[.int .u8 3, .int .u64 3] w fun e w' => e = .returned (.tuple #[.int .i64 (-2), .int .i64 0]) ∧ Below w.heap.size w w' := by
  have h : Ordm.key 3 3#64 = 18446744073709551614#64 := by decide
  have := key_at 3 (by omega) (by omega) 3#64 w h0 hs
  rw [h] at this
  exact this
theorem code_e5 (w : World) : Calls Tryd.prog 8 #[.int .u8 0, .int .i64 1] w fun e w' => e = .returned (.tuple #[.int .u64 0, .int .i64 2]) ∧ Below w.heap.size w w' :=
  code_none 0 (by omega) 1#64 w
theorem compare_e6 (w : World) (h0 : 1 < w.heap.size) (hs : Steps w) : Calls Tryd.prog 10 #[.int .u8 5, .int .i64 2, .int .i64 1] w fun e w' => e = .returned (.int .i64 (-1)) ∧ Below w.heap.size w w' := by
  have h : Ordm.stand 5 2#64 1#64 = -1 := by decide
  have := compare_at 5 (by omega) (by omega) 2#64 1#64 w h0 hs
  rw [h] at this
  exact this
theorem name_e7 (w : World) (hn : Names w) : Calls Tryd.prog 12 #[.int .u8 3] w fun e w' => e = .returned (.string ⟨#[115, 105, 122, 101]⟩) ∧ w = w' :=
  name_at 3 (by omega) w hn
theorem of_e8 (w : World) (hn : Names w) : Calls Tryd.prog 14 #[.string ⟨#[108, 111, 119]⟩] w fun e w' => e = .returned (.int .u8 6) ∧ w = w' := by
  have h : ofName ⟨#[108, 111, 119]⟩ = 6 := by decide
  have := of_any ⟨#[108, 111, 119]⟩ w hn
  rw [h] at this
  exact this

set_option maxRecDepth 100000 in
set_option maxHeartbeats 1000000 in
theorem alive2_any (w : World) (h0 : 1 < w.heap.size) (hs : Steps w) (hn : Names w) : Calls Tryd.prog 7 #[] w fun e w' => e = .returned (.bool true) ∧ Below w.heap.size w w' := by
  have k0 := Lib.hid (KeepsO.start h0 hs hn)
  clear h0 hs hn
  go_enter Tryd.func7, Tryd.ntmps7
  go_wp2_with fail
  refine (code_e1 _ k0.out.some k0.out.steps).mono ?_
  rintro e w1 ⟨rfl, hb⟩
  have k1 := Lib.hid (k0.out.next hb)
  clear hb k0
  go_wp2_with fail
  refine (code_e2 _ k1.out.some k1.out.steps).mono ?_
  rintro e w2 ⟨rfl, hb⟩
  have k2 := Lib.hid (k1.out.next hb)
  clear hb k1
  go_wp2_with fail
  refine (code_e3 _ k2.out.some k2.out.steps).mono ?_
  rintro e w3 ⟨rfl, hb⟩
  have k3 := Lib.hid (k2.out.next hb)
  clear hb k2
  go_wp2_with fail
  refine (key_e4 _ k3.out.some k3.out.steps).mono ?_
  rintro e w4 ⟨rfl, hb⟩
  have k4 := Lib.hid (k3.out.next hb)
  clear hb k3
  go_wp2_with fail
  refine (code_e5 _).mono ?_
  rintro e w5 ⟨rfl, hb⟩
  have k5 := Lib.hid (k4.out.next hb)
  clear hb k4
  go_wp2_with fail
  refine (compare_e6 _ k5.out.some k5.out.steps).mono ?_
  rintro e w6 ⟨rfl, hb⟩
  have k6 := Lib.hid (k5.out.next hb)
  clear hb k5
  go_wp2_with fail
  refine (name_e7 _ k6.out.names).mono ?_
  rintro e w7 ⟨rfl, rfl⟩
  go_wp2_with fail
  refine (of_e8 _ k6.out.names).mono ?_
  rintro e w8 ⟨rfl, rfl⟩
  go_wp2
  go_ret
  exact ⟨rfl, k6.out.below⟩
end Go.Proofs.YtmiponffkhbniaaDoor
