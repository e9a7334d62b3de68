/- The four statements of layer 2, walked: each returns true for every argument and changes nothing that lay, while the tables of steps and names read as their initialisers lay them. -/
import Derived.Test.YtmiponffkhbniaaDoorL2Alive
import Derived.Test.YtmiponffkhbniaaDoorL2Ref
namespace Go.Proofs.YtmiponffkhbniaaDoor
open Go.RowKit Go.Proofs.Mixm

theorem nm_big (o : Nat) (h : 7 < o) : nm o = ⟨#[]⟩ := by
  match o, h with
  | n + 8, _ => rfl
theorem name_any (o : Nat) (w : World) (hN : Names w) : Calls Tryd.prog 12 #[.int .u8 o] w fun e w' => e = .returned (.string (nm o)) ∧ w = w' := by
  by_cases h : o ≤ 7
  · exact name_at o h w hN
  · rw [nm_big o (by omega)]; exact name_none o (by omega) w
theorem refName_any (o : Nat) (w : World) : Calls Tryd.prog 13 #[.int .u8 o] w fun e w' => e = .returned (.string (nm o)) ∧ w = w' := by
  by_cases h : o ≤ 7
  · exact refName_at o h w
  · rw [nm_big o (by omega)]; exact refName_none o (by omega) w
theorem refCode_of_key (o : Nat) (h1 : 1 ≤ o) (h7 : o ≤ 7) (c : BitVec 64) (w : World) : Calls Tryd.prog 17 #[.int .u8 o, K (Ordm.key o c)] w fun e w' => e = .returned (V c) ∧ w = w' := by
  have := refCode_at o h1 h7 (Ordm.key o c) w
  rw [Ordm.code_key] at this
  exact this

set_option maxRecDepth 100000 in
set_option maxHeartbeats 2000000 in
theorem tells_long (o : Nat) (a b : BitVec 64) (s : ByteArray) (hl : 1024 < s.size) (w : World) (h0 : 1 < w.heap.size) (hs : Steps w) (hn : Names w) : Calls Tryd.prog 3 #[.int .u8 o, K a, K b, .string s] w fun e w' => e = .returned (.bool true) ∧ Below w.heap.size w w' := by
  have k0 := Lib.hid (KeepsO.start h0 hs hn)
  clear h0 hs hn
  go_enter Tryd.func3, Tryd.ntmps3
  go_wp2_with fail
  refine (alive2_any _ k0.out.some k0.out.steps k0.out.names).mono ?_
  rintro e w1 ⟨rfl, hb⟩
  have k1 := Lib.hid (k0.out.next hb)
  clear hb k0
  go_wp2
  go_ret
  exact ⟨rfl, k1.out.below⟩

set_option maxRecDepth 100000 in
set_option maxHeartbeats 2000000 in
theorem tells_in (o : Nat) (h1 : 1 ≤ o) (h7 : o ≤ 7) (a b : BitVec 64) (s : ByteArray) (hl : s.size ≤ 1024) (w : World) (h0 : 1 < w.heap.size) (hs : Steps w) (hn : Names w) : Calls Tryd.prog 3 #[.int .u8 o, K a, K b, .string s] w fun e w' => e = .returned (.bool true) ∧ Below w.heap.size w w' := by
  have k0 := Lib.hid (KeepsO.start h0 hs hn)
  clear h0 hs hn
  go_enter Tryd.func3, Tryd.ntmps3
  go_wp2_with fail
  refine (code_at o h1 h7 _ _ k0.out.some k0.out.steps).mono ?_
  rintro e w1 ⟨rfl, hb⟩
  have k1 := Lib.hid (k0.out.next hb)
  clear hb k0
  go_wp2_with fail
  rw [k_u]
  refine (key_at o h1 h7 b _ k1.out.some k1.out.steps).mono ?_
  rintro e w2 ⟨rfl, hb⟩
  have k2 := Lib.hid (k1.out.next hb)
  clear hb k1
  go_wp2_with fail
  refine (compare_at o h1 h7 _ _ _ k2.out.some k2.out.steps).mono ?_
  rintro e w3 ⟨rfl, hb⟩
  have k3 := Lib.hid (k2.out.next hb)
  clear hb k2
  go_wp2_with fail
  refine (refCompare_at o h1 h7 _ _ _).mono ?_
  rintro e w' ⟨rfl, rfl⟩
  go_wp2_with fail
  refine (name_any o _ k3.out.names).mono ?_
  rintro e w' ⟨rfl, rfl⟩
  go_wp2_with fail
  refine (refName_any o _).mono ?_
  rintro e w' ⟨rfl, rfl⟩
  go_wp2_with fail
  refine (of_any s _ k3.out.names).mono ?_
  rintro e w' ⟨rfl, rfl⟩
  go_wp2_with fail
  refine (refOf2_any s _).mono ?_
  rintro e w' ⟨rfl, rfl⟩
  go_wp2_with fail
  refine (refIs_yes o h1 h7 _).mono ?_
  rintro e w' ⟨rfl, rfl⟩
  go_wp2_with fail
  refine (refCode_at o h1 h7 _ _).mono ?_
  rintro e w' ⟨rfl, rfl⟩
  go_wp2_with fail
  refine (refCode_of_key o h1 h7 _ _).mono ?_
  rintro e w' ⟨rfl, rfl⟩
  have ku := k_u b
  go_wp2_with fail
  refine (alive2_any _ k3.out.some k3.out.steps k3.out.names).mono ?_
  rintro e w4 ⟨rfl, hb⟩
  have k4 := Lib.hid (k3.out.next hb)
  clear hb k3
  go_wp2
  go_ret
  exact ⟨rfl, k4.out.below⟩

set_option maxRecDepth 100000 in
set_option maxHeartbeats 2000000 in
theorem tells_out (o : Nat) (h : ¬ (1 ≤ (o : Int) ∧ (o : Int) ≤ 7)) (a b : BitVec 64) (s : ByteArray) (hl : s.size ≤ 1024) (w : World) (h0 : 1 < w.heap.size) (hs : Steps w) (hn : Names w) : Calls Tryd.prog 3 #[.int .u8 o, K a, K b, .string s] w fun e w' => e = .returned (.bool true) ∧ Below w.heap.size w w' := by
  have k0 := Lib.hid (KeepsO.start h0 hs hn)
  have h' := Lib.hid h
  clear h0 hs hn h
  go_enter Tryd.func3, Tryd.ntmps3
  go_wp2_with fail
  refine (code_none _ h'.out _ _).mono ?_
  rintro e w1 ⟨rfl, hb⟩
  have k1 := Lib.hid (k0.out.next hb)
  clear hb k0
  go_wp2_with fail
  rw [k_u]
  refine (key_none _ h'.out b _).mono ?_
  rintro e w2 ⟨rfl, hb⟩
  have k2 := Lib.hid (k1.out.next hb)
  clear hb k1
  go_wp2_with fail
  refine (compare_none _ h'.out _ _ _).mono ?_
  rintro e w3 ⟨rfl, hb⟩
  have k3 := Lib.hid (k2.out.next hb)
  clear hb k2
  go_wp2_with fail
  refine (refCompare_none _ h'.out _ _ _).mono ?_
  rintro e w' ⟨rfl, rfl⟩
  go_wp2_with fail
  refine (name_any o _ k3.out.names).mono ?_
  rintro e w' ⟨rfl, rfl⟩
  go_wp2_with fail
  refine (refName_any o _).mono ?_
  rintro e w' ⟨rfl, rfl⟩
  go_wp2_with fail
  refine (of_any s _ k3.out.names).mono ?_
  rintro e w' ⟨rfl, rfl⟩
  go_wp2_with fail
  refine (refOf2_any s _).mono ?_
  rintro e w' ⟨rfl, rfl⟩
  go_wp2_with fail
  refine (refIs_no _ h'.out _).mono ?_
  rintro e w' ⟨rfl, rfl⟩
  go_wp2_with fail
  refine (alive2_any _ k3.out.some k3.out.steps k3.out.names).mono ?_
  rintro e w4 ⟨rfl, hb⟩
  have k4 := Lib.hid (k3.out.next hb)
  clear hb k3
  go_wp2
  go_ret
  exact ⟨rfl, k4.out.below⟩

theorem tells_walk2 (o : Nat) (a b : BitVec 64) (s : ByteArray) (w : World) (h0 : 1 < w.heap.size) (hs : Steps w) (hn : Names w) : Calls Tryd.prog 3 #[.int .u8 o, K a, K b, .string s] w fun e w' => e = .returned (.bool true) ∧ Below w.heap.size w w' := by
  by_cases hl : 1024 < s.size
  · exact tells_long o a b s hl w h0 hs hn
  · by_cases h : 1 ≤ (o : Int) ∧ (o : Int) ≤ 7
    · exact tells_in o (by omega) (by omega) a b s (by omega) w h0 hs hn
    · exact tells_out o h a b s (by omega) w h0 hs hn

theorem key_of_code (o : Nat) (h1 : 1 ≤ o) (h7 : o ≤ 7) (b : BitVec 64) (w : World) (h0 : 1 < w.heap.size) (hs : Steps w) : Calls Tryd.prog 9 #[.int .u8 o, V (Ordm.code o b)] w fun e w' => e = .returned (.tuple #[K b, .int .i64 0]) ∧ Below w.heap.size w w' := by
  have := key_at o h1 h7 (Ordm.code o b) w h0 hs
  rw [Ordm.key_code] at this
  exact this
theorem code_of_key (o : Nat) (h1 : 1 ≤ o) (h7 : o ≤ 7) (c : BitVec 64) (w : World) (h0 : 1 < w.heap.size) (hs : Steps w) : Calls Tryd.prog 8 #[.int .u8 o, K (Ordm.key o c)] w fun e w' => e = .returned (.tuple #[V c, .int .i64 0]) ∧ Below w.heap.size w w' := by
  have := code_at o h1 h7 (Ordm.key o c) w h0 hs
  rw [Ordm.code_key] at this
  exact this
theorem toInt_beq (a b : BitVec 64) : (a.toInt == b.toInt) = decide (a = b) := by
  by_cases h : a = b
  · subst h; simp
  · have : a.toInt ≠ b.toInt := fun e => h (BitVec.eq_of_toInt_eq e)
    simp [h, this]
/-- the two tests of OrderBack that hang on whether the number is the key's code -/
structure AlikeO (o : Nat) (k c : BitVec 64) (t : Bool) : Prop where
  x : (((Ordm.code o k).toNat : Int) == (c.toNat : Int)) = t
  l : ((Ordm.key o c).toInt == k.toInt) = t
theorem alikeO (o : Nat) (k c : BitVec 64) : ∃ t, AlikeO o k c t := by
  refine ⟨decide (Ordm.code o k = c), v_eq _ _, ?_⟩
  rw [toInt_beq]
  have : (Ordm.key o c = k) = (Ordm.code o k = c) := propext ⟨fun h => by rw [← h, Ordm.code_key], fun h => by rw [← h, Ordm.key_code]⟩
  simp only [this]

set_option maxRecDepth 100000 in
set_option maxHeartbeats 2000000 in
theorem back_walk2 (o : Nat) (k c : BitVec 64) (w : World) (h0 : 1 < w.heap.size) (hs : Steps w) (hn : Names w) : Calls Tryd.prog 4 #[.int .u8 o, K k, V c] w fun e w' => e = .returned (.bool true) ∧ Below w.heap.size w w' := by
  have k0 := Lib.hid (KeepsO.start h0 hs hn)
  clear h0 hs hn
  go_enter Tryd.func4, Tryd.ntmps4
  go_wp2_with fail
  obtain ⟨m, hm, h1, h7⟩ : ∃ m : Nat, (1 + (o : Int) % 7) = (m : Int) ∧ 1 ≤ m ∧ m ≤ 7 := ⟨1 + o % 7, by omega, by omega, by omega⟩
  rw [hm]
  clear hm
  obtain ⟨t, hx, hl⟩ := alikeO m k c
  refine (code_at m h1 h7 _ _ k0.out.some k0.out.steps).mono ?_
  rintro e w1 ⟨rfl, hb⟩
  have k1 := Lib.hid (k0.out.next hb)
  clear hb k0
  go_wp2_with fail
  refine (key_of_code m h1 h7 _ _ k1.out.some k1.out.steps).mono ?_
  rintro e w2 ⟨rfl, hb⟩
  have k2 := Lib.hid (k1.out.next hb)
  clear hb k1
  go_wp2_with fail
  refine (key_at m h1 h7 _ _ k2.out.some k2.out.steps).mono ?_
  rintro e w3 ⟨rfl, hb⟩
  have k3 := Lib.hid (k2.out.next hb)
  clear hb k2
  go_wp2_with fail
  refine (code_of_key m h1 h7 _ _ k3.out.some k3.out.steps).mono ?_
  rintro e w4 ⟨rfl, hb⟩
  have k4 := Lib.hid (k3.out.next hb)
  clear hb k3
  go_wp2_with fail
  refine (alive2_any _ k4.out.some k4.out.steps k4.out.names).mono ?_
  rintro e w5 ⟨rfl, hb⟩
  have k5 := Lib.hid (k4.out.next hb)
  clear hb k4
  go_wp2
  go_ret
  exact ⟨rfl, k5.out.below⟩

end Go.Proofs.YtmiponffkhbniaaDoor
