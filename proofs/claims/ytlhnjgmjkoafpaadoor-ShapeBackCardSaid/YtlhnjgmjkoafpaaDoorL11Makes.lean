/- Layer 11: the statements ShapeMakes and ShapeReads, walked. -/
import Derived.Test.YtlhnjgmjkoafpaaDoorL11Alive
import Derived.Test.YtlhnjgmjkoafpaaDoorL9Tells
import Derived.Test.YtlhnjgmjkoafpaaDoorGApp
namespace Go.Proofs.YtlhnjgmjkoafpaaDoor
open Go.RowKit Go.Proofs.Treem
set_option maxRecDepth 100000
variable {Nd : NdP} {T : World → Prop}

/-- what was made, held against the document's answer -/
theorem is_made (hN : NodeSays Nd) (t : Tr) (p : Option Addr) (h2 : t.size ≤ 2000) (A : Option Addr) (n c : Nat) (hn : t.size = n) (w : World) (hT : TreeAt Nd w w.heap.size t p) (hl : LieB w w.heap.size A n c t.told) :
    Calls Tryd.prog 19 #[.pointer p, .slice A n c] w fun e w' => e = .returned (.bool true) ∧ Below w.heap.size w w' := Is9 hN t p h2 A n c hn w hT hl
theorem is_none (hN : NodeSays Nd) (w : World) : Calls Tryd.prog 19 #[.pointer none, .slice none 0 0] w fun e w' => e = .returned (.bool true) ∧ Below w.heap.size w w' := Is9 hN .e none (by decide) none 0 0 rfl w rfl (lie_none w)
set_option maxHeartbeats 2000000 in
theorem shapeMakes_many (hN : NodeSays Nd) (hS : ShapeSays Nd T) (hX : TextSays T) (A : Option Addr) (n c : Nat) (h4 : 400 < n) (hn : n ≤ maxLen) (w : World) (hT : T w) : Calls Tryd.prog 4 #[.slice A n c] w fun e w' => e = .returned (.bool true) ∧ Below w.heap.size w w' := by
  unfold maxLen at hn
  have d1 : decide ((400 : Int) < (n : Int)) = true := decide_eq_true (by omega)
  have c0 := Lib.hid (alive11_any hN hS hX w hT)
  clear hN hS hX hT
  go_enter Tryd.func4, Tryd.ntmps4
  go_wp2_with fail
  refine c0.out.mono ?_
  rintro e w1 ⟨rfl, hb⟩
  have b1 := Lib.hid hb
  clear hb
  go_wp2
  go_ret
  exact ⟨rfl, b1.out⟩
set_option maxHeartbeats 4000000 in
theorem shapeMakes_few (hN : NodeSays Nd) (hS : ShapeSays Nd T) (hX : TextSays T) (A : Option Addr) (n c : Nat) (l : List Bd) (h4 : n ≤ 400) (w : World) (hl : LieB w w.heap.size A n c l) (hT : T w) : Calls Tryd.prog 4 #[.slice A n c] w fun e w' => e = .returned (.bool true) ∧ Below w.heap.size w w' := by
  have d1 : decide ((400 : Int) < (n : Int)) = false := decide_eq_false (by omega)
  obtain ⟨o, ho⟩ := makeIs_some (l.map strip)
  have hlen := Lib.hid hl.len
  have cM : Hid (∀ W A' c', LieB W W.heap.size A' n c' l → Calls Tryd.prog 17 #[.slice A' n c'] W (MadeTree Nd W o)) := fun W A' c' h => hS.make W A' n c' l o h (by omega) ho
  have cR : Hid (∀ W, Below w.heap.size w W → Calls Tryd.prog 18 #[.slice A n c] W (MadeBeads W o)) := fun W hb => refMake11 A n c l o (by omega) W (hl.after hb) ho
  have cA : Hid (∀ W, Below w.heap.size w W → Calls Tryd.prog 9 #[] W fun e w' => e = .returned (.bool true) ∧ Below W.heap.size W w') := fun W hb => alive11_any hN hS hX W (hX.next hT hb)
  have hos : Hid (∀ t, o = some t → t.size = n) := fun t h => by
    subst h
    obtain ⟨h1, _⟩ := ho
    rw [← pre_len, h1, List.length_map, hl.len]
  have hN' := Lib.hid hN
  have hl' := Lib.hid hl
  obtain ⟨i0, hin, hz0, hz1, hz2⟩ := info_parts info_bead
  clear hN hS hX hT ho hl
  have hrow := Lib.hid hl'.out.row
  have hnil := hl'.out.nil
  have hcap := hl'.out.cap
  go_enter Tryd.func4, Tryd.ntmps4
  go_wp2_with (first
    | ((with_reducible change wpList _ _ _ (⟨some 13, _, _, _, _, _⟩ :: _) _ _); refine wpList_append_row rfl _ _ 22 rfl w.heap.size 44 i0 (.agg #[.int .i64 0, .int .i64 0, .int .i64 0, .int .i64 0, .int .u64 0, .bool false, .bool false]) 7 48 Tryd.underlying22 hin hz0 hz1 hz2 rfl (by decide) (.slice none 0 0) 0 [] rfl (World.ownsRow_nil _ _ _ _) A n c (flat7 l) rfl hnil hcap (by rw [flat7_length, hlen.out]) w.heap.size hrow.out (flat7_one l) (by unfold maxLen; omega) (by omega) (Nat.le_refl _) ?_
       intro v1 w1 ho1 hg1)
    | fail)
  rw [Nat.zero_add, List.nil_append] at ho1
  obtain ⟨A1, c1, rfl, k1⟩ := LieB.of_own hlen.out (by omega) ho1
  have l1 := Lib.hid k1
  have b1 : Hid (Below w.heap.size w w1) := (Below.refl _ w).grown hg1 (Nat.le_refl _) (fun k e => by simp [Value.ownBlock] at e)
  clear ho1 hg1 k1 hnil hcap hrow
  go_wp2_with fail
  refine (cM.out w1 A1 c1 l1.out).mono ?_
  clear cM l1
  cases o with
  | none =>
    rintro e w2 ⟨rfl, hb⟩
    have b2 := Lib.hid (Below.after b1.out hb)
    clear hb b1
    go_wp2_with fail
    refine (cR.out w2 b2.out).mono ?_
    rintro e w3 ⟨rfl, hb⟩
    have b3 := Lib.hid (Below.after b2.out hb)
    clear hb b2 cR
    go_wp2_with fail
    refine (is_none hN'.out w3).mono ?_
    rintro e w4 ⟨rfl, hb⟩
    have b4 := Lib.hid (Below.after b3.out hb)
    clear hb b3
    go_wp2_with fail
    refine (cA.out w4 b4.out).mono ?_
    rintro e w5 ⟨rfl, hb⟩
    have b5 := Lib.hid (Below.after b4.out hb)
    clear hb b4
    go_wp2
    go_ret
    exact ⟨rfl, b5.out⟩
  | some t =>
    have ht := Lib.hid (hos.out t rfl)
    rintro e w2 ⟨p, rfl, hp, hb⟩
    have P2 := Lib.hid hp
    have b2 := Lib.hid (Below.after b1.out hb)
    clear hb b1 hp
    go_wp2_with fail
    refine (cR.out w2 b2.out).mono ?_
    rintro e w3 ⟨A3, c3, rfl, hl3, hb⟩
    have P3 := Lib.hid (P2.out.after hN'.out hb)
    have l3 := Lib.hid hl3
    have b3 := Lib.hid (Below.after b2.out hb)
    clear hb b2 cR P2 hl3
    go_wp2_with fail
    refine (is_made hN'.out t p (by rw [ht.out]; omega) A3 t.size c3 rfl w3 P3.out l3.out).mono ?_
    rintro e w4 ⟨rfl, hb⟩
    have b4 := Lib.hid (Below.after b3.out hb)
    clear hb b3
    go_wp2_with fail
    refine (cA.out w4 b4.out).mono ?_
    rintro e w5 ⟨rfl, hb⟩
    have b5 := Lib.hid (Below.after b4.out hb)
    clear hb b4
    go_wp2
    go_ret
    exact ⟨rfl, b5.out⟩
set_option maxHeartbeats 2000000 in
theorem shapeReads_long (hN : NodeSays Nd) (hS : ShapeSays Nd T) (hX : TextSays T) (s : List UInt8) (h4 : 4096 < s.length) (hm : s.length ≤ 9223372036854775807) (w : World) (hT : T w) : Calls Tryd.prog 5 #[sV s] w fun e w' => e = .returned (.bool true) ∧ Below w.heap.size w w' := by
  obtain ⟨n, hn⟩ : ∃ n, s.length = n := ⟨_, rfl⟩
  have hlen : (⟨s.toArray⟩ : ByteArray).size = n := by rw [← hn]; exact List.size_toArray
  have d1 : decide ((4096 : Int) < (n : Int)) = true := decide_eq_true (by omega)
  have c0 := Lib.hid (alive11_any hN hS hX w hT)
  clear hN hS hX hT hn hm
  go_enter Tryd.func5, Tryd.ntmps5
  go_wp2_with fail
  refine c0.out.mono ?_
  rintro e w1 ⟨rfl, hb⟩
  have b1 := Lib.hid hb
  clear hb
  go_wp2
  go_ret
  exact ⟨rfl, b1.out⟩
set_option maxHeartbeats 4000000 in
theorem shapeReads_short (hN : NodeSays Nd) (hS : ShapeSays Nd T) (hX : TextSays T) (s : List UInt8) (h4 : s.length ≤ 4096) (w : World) (hT : T w) : Calls Tryd.prog 5 #[sV s] w fun e w' => e = .returned (.bool true) ∧ Below w.heap.size w w' := by
  obtain ⟨n, hn⟩ : ∃ n, s.length = n := ⟨_, rfl⟩
  have hlen : (⟨s.toArray⟩ : ByteArray).size = n := by rw [← hn]; exact List.size_toArray
  have d1 : decide ((4096 : Int) < (n : Int)) = false := decide_eq_false (by omega)
  have cM := Lib.hid (hS.read w s hT (by omega) (few_line (by omega)))
  have cR : Hid (∀ W, Below w.heap.size w W → Calls Tryd.prog 21 #[sV s] W (MadeBeads W (readL s))) := fun W hb => refRead11 hX s (by omega) W (hX.next hT hb)
  have cA : Hid (∀ W, Below w.heap.size w W → Calls Tryd.prog 9 #[] W fun e w' => e = .returned (.bool true) ∧ Below W.heap.size W w') := fun W hb => alive11_any hN hS hX W (hX.next hT hb)
  obtain ⟨o, ho⟩ : ∃ o, readL s = o := ⟨_, rfl⟩
  have hos : Hid (∀ t, o = some t → t.size ≤ 2000) := fun t h => by
    rw [h] at ho
    have h1 := ((readL_is s t).1 ho).1
    have h2 := line_more t
    rw [h1] at h2
    omega
  rw [ho] at cM cR
  have hN' := Lib.hid hN
  clear hN hS hX hT hn ho
  go_enter Tryd.func5, Tryd.ntmps5
  go_wp2_with fail
  refine cM.out.mono ?_
  clear cM
  cases o with
  | none =>
    rintro e w2 ⟨rfl, hb⟩
    have b2 := Lib.hid hb
    clear hb
    go_wp2_with fail
    refine (cR.out w2 b2.out).mono ?_
    rintro e w3 ⟨rfl, hb⟩
    have b3 := Lib.hid (Below.after b2.out hb)
    clear hb b2 cR
    go_wp2_with fail
    refine (is_none hN'.out w3).mono ?_
    rintro e w4 ⟨rfl, hb⟩
    have b4 := Lib.hid (Below.after b3.out hb)
    clear hb b3
    go_wp2_with fail
    refine (cA.out w4 b4.out).mono ?_
    rintro e w5 ⟨rfl, hb⟩
    have b5 := Lib.hid (Below.after b4.out hb)
    clear hb b4
    go_wp2
    go_ret
    exact ⟨rfl, b5.out⟩
  | some t =>
    have ht := Lib.hid (hos.out t rfl)
    rintro e w2 ⟨p, rfl, hp, hb⟩
    have P2 := Lib.hid hp
    have b2 := Lib.hid hb
    clear hb hp
    go_wp2_with fail
    refine (cR.out w2 b2.out).mono ?_
    rintro e w3 ⟨A3, c3, rfl, hl3, hb⟩
    have P3 := Lib.hid (P2.out.after hN'.out hb)
    have l3 := Lib.hid hl3
    have b3 := Lib.hid (Below.after b2.out hb)
    clear hb b2 cR P2 hl3
    go_wp2_with fail
    refine (is_made hN'.out t p ht.out A3 t.size c3 rfl w3 P3.out l3.out).mono ?_
    rintro e w4 ⟨rfl, hb⟩
    have b4 := Lib.hid (Below.after b3.out hb)
    clear hb b3
    go_wp2_with fail
    refine (cA.out w4 b4.out).mono ?_
    rintro e w5 ⟨rfl, hb⟩
    have b5 := Lib.hid (Below.after b4.out hb)
    clear hb b4
    go_wp2
    go_ret
    exact ⟨rfl, b5.out⟩
end Go.Proofs.YtlhnjgmjkoafpaaDoor
