/- The contracts of Find, Get, Floor and Ceil of package row. -/
import Derived.Test.YtjnnfineebabaaaDoorL4Seek
namespace Go.Proofs.YtjnnfineebabaaaDoor
open Go.RowKit Go.Shelf Go.Proofs.Rowm

set_option maxHeartbeats 1000000 in
theorem find_no (o : Nat) (A : Option Addr) (n c : Nat) (l : List Pr) (key : BitVec 64) (hm : mayB o l = false) (hl : l.length = n) (hn : n ≤ 1000) (w : World) (h0 : 0 < w.heap.size) (hs : Steps w) (hr : Row w w.heap.size A (flat l)) :
    Calls Tryd.prog 40 #[.int .u8 o, .slice A n c, K key] w fun e w' => e = .returned (.tuple #[.int .i64 0, .bool false]) ∧ Below w.heap.size w w' := by
  have hr' := Lib.hid hr
  have hl' := Lib.hid hl
  have hm' := Lib.hid hm
  have hs' := Lib.hid hs
  clear hr hl hm hs
  go_enter Tryd.func40, Tryd.ntmps40
  go_wp2_with fail
  refine (rowMay_is hm'.out hl'.out hn h0 hs'.out hr'.out).mono ?_
  rintro e w1 ⟨rfl, hb⟩
  have b1 := Lib.hid hb
  clear hb
  go_wp2
  go_ret2
  exact ⟨rfl, b1.out⟩
set_option maxHeartbeats 1000000 in
theorem find_yes (o : Nat) (A : Option Addr) (n c : Nat) (l : List Pr) (key : BitVec 64) (i j : Nat) (t : Bool) (ht : decide (i < j) = t) (hm : mayB o l = true) (ha : At o l key i j) (hl : l.length = n) (hn : n ≤ 1000) (w : World) (h0 : 0 < w.heap.size) (hs : Steps w) (hr : Row w w.heap.size A (flat l)) :
    Calls Tryd.prog 40 #[.int .u8 o, .slice A n c, K key] w fun e w' => e = .returned (.tuple #[.int .i64 i, .bool t]) ∧ Below w.heap.size w w' := by
  obtain ⟨h1, h7, _⟩ := mayB_parts hm
  have ha' := Lib.hid ha
  have ht' := Lib.hid ht
  clear ha ht
  have hr' := Lib.hid hr
  have hl' := Lib.hid hl
  have hm' := Lib.hid hm
  have hs' := Lib.hid hs
  clear hr hl hm hs
  go_enter Tryd.func40, Tryd.ntmps40
  go_wp2_with fail
  refine (rowMay_is hm'.out hl'.out hn h0 hs'.out hr'.out).mono ?_
  rintro e w1 ⟨rfl, hb⟩
  have b1 := Lib.hid hb
  clear hb
  go_wp2_with fail
  refine (seek_at o h1 h7 A n c l key i j t ht'.out ha'.out hl'.out hn _ (Nat.lt_of_lt_of_le h0 b1.out.size) (hs'.out.below h0 b1.out) (hr'.out.next b1.out)).mono ?_
  rintro e w2 ⟨rfl, hb⟩
  have b2 := Lib.hid (Below.after b1.out hb)
  clear hb
  go_wp2
  go_ret2
  exact ⟨rfl, b2.out⟩
end Go.Proofs.YtjnnfineebabaaaDoor
