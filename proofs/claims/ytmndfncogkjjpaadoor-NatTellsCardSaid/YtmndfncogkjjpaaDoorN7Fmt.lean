/- strconv.FormatUint and strings.TrimLeft as package nat calls them. -/
import Derived.Test.YtmndfncogkjjpaaDoorGShelf
import Derived.Test.YtmndfncogkjjpaaDoorN7Tens
import Derived.Lib.AppendIntMem
import Derived.Lib.ItoaMem
import Derived.Lib.ItoaLen
import Derived.Laws.BytesString
import Derived.WalkKit
import Derived.BigCall
import Derived.BigGuard
namespace Go.Proofs.YtmndfncogkjjpaaDoor
open Go.RowKit Go.Shelf Go.Sort
set_option maxRecDepth 100000

theorem below_put {B b off : Nat} {a w : World} (h : Below B a w) (hB : B ≤ b) (d : Array UInt8) : Below B a (putRow (fun (b : UInt8) => Value.int .u8 (b.toNat : Int)) w b off d) :=
  h.trans ⟨rfl, rfl, rfl, by simp [putRow, mapBlock], fun k hk => by
    simp only [putRow, mapBlock]
    rw [Array.getElem?_modify, if_neg (by omega)]⟩

set_option maxHeartbeats 4000000 in
theorem format_any (u : Nat) (hu : u < 4294967296) (w : World) (ht : Tens w) : Calls Tryd.prog 48 #[.int .u64 u, .int .i64 10] w fun e w' => e = .returned (.string ⟨(Lib.decDigits u).toArray⟩) ∧ Below w.heap.size w w' := by
  by_cases hs : u < 100
  · have d1 : decide ((u : Int) < 100) = true := decide_eq_true (by omega)
    go_enter Tryd.func48, Tryd.ntmps48
    go_wp2_with (go_at_call 56; refine (Any.internal_strconv_small shelf283 u hs _).mono ?_; rintro e w' ⟨rfl, rfl⟩)
    go_ret
    exact ⟨rfl, Below.refl _ _⟩
  · have d1 : decide ((u : Int) < 100) = false := decide_eq_false (by omega)
    have hu1 : 1 ≤ u := by omega
    have hu64 : u < 18446744073709551616 := by omega
    have hnd20 : Lib.nDigits u ≤ 20 := Lib.nDigits_le20 u hu64
    obtain ⟨n, hn⟩ : ∃ n, Lib.nDigits u = n := ⟨_, rfl⟩
    rw [hn] at hnd20
    have hn9 : n ≤ 24 := by omega
    have hal : Tryd.prog.arrayLen 80 = 24 := by kernel_rfl
    have hsl : ∀ W, (Instr.sliceAt 80 (.pointer (some ⟨w.heap.size, 0, none⟩)) none (some (.int .i64 (n : Int))) none).run Tryd.prog W = .ok (.slice (some ⟨w.heap.size, 0, none⟩) n 24) W := fun W => by
      rw [run_sliceAt_array_h W 80 ⟨w.heap.size, 0, none⟩ (by rw [Tryd.underlying80]; rfl) .i64 (n : Int) (by omega) (by rw [hal]; omega)]
      go_simp
    have hH0 := Lib.holds_zero0 w 80 n hn9
    have hfmt := Any.internal_strconv_formatBase10 shelf285 w.heap.size 0 24 u (Array.replicate n 0) (w.alloc (.cells Lib.zeros24 80)) hH0 (by rw [Array.size_replicate, ← hn]; exact Lib.lt_pow_nDigits u) hu64 (by rw [Array.size_replicate]; omega)
    rw [Array.size_replicate] at hfmt
    have hnum := Lib.hid (Any.internal_strconv_numDigits shelfM284 u hu1 hu64 _ (Lib.tabIs_alloc ht (.cells Lib.zeros24 80)))
    rw [hn] at hnum
    have hfm := Lib.hid hfmt
    have hH := Lib.hid hH0
    have hn' := Lib.hid hn
    clear hfmt hH0 hn hal ht
    go_enter Tryd.func48, Tryd.ntmps48
    go_wp2_with (go_at_call 57; refine hnum.out.mono ?_; rintro e w' ⟨rfl, rfl⟩)
    refine hfm.out.mono ?_
    rintro e w' ⟨rfl, k, v', dk, rfl, hF⟩
    have hcv : (convert 54 9 (.slice (some ⟨w.heap.size, 0, none⟩) n 24)).run Tryd.prog ((putRow (fun (b : UInt8) => Value.int .u8 (b.toNat : Int)) (w.alloc (.cells Lib.zeros24 80)) w.heap.size 0 dk).drewN k) = .ok (.string ⟨(Lib.decDigits u).toArray⟩) ((putRow (fun (b : UInt8) => Value.int .u8 (b.toNat : Int)) (w.alloc (.cells Lib.zeros24 80)) w.heap.size 0 dk).drewN k) := by
      have hlen : (Lib.decDigits u).length = n := by rw [Lib.decDigits_length]; exact hn'.out
      have h := run_convert_bytes_back (P := Tryd.prog) ((putRow (fun (b : UInt8) => Value.int .u8 (b.toNat : Int)) (w.alloc (.cells Lib.zeros24 80)) w.heap.size 0 dk).drewN k) 54 9 5 ⟨w.heap.size, 0, none⟩ 24 (Lib.decDigits u) Tryd.underlying54 Tryd.underlying5 Tryd.underlying9 (fun j hj => by
        rw [Lib.row_is_numeral (by rw [hn'.out]; exact hF) j hj, Lib.add_plain, World.cell?_drewN]
        exact cell?_putRow (fun (b : UInt8) => Value.int .u8 (b.toNat : Int)) _ w.heap.size 0 _ dk hH.out (by rw [hF.size, Array.size_replicate]) j (by rw [hF.size]; omega))
      rw [hlen] at h
      exact h
    have hb := Lib.hid (below_drewN (below_put (b := w.heap.size) (off := 0) ((Below.refl w.heap.size w).alloc (Nat.le_refl _) (.cells Lib.zeros24 80)) (Nat.le_refl _) dk) k)
    go_wp2
    go_ret
    exact ⟨rfl, hb.out⟩
set_option maxHeartbeats 1000000 in
theorem formatU_any (u : Nat) (hu : u < 4294967296) (w : World) (ht : Tens w) : Calls Tryd.prog 37 #[.int .u64 u, .int .i64 10] w fun e w' => e = .returned (.string ⟨(Lib.decDigits u).toArray⟩) ∧ Below w.heap.size w w' := by
  have h := Lib.hid (format_any u hu w ht)
  clear ht
  go_enter Tryd.func37, Tryd.ntmps37
  go_wp2_with fail
  refine h.out.mono ?_
  rintro e w1 ⟨rfl, hb⟩
  have b1 := Lib.hid hb
  clear hb
  go_wp2
  go_ret
  exact ⟨rfl, b1.out⟩
theorem trimLeft_any (s : ByteArray) (w : World) : Calls Tryd.prog 38 #[.string s, .string ⟨#[48]⟩] w fun e w' => e = .returned (.string ⟨(Lib.trimLeftB s.data.toList 48).toArray⟩) ∧ w' = w :=
  Any.strings_TrimLeft_one shelf161 s 48 (by decide) w
end Go.Proofs.YtmndfncogkjjpaaDoor
