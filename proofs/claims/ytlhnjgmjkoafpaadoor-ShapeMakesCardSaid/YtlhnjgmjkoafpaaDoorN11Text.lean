/- Layer 11: the library's numerals: what strconv answers, over its table of powers and its two errors, as they lie. -/
import Derived.Test.YtlhnjgmjkoafpaaDoorGShelf
import Derived.Test.YtlhnjgmjkoafpaaDoorN11Vars
import Derived.Test.YtlhnjgmjkoafpaaDoorL11Ok
import Derived.Lib.AppendIntMem
import Derived.Lib.ItoaMem
import Derived.Lib.ItoaLen
import Derived.Laws.BytesString
import Derived.BigCall
import Derived.BigGuard
namespace Go.Proofs.YtlhnjgmjkoafpaaDoor
open Go.RowKit Go.Shelf Go.Sort Go.Proofs.Treem
set_option maxRecDepth 100000

theorem below_put {B b off : Nat} {a w : World} (h : Below B a w) (hB : B ≤ b) (d : Array UInt8) : Below B a (putRow (fun (b : UInt8) => Value.int .u8 (b.toNat : Int)) w b off d) :=
  h.trans ⟨rfl, rfl, rfl, by simp [putRow, mapBlock], fun k hk => by
    simp only [putRow, mapBlock]
    rw [Array.getElem?_modify, if_neg (by omega)]⟩
theorem below_grow (w : World) (os : Array Obj) : Below w.heap.size w (Go.Sort.grow w os) := by
  refine ⟨rfl, rfl, rfl, by simp [Go.Sort.grow], fun k hk => ?_⟩
  simp only [Go.Sort.grow]
  rw [Array.getElem?_append_left hk]
theorem var_next {W W' : World} {name : String} {v : Array Value} (h : W.var? Tryd.prog name = some v) (hb : Below W.heap.size W W') : W'.var? Tryd.prog name = some v := by
  unfold World.var? at *
  cases hg : Tryd.prog.globalNamed name with
  | none => simp [hg] at h
  | some g =>
    simp only [hg, Option.bind_some] at h ⊢
    have hlt : g < W.heap.size := by
      rcases Nat.lt_or_ge g W.heap.size with h' | h'
      · exact h'
      · rw [Array.getElem?_eq_none h'] at h; simp at h
    rw [hb.block g hlt]
    exact h
/-- the table and the two errors lie there -/
structure Txt (W : World) : Prop where
  tab : Lib.TabIs Tryd.prog W tens .u64 Lib.pow10Tab
  syn : ∃ tp p, W.var? Tryd.prog synt = some #[.iface tp p]
  rng : ∃ tp p, W.var? Tryd.prog rang = some #[.iface tp p]
theorem Txt.next {W W' : World} (h : Txt W) (hb : Below W.heap.size W W') : Txt W' := by
  refine ⟨?_, let ⟨tp, p, e⟩ := h.syn; ⟨tp, p, var_next e hb⟩, let ⟨tp, p, e⟩ := h.rng; ⟨tp, p, var_next e hb⟩⟩
  have h1 := h.tab
  unfold Lib.TabIs at *
  exact var_next h1 hb
set_option maxHeartbeats 4000000 in
theorem format_any (u : Nat) (hu64 : u < 18446744073709551616) (w : World) (ht : Txt w) : Calls Tryd.prog 52 #[.int .u64 u, .int .i64 10] w fun e w' => e = .returned (.string ⟨(Lib.decDigits u).toArray⟩) ∧ Below w.heap.size w w' := by
  by_cases hs : u < 100
  · have d1 : decide ((u : Int) < 100) = true := decide_eq_true (by omega)
    go_enter Tryd.func52, Tryd.ntmps52
    go_wp2_with (go_at_call 65; refine (Any.internal_strconv_small shelf283 u hs _).mono ?_; rintro e w' ⟨rfl, rfl⟩)
    go_ret
    exact ⟨rfl, Below.refl _ _⟩
  · have d1 : decide ((u : Int) < 100) = false := decide_eq_false (by omega)
    have hu1 : 1 ≤ u := by omega
    have hnd20 : Lib.nDigits u ≤ 20 := Lib.nDigits_le20 u hu64
    obtain ⟨n, hn⟩ : ∃ n, Lib.nDigits u = n := ⟨_, rfl⟩
    rw [hn] at hnd20
    have hn9 : n ≤ 24 := by omega
    have hal : Tryd.prog.arrayLen 100 = 24 := by kernel_rfl
    have hsl : ∀ W, (Instr.sliceAt 100 (.pointer (some ⟨w.heap.size, 0, none⟩)) none (some (.int .i64 (n : Int))) none).run Tryd.prog W = .ok (.slice (some ⟨w.heap.size, 0, none⟩) n 24) W := fun W => by
      rw [run_sliceAt_array_h W 100 ⟨w.heap.size, 0, none⟩ (by rw [Tryd.underlying100]; rfl) .i64 (n : Int) (by omega) (by rw [hal]; omega)]
      go_simp
    have hH0 := Lib.holds_zero0 w 100 n hn9
    have hfmt := Any.internal_strconv_formatBase10 shelf285 w.heap.size 0 24 u (Array.replicate n 0) (w.alloc (.cells Lib.zeros24 100)) hH0 (by rw [Array.size_replicate, ← hn]; exact Lib.lt_pow_nDigits u) hu64 (by rw [Array.size_replicate]; omega)
    rw [Array.size_replicate] at hfmt
    have hnum := Lib.hid (Any.internal_strconv_numDigits shelfM284 u hu1 hu64 _ (Lib.tabIs_alloc ht.tab (.cells Lib.zeros24 100)))
    rw [hn] at hnum
    have hfm := Lib.hid hfmt
    have hH := Lib.hid hH0
    have hn' := Lib.hid hn
    clear hfmt hH0 hn hal ht
    go_enter Tryd.func52, Tryd.ntmps52
    go_wp2_with (go_at_call 66; refine hnum.out.mono ?_; rintro e w' ⟨rfl, rfl⟩)
    refine hfm.out.mono ?_
    rintro e w' ⟨rfl, k, v', dk, rfl, hF⟩
    have hcv : (convert 56 9 (.slice (some ⟨w.heap.size, 0, none⟩) n 24)).run Tryd.prog ((putRow (fun (b : UInt8) => Value.int .u8 (b.toNat : Int)) (w.alloc (.cells Lib.zeros24 100)) w.heap.size 0 dk).drewN k) = .ok (.string ⟨(Lib.decDigits u).toArray⟩) ((putRow (fun (b : UInt8) => Value.int .u8 (b.toNat : Int)) (w.alloc (.cells Lib.zeros24 100)) w.heap.size 0 dk).drewN k) := by
      have hlen : (Lib.decDigits u).length = n := by rw [Lib.decDigits_length]; exact hn'.out
      have h := run_convert_bytes_back (P := Tryd.prog) ((putRow (fun (b : UInt8) => Value.int .u8 (b.toNat : Int)) (w.alloc (.cells Lib.zeros24 100)) w.heap.size 0 dk).drewN k) 56 9 5 ⟨w.heap.size, 0, none⟩ 24 (Lib.decDigits u) Tryd.underlying56 Tryd.underlying5 Tryd.underlying9 (fun j hj => by
        rw [Lib.row_is_numeral (by rw [hn'.out]; exact hF) j hj, Lib.add_plain, World.cell?_drewN]
        exact cell?_putRow (fun (b : UInt8) => Value.int .u8 (b.toNat : Int)) _ w.heap.size 0 _ dk hH.out (by rw [hF.size, Array.size_replicate]) j (by rw [hF.size]; omega))
      rw [hlen] at h
      exact h
    have hb := Lib.hid (below_drewN (below_put (b := w.heap.size) (off := 0) ((Below.refl w.heap.size w).alloc (Nat.le_refl _) (.cells Lib.zeros24 100)) (Nat.le_refl _) dk) k)
    go_wp2
    go_ret
    exact ⟨rfl, hb.out⟩
set_option maxHeartbeats 1000000 in
theorem formatU_any (b : BitVec 64) (w : World) (ht : Txt w) : Calls Tryd.prog 33 #[G64 b, .int .i64 10] w fun e w' => e = .returned (sV (unum b)) ∧ Below w.heap.size w w' := by
  have h := Lib.hid (format_any b.toNat b.isLt w ht)
  clear ht
  go_enter Tryd.func33, Tryd.ntmps33
  go_wp2_with fail
  refine h.out.mono ?_
  rintro e w1 ⟨rfl, hb⟩
  have b1 := Lib.hid hb
  clear hb
  go_wp2
  go_ret
  exact ⟨rfl, b1.out⟩
theorem bytes_size (s : List UInt8) : (⟨s.toArray⟩ : ByteArray).size = s.length := List.size_toArray
theorem bytes_list (s : List UInt8) : (⟨s.toArray⟩ : ByteArray).data.toList = s := rfl
theorem kI_of (v : Int) (h0 : -9223372036854775808 ≤ v) (h1 : v ≤ 9223372036854775807) : Value.int .i64 v = K (BitVec.ofInt 64 v) := by
  show _ = Value.int .i64 (BitVec.ofInt 64 v).toInt
  rw [BitVec.toInt_ofInt]
  congr 1
  rw [Int.bmod_def]; omega
theorem intOk (w : World) (s : List UInt8) (v : Int) (hs : s.length ≤ 1048576) (hp : Lib.parseIntB 64 s = .ok v) : Calls Tryd.prog 60 #[sV s, .int .i64 10, .int .i64 64] w fun e w' => e = .returned (.tuple #[K (pI s), .nilIface]) ∧ Below w.heap.size w w' := by
  refine (Any.strconv_ParseInt_10_at64_ok shelfC174 ⟨s.toArray⟩ (by rw [bytes_size]; omega) v hp w).mono ?_
  rintro e w' ⟨rfl, hw⟩
  have hr := Lib.parseIntB_bounds hp
  have hr1 : -9223372036854775808 ≤ v := by have := hr.1; simp at this; omega
  have hr2 : v ≤ 9223372036854775807 := by have := hr.2; simp at this; omega
  refine ⟨by rw [pI, hp, kI_of v hr1 hr2], ?_⟩
  rcases hw with rfl | ⟨t, rfl⟩
  · exact Below.refl _ _
  · exact Lib.bytesWorld_below _ _ _
theorem intNo (w : World) (s : List UInt8) (hs : s.length ≤ 1048576) (hn : ∀ v, Lib.parseIntB 64 s ≠ .ok v) (hT : Txt w) : Calls Tryd.prog 60 #[sV s, .int .i64 10, .int .i64 64] w fun e w' => ∃ tp q, e = .returned (.tuple #[K (pI s), .iface tp q]) ∧ Below w.heap.size w w' := by
  cases hp : Lib.parseIntB 64 s with
  | ok v => exact absurd hp (hn v)
  | «syntax» =>
    obtain ⟨tp, p, hv⟩ := hT.syn
    refine (Any.strconv_ParseInt_10_at64_syntax_var shelfC174 ⟨s.toArray⟩ (by rw [bytes_size]; omega) hp tp p w hv).mono ?_
    rintro e w' ⟨N, rfl, _, _, hb⟩
    exact ⟨_, _, by rw [pI, hp]; rfl, hb⟩
  | range =>
    obtain ⟨tp, p, hv⟩ := hT.rng
    refine (Any.strconv_ParseInt_10_at64_range_var shelfC174 ⟨s.toArray⟩ (by rw [bytes_size]; omega) hp tp p w hv).mono ?_
    rintro e w' ⟨N, rfl, _, _, hb⟩
    have hr : -9223372036854775808 ≤ Lib.intSat 64 s ∧ Lib.intSat 64 s ≤ 9223372036854775807 := by unfold Lib.intSat; split <;> (simp; try omega)
    exact ⟨_, _, by rw [pI, hp, ← kI_of _ hr.1 hr.2], hb⟩
theorem uintOk (w : World) (s : List UInt8) (v : Nat) (hs : s.length ≤ 1048576) (hp : Lib.parseUintB 64 s = .ok v) : Calls Tryd.prog 61 #[sV s, .int .i64 10, .int .i64 64] w fun e w' => e = .returned (.tuple #[G64 (pU s), .nilIface]) ∧ Below w.heap.size w w' := by
  refine (Any.strconv_ParseUint_10_at64_ok shelfPu14 ⟨s.toArray⟩ (by rw [bytes_size]; omega) v hp w).mono ?_
  rintro e w' ⟨rfl, hw⟩
  have hr := Lib.parseUintB_le hp
  refine ⟨by rw [pU, hp, show G64 (BitVec.ofNat 64 v) = .int .u64 v by simp only [G64, BitVec.toNat_ofNat]; congr 1; omega], ?_⟩
  rcases hw with rfl | rfl
  · exact Below.refl _ _
  · exact Lib.bytesWorld_below _ _ _
theorem uintNo (w : World) (s : List UInt8) (hs : s.length ≤ 1048576) (hn : ∀ v, Lib.parseUintB 64 s ≠ .ok v) (hT : Txt w) : Calls Tryd.prog 61 #[sV s, .int .i64 10, .int .i64 64] w fun e w' => ∃ tp q, e = .returned (.tuple #[G64 (pU s), .iface tp q]) ∧ Below w.heap.size w w' := by
  cases hp : Lib.parseUintB 64 s with
  | ok v => exact absurd hp (hn v)
  | «syntax» =>
    obtain ⟨tp, p, hv⟩ := hT.syn
    refine (Any.strconv_ParseUint_10_at64_syntax_var shelfPu14 ⟨s.toArray⟩ (by rw [bytes_size]; omega) hp tp p w hv).mono ?_
    rintro e w' ⟨N, rfl, _, _, hb⟩
    exact ⟨_, _, by rw [pU, hp]; rfl, hb⟩
  | range =>
    obtain ⟨tp, p, hv⟩ := hT.rng
    refine (Any.strconv_ParseUint_10_at64_range_var shelfPu14 ⟨s.toArray⟩ (by rw [bytes_size]; omega) hp tp p w hv).mono ?_
    rintro e w' ⟨N, rfl, _, _, hb⟩
    exact ⟨_, _, by rw [pU, hp]; rfl, hb⟩
theorem text_says : TextSays Txt where
  next := fun h hb => h.next hb
  int := fun w b hT => by
    have h1 : -9223372036854775808 ≤ b.toInt := by simpa using BitVec.le_toInt (x := b)
    have h2 : b.toInt < 9223372036854775808 := by simpa using BitVec.toInt_lt (x := b)
    refine (Any.strconv_FormatInt_10 shelfM173 b.toInt h1 (by omega) w hT.tab).mono ?_
    rintro e w' ⟨rfl, k, os, rfl⟩
    exact ⟨rfl, (below_drewN (Below.refl _ _) k).trans ((below_grow (w.drewN k) os).mono (Nat.le_of_eq rfl))⟩
  uint := fun w b hT => formatU_any b w hT
  pint := fun w s hs hT => by
    cases hp : Lib.parseIntB 64 s with
    | ok v => exact (intOk w s v hs hp).mono fun e w' h => ⟨_, h.1, h.2⟩
    | «syntax» => exact (intNo w s hs (fun v h => by rw [hp] at h; cases h) hT).mono fun e w' ⟨_, _, h, hb⟩ => ⟨_, h, hb⟩
    | range => exact (intNo w s hs (fun v h => by rw [hp] at h; cases h) hT).mono fun e w' ⟨_, _, h, hb⟩ => ⟨_, h, hb⟩
  puint := fun w s hs hT => by
    cases hp : Lib.parseUintB 64 s with
    | ok v => exact (uintOk w s v hs hp).mono fun e w' h => ⟨_, h.1, h.2⟩
    | «syntax» => exact (uintNo w s hs (fun v h => by rw [hp] at h; cases h) hT).mono fun e w' ⟨_, _, h, hb⟩ => ⟨_, h, hb⟩
    | range => exact (uintNo w s hs (fun v h => by rw [hp] at h; cases h) hT).mono fun e w' ⟨_, _, h, hb⟩ => ⟨_, h, hb⟩
  pintOk := fun w s v hs hp _ => intOk w s v hs hp
  pintNo := fun w s hs hp hT => intNo w s hs hp hT
  puintOk := fun w s v hs hp _ => uintOk w s v hs hp
  puintNo := fun w s hs hp hT => uintNo w s hs hp hT
end Go.Proofs.YtlhnjgmjkoafpaaDoor
