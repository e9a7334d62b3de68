/- Layer 11, as landed: Read: a line's beads are read, and made. -/
import Derived.Test.YtlhnjgmjkoafpaaDoorJM
import Derived.Test.YtlhnjgmjkoafpaaDoorL11Strict
import Derived.Test.YtlhnjgmjkoafpaaDoorL11Take
import Derived.Test.YtlhnjgmjkoafpaaDoorGStr
import Derived.Test.YtlhnjgmjkoafpaaDoorL11Word
import Derived.WalkMore
import Derived.Test.YtlhnjgmjkoafpaaDoorL11Ok
import Derived.Test.YtlhnjgmjkoafpaaDoorGOwn
import Derived.StillTailTactics
/- Layer 11, as landed: a reader of bytes: one, if it is next; one that must be next. -/
namespace Go.Proofs.YtlhnjgmjkoafpaaDoor
open Go.RowKit Go.Proofs.Treem
set_option maxRecDepth 100000

/-- a reader of what is left of a text, and the beads that it keeps -/
def Rd (w : World) (g : Nat) (s : List UInt8) (v : Value) : Prop := Has w g 89 #[sV s, v]
theorem Moved.put (g i : Nat) (W : World) (v : Value) : Moved g W (W.setCell ⟨g, i, none⟩ v) := ⟨rfl, rfl, rfl, by rw [World.size_setCell]; exact Nat.le_refl _, fun k _ hk => Below.heap_setCell _ _ _ k hk⟩
theorem rd_put {w : World} {g : Nat} {s : List UInt8} {v : Value} (h : Rd w g s v) (r : List UInt8) : Rd (w.setCell ⟨g, 0, none⟩ (sV r)) g r v := by
  have k := Has.set h 0 (sV r)
  rw [show (#[sV s, v] : Array Value).setIfInBounds 0 (sV r) = #[sV r, v] by simp] at k
  exact k
theorem is_no (c : UInt8) (w : World) (g : Nat) (s : List UInt8) (v : Value) (h : Rd w g s v) (hn : byteT c s = none) :
    Calls Tryd.prog 70 #[.pointer (some ⟨g, 0, none⟩), .int .u8 (c.toNat : Int)] w fun e w' => e = .returned (.bool false) ∧ w = w' := by
  have y0 : w.cell? ⟨g, 0, none⟩ = some (sV s) := Has.cell h 0
  clear h
  rcases list_or s with hs | ⟨x, r, hs⟩
  · have ne : s.isEmpty = true := by rw [hs]; rfl
    clear hn hs
    go_enter Tryd.func70, Tryd.ntmps70
    go_wp2
    go_ret
    exact ⟨rfl, rfl⟩
  · have F : Front s x r := ⟨hs⟩
    have hat := F.at Tryd.prog Tryd.underlying9
    have ne : s.isEmpty = false := by rw [hs]; rfl
    have hx : ¬ x = c := fun e => by rw [hs, byteT, if_pos e] at hn; cases hn
    have e1 := byte_ne hx
    have e2 : ((x.toNat : Int) != (c.toNat : Int)) = true := by rw [bne, e1]; rfl
    clear hn hs hx F
    go_enter Tryd.func70, Tryd.ntmps70
    go_wp2
    go_ret
    exact ⟨rfl, rfl⟩
theorem is_yes (c : UInt8) (w : World) (g : Nat) (s r : List UInt8) (v : Value) (h : Rd w g s v) (hn : byteT c s = some r) :
    Calls Tryd.prog 70 #[.pointer (some ⟨g, 0, none⟩), .int .u8 (c.toNat : Int)] w fun e w' => e = .returned (.bool true) ∧ Moved g w w' ∧ Rd w' g r v := by
  have y0 : w.cell? ⟨g, 0, none⟩ = some (sV s) := Has.cell h 0
  have f0 : w.frozen? ⟨g, 0, none⟩ = false := Has.free h 0
  have hs := byteT_some hn
  have F : Front s c r := ⟨hs⟩
  have hat := F.at Tryd.prog Tryd.underlying9
  have cut := F.from Tryd.prog Tryd.underlying9 0 (Nat.zero_le _) 1 rfl
  rw [List.drop_zero] at cut
  have ne : s.isEmpty = false := by rw [hs]; rfl
  have e1 : ((c.toNat : Int) == (c.toNat : Int)) = true := beq_self_eq_true _
  have e2 : ((c.toNat : Int) != (c.toNat : Int)) = false := by rw [bne, e1]; rfl
  have hh := Lib.hid h
  clear hn hs F h
  go_enter Tryd.func70, Tryd.ntmps70
  go_wp2
  go_ret
  exact ⟨rfl, Moved.put g 0 w _, rd_put hh.out r⟩
/-- a byte that was read, or thrown at -/
def Must (g : Nat) (v : Value) (w : World) : Option (List UInt8) → Ending → World → Prop
  | some r, e, w' => e = .returned (.tuple #[]) ∧ Moved g w w' ∧ Rd w' g r v
  | none, e, w' => e = thrown ∧ Moved g w w'
theorem must_any (c : UInt8) (w : World) (g : Nat) (s : List UInt8) (v : Value) (h : Rd w g s v) :
    Calls Tryd.prog 71 #[.pointer (some ⟨g, 0, none⟩), .int .u8 (c.toNat : Int)] w (Must g v w (byteT c s)) := by
  cases hb : byteT c s with
  | none =>
    have cN := Lib.hid (is_no c w g s v h hb)
    clear h hb
    go_enter Tryd.func71, Tryd.ntmps71
    go_wp2_with fail
    refine cN.out.mono ?_
    rintro e w1 ⟨rfl, rfl⟩
    go_wp2_with fail
    exact ⟨rfl, rfl, Moved.refl _ _⟩
  | some r =>
    have cN := Lib.hid (is_yes c w g s r v h hb)
    clear h hb
    go_enter Tryd.func71, Tryd.ntmps71
    go_wp2_with fail
    refine cN.out.mono ?_
    rintro e w1 ⟨rfl, hm, hr⟩
    have M := Lib.hid hm
    have R := Lib.hid hr
    clear hm hr
    go_wp2_with fail
    go_end0
    exact ⟨rfl, M.out, R.out⟩
end Go.Proofs.YtlhnjgmjkoafpaaDoor
/- Layer 11, as landed: a numeral's bytes, up to a label. -/
namespace Go.Proofs.YtlhnjgmjkoafpaaDoor
open Go.RowKit Go.Proofs.Treem
set_option maxRecDepth 100000

/-- what was read of a numeral, and what is left -/
def Digs (w : World) (g : Nat) (s : List UInt8) (v : Value) (e : Ending) (w' : World) : Prop := e = .returned (sV (wordL s)) ∧ Moved g w w' ∧ Rd w' g (s.drop (wordL s).length) v
theorem digs_end {w : World} {g k : Nat} {s : List UInt8} {v : Value} (hw : wordL s = s.take k) (hk : k ≤ s.length) (h : Rd w g s v) : Digs w g s v (.returned (sV (s.take k))) (w.setCell ⟨g, 0, none⟩ (sV (s.drop k))) := by
  refine ⟨by rw [hw], Moved.put g 0 w _, ?_⟩
  have e : (wordL s).length = k := by rw [hw, List.length_take, Nat.min_eq_left hk]
  rw [e]
  exact rd_put h _
set_option maxHeartbeats 4000000 in
theorem digits_any (w : World) (g : Nat) (s : List UInt8) (v : Value) (hs : s.length ≤ 1048576) (h : Rd w g s v) :
    Calls Tryd.prog 82 #[.pointer (some ⟨g, 0, none⟩)] w (Digs w g s v) := by
  obtain ⟨n, hn⟩ : ∃ n, s.length = n := ⟨_, rfl⟩
  have hlen : (⟨s.toArray⟩ : ByteArray).size = n := by rw [← hn]; exact List.size_toArray
  have hn' := Lib.hid hn
  have H := Lib.hid h
  have y0 : w.cell? ⟨g, 0, none⟩ = some (sV s) := Has.cell h 0
  have f0 : w.frozen? ⟨g, 0, none⟩ = false := Has.free h 0
  rw [hn] at hs
  clear h hn
  go_enter Tryd.func82, Tryd.ntmps82
  go_wp2
  go_step3
  go_wp2
  go_step3
  go_wp2
  go_loop [3] (fun i => ∃ k : Nat, k ≤ n ∧ i = .int .i64 k ∧ ∀ c ∈ s.take k, isW c = true) (fun i => n - (intOf i).toNat)
  case atStart => exact ⟨0, Nat.zero_le _, rfl, by simp⟩
  case round =>
    obtain ⟨k, hk, rfl, hw⟩ := hrel
    have hw' := Lib.hid hw
    clear hw
    have cut := str_to (P := Tryd.prog) Tryd.underlying9 s k (by rw [hn'.out]; exact hk) k rfl
    have cut2 := str_from (P := Tryd.prog) Tryd.underlying9 s k (by rw [hn'.out]; exact hk) k rfl
    have hks : Hid (k ≤ s.length) := by show k ≤ s.length; rw [hn'.out]; exact hk
    by_cases hlt : k < n
    · have hkl : k < s.length := by rw [hn'.out]; exact hlt
      have hat := str_at (P := Tryd.prog) Tryd.underlying9 s k hkl k rfl
      obtain ⟨c, hc⟩ : ∃ c, s[k] = c := ⟨_, rfl⟩
      rw [hc] at hat
      have hc' := Lib.hid hc
      clear hc
      have d1 : decide ((k : Int) < (n : Int)) = true := decide_eq_true (by omega)
      have hnx : Hid (isW c = true → ∀ c' ∈ s.take (k + 1), isW c' = true) := fun h c' hc => by
        rw [List.take_succ_eq_append_getElem hkl, List.mem_append] at hc
        rcases hc with hc | hc
        · exact hw'.out c' hc
        · rw [List.mem_singleton.1 hc, hc'.out]; exact h
      have hstop : Hid (isW c = false → wordL s = s.take k) := fun h => word_take s k (by omega) hw'.out (.inr ⟨hkl, by rw [hc'.out]; exact h⟩)
      by_cases h1 : c.toNat = 45
      · have e1 : ((c.toNat : Int) == 45) = true := by rw [h1]; rfl
        go_wp2
        go_round
        case rel => exact ⟨k + 1, by omega, by go_num, hnx.out (by simp only [isW, Bool.or_eq_true, beq_iff_eq, Bool.and_eq_true, decide_eq_true_eq]; exact .inl (UInt8.toNat_inj.1 h1))⟩
        case measure => simp [intOf]; omega
      · have e1 : ((c.toNat : Int) == 45) = false := by rw [beq_eq_false_iff_ne]; omega
        by_cases h2 : 48 ≤ c.toNat
        · have e2 : decide ((48 : Int) ≤ (c.toNat : Int)) = true := decide_eq_true (by omega)
          by_cases h3 : c.toNat ≤ 57
          · have e3 : decide ((c.toNat : Int) ≤ 57) = true := decide_eq_true (by omega)
            go_wp2
            go_round
            case rel => exact ⟨k + 1, by omega, by go_num, hnx.out (by simp only [isW, Bool.or_eq_true, beq_iff_eq, Bool.and_eq_true, decide_eq_true_eq]; exact .inr ⟨h2, h3⟩)⟩
            case measure => simp [intOf]; omega
          · have e3 : decide ((c.toNat : Int) ≤ 57) = false := decide_eq_false (by omega)
            have hw := hstop.out (by simp only [isW, Bool.or_eq_false_iff, Bool.and_eq_false_iff, decide_eq_false_iff_not]; exact ⟨by rw [beq_eq_false_iff_ne]; exact fun e => h1 (by rw [e]; rfl), by omega⟩)
            have HWd := Lib.hid hw
            clear hw
            go_wp2
            try rw [Exit.noGoto_ret]
            go_ret
            exact digs_end HWd.out hks.out H.out
        · have e2 : decide ((48 : Int) ≤ (c.toNat : Int)) = false := decide_eq_false (by omega)
          have hw := hstop.out (by simp only [isW, Bool.or_eq_false_iff, Bool.and_eq_false_iff, decide_eq_false_iff_not]; exact ⟨by rw [beq_eq_false_iff_ne]; exact fun e => h1 (by rw [e]; rfl), by omega⟩)
          have HWd := Lib.hid hw
          clear hw
          go_wp2
          try rw [Exit.noGoto_ret]
          go_ret
          exact digs_end HWd.out hks.out H.out
    · obtain rfl : k = n := by omega
      have hall : Hid (wordL s = s.take k) := word_take s k (by rw [hn'.out]; exact Nat.le_refl _) hw'.out (.inl hn'.out.symm)
      have d1 : decide ((k : Int) < (k : Int)) = false := decide_eq_false (by omega)
      go_wp2
      try rw [Exit.noGoto_ret]
      go_ret
      exact digs_end hall.out hks.out H.out
end Go.Proofs.YtlhnjgmjkoafpaaDoor
/- Layer 11, as landed: a number, a tag, read as their numerals are written. -/
namespace Go.Proofs.YtlhnjgmjkoafpaaDoor
open Go.RowKit Go.Proofs.Treem
set_option maxRecDepth 100000
variable {T : World → Prop}

/-- a number read, and what is left behind it; or that something was thrown -/
def NumStep (V : BitVec 64 → Value) (v : Value) (g : Nat) (w : World) : Option (BitVec 64 × List UInt8) → Ending → World → Prop
  | some (k, r), e, w' => e = .returned (V k) ∧ Moved g w w' ∧ Rd w' g r v
  | none, e, w' => e = thrown ∧ Moved g w w'
theorem word_le (s : List UInt8) : (wordL s).length ≤ s.length := (List.takeWhile_prefix _).length_le
set_option maxHeartbeats 4000000 in
theorem number_any (hX : TextSays T) (w0 w : World) (g : Nat) (s : List UInt8) (v : Value) (hT : T w0) (hb : Below w0.heap.size w0 w) (hg : w0.heap.size ≤ g) (hs : s.length ≤ 1048576) (h : Rd w g s v) :
    Calls Tryd.prog 72 #[.pointer (some ⟨g, 0, none⟩)] w (NumStep K v g w (numT s)) := by
  have cW := Lib.hid (digits_any w g s v hs h)
  obtain ⟨N, hN⟩ : ∃ N, wordL s = N := ⟨_, rfl⟩
  have hlen : Hid (N.length ≤ 1048576) := by
    have h1 := word_le s
    rw [hN] at h1
    show N.length ≤ 1048576
    omega
  have hO : Hid (numT s = if num (pI N) = N then some (pI N, s.drop N.length) else none) := by show _ = _; rw [numT, hN]
  obtain ⟨O, hO'⟩ : ∃ O, numT s = O := ⟨_, rfl⟩
  rw [hO'] at hO ⊢
  have cW : Hid (Calls Tryd.prog 82 #[.pointer (some ⟨g, 0, none⟩)] w fun e w' => e = .returned (sV N) ∧ Moved g w w' ∧ Rd w' g (s.drop N.length) v) := by have := cW.out; unfold Digs at this; rw [hN] at this; exact this
  obtain ⟨rs, hrs⟩ : ∃ rs, s.drop N.length = rs := ⟨_, rfl⟩
  rw [hrs] at cW hO
  obtain ⟨n, hn⟩ : ∃ n, pI N = n := ⟨_, rfl⟩
  have hn' := Lib.hid hn
  have B0 := Lib.hid hb
  rw [hn] at hO
  clear hO' h hN hrs hb hn
  by_cases hok : ∃ z, Lib.parseIntB 64 N = .ok z
  · obtain ⟨z, hv⟩ := hok
    have cP : Hid (∀ W, Moved g w W → Calls Tryd.prog 60 #[sV N, .int .i64 10, .int .i64 64] W fun e w' => e = .returned (.tuple #[K n, .nilIface]) ∧ Below W.heap.size W w') := fun W m => by
      have c := hX.pintOk W N z hlen.out hv (hX.next hT (B0.out.trans (m.below hg B0.out.size)))
      rw [hn'.out] at c
      exact c
    have cF : Hid (∀ W, Moved g w W → Calls Tryd.prog 32 #[K n, .int .i64 10] W fun e w' => e = .returned (sV (num n)) ∧ Below W.heap.size W w') := fun W m => hX.int W n (hX.next hT (B0.out.trans (m.below hg B0.out.size)))
    by_cases he : num n = N
    · have hq : (num n == N) = true := beq_iff_eq.2 he
      have hO2 : Hid (O = some (n, rs)) := by show _ = _; rw [hO.out, if_pos he]
      clear he hO hv
      go_enter Tryd.func72, Tryd.ntmps72
      go_wp2_with fail
      refine cW.out.mono ?_
      rintro e w1 ⟨rfl, hm, hR⟩
      have R1 := Lib.hid hR
      have M1 := Lib.hid hm
      clear hR hm cW
      go_wp2_with fail
      refine (cP.out w1 M1.out).mono ?_
      rintro e w2 ⟨rfl, hb⟩
      have M2 := Lib.hid (M1.out.trans (Moved.of_below hb))
      have R2 := Lib.hid (Has.next R1.out hb)
      clear hb
      go_wp2_with fail
      refine (cF.out w2 M2.out).mono ?_
      rintro e w3 ⟨rfl, hb⟩
      have M3 := Lib.hid (M2.out.trans (Moved.of_below hb))
      have R3 := Lib.hid (Has.next R2.out hb)
      clear hb
      go_wp2_with fail
      go_ret
      rw [hO2.out]
      exact ⟨rfl, M3.out, R3.out⟩
    · have hq : (num n == N) = false := beq_eq_false_iff_ne.2 he
      have hO2 : Hid (O = none) := by show _ = _; rw [hO.out, if_neg he]
      clear he hO hv
      go_enter Tryd.func72, Tryd.ntmps72
      go_wp2_with fail
      refine cW.out.mono ?_
      rintro e w1 ⟨rfl, hm, hR⟩
      have M1 := Lib.hid hm
      clear hR hm cW
      go_wp2_with fail
      refine (cP.out w1 M1.out).mono ?_
      rintro e w2 ⟨rfl, hb⟩
      have M2 := Lib.hid (M1.out.trans (Moved.of_below hb))
      clear hb
      go_wp2_with fail
      refine (cF.out w2 M2.out).mono ?_
      rintro e w3 ⟨rfl, hb⟩
      have M3 := Lib.hid (M2.out.trans (Moved.of_below hb))
      clear hb
      go_wp2_with fail
      refine ⟨rfl, ?_⟩
      rw [hO2.out]
      exact ⟨rfl, M3.out⟩
  · have hno : ∀ z, Lib.parseIntB 64 N ≠ .ok z := fun z hv => hok ⟨z, hv⟩
    have cP : Hid (∀ W, Moved g w W → Calls Tryd.prog 60 #[sV N, .int .i64 10, .int .i64 64] W fun e w' => ∃ tp q, e = .returned (.tuple #[K n, .iface tp q]) ∧ Below W.heap.size W w') := fun W m => by
      have c := hX.pintNo W N hlen.out hno (hX.next hT (B0.out.trans (m.below hg B0.out.size)))
      rw [hn'.out] at c
      exact c
    have hO2 : Hid (O = none) := by
      show _ = _
      rw [hO.out, if_neg]
      intro he
      have h1 : -9223372036854775808 ≤ n.toInt := by simpa using BitVec.le_toInt (x := n)
      have h2 : n.toInt < 9223372036854775808 := by simpa using BitVec.toInt_lt (x := n)
      exact hno n.toInt (by rw [← he]; exact parseI_num n.toInt h1 (by omega))
    clear hO hno hok
    go_enter Tryd.func72, Tryd.ntmps72
    go_wp2_with fail
    refine cW.out.mono ?_
    rintro e w1 ⟨rfl, hm, hR⟩
    have M1 := Lib.hid hm
    clear hR hm cW
    go_wp2_with fail
    refine (cP.out w1 M1.out).mono ?_
    rintro e w2 ⟨tp, q, rfl, hb⟩
    have M2 := Lib.hid (M1.out.trans (Moved.of_below hb))
    clear hb
    go_wp2_with fail
    refine ⟨rfl, ?_⟩
    rw [hO2.out]
    exact ⟨rfl, M2.out⟩
end Go.Proofs.YtlhnjgmjkoafpaaDoor
/- Layer 11, as landed: a tag. -/
namespace Go.Proofs.YtlhnjgmjkoafpaaDoor
open Go.RowKit Go.Proofs.Treem
set_option maxRecDepth 100000
variable {T : World → Prop}

theorem tagT_no {s : List UInt8} (h : byteT 35 s = none) : tagT s = some (0#64, s) := by
  cases s with
  | nil => rfl
  | cons x r =>
    rw [byteT] at h
    split at h
    · cases h
    · rename_i e
      rw [tagT, if_neg e]
theorem tagT_yes {s r : List UInt8} (h : byteT 35 s = some r) : tagT s = if unum (pU (wordL r)) = wordL r ∧ pU (wordL r) ≠ 0#64 then some (pU (wordL r), r.drop (wordL r).length) else none := by
  rw [byteT_some h, tagT, if_pos rfl]
theorem tag_zero (w : World) (g : Nat) (s : List UInt8) (v : Value) (h : Rd w g s v) (hb : byteT 35 s = none) :
    Calls Tryd.prog 73 #[.pointer (some ⟨g, 0, none⟩)] w (NumStep G64 v g w (some (0#64, s))) := by
  have cN := Lib.hid (is_no 35 w g s v h hb)
  have H := Lib.hid h
  clear h hb
  go_enter Tryd.func73, Tryd.ntmps73
  go_wp2_with fail
  refine cN.out.mono ?_
  rintro e w1 ⟨rfl, rfl⟩
  go_wp2_with fail
  go_ret
  exact ⟨rfl, Moved.refl _ _, H.out⟩
set_option maxHeartbeats 4000000 in
theorem tag_any (hX : TextSays T) (w0 w : World) (g : Nat) (s : List UInt8) (v : Value) (hT : T w0) (hb : Below w0.heap.size w0 w) (hg : w0.heap.size ≤ g) (hs : s.length ≤ 1048576) (h : Rd w g s v) :
    Calls Tryd.prog 73 #[.pointer (some ⟨g, 0, none⟩)] w (NumStep G64 v g w (tagT s)) := by
  cases hbt : byteT 35 s with
  | none =>
    rw [tagT_no hbt]
    exact tag_zero w g s v h hbt
  | some r =>
    have cI := Lib.hid (is_yes 35 w g s r v h hbt)
    have hrl : r.length ≤ 1048576 := by
      have := byteT_some hbt
      rw [this, List.length_cons] at hs; omega
    have cW : Hid (∀ w1, Rd w1 g r v → Calls Tryd.prog 82 #[.pointer (some ⟨g, 0, none⟩)] w1 (Digs w1 g r v)) := fun w1 h1 => digits_any w1 g r v hrl h1
    rw [tagT_yes hbt]
    obtain ⟨N, hN⟩ : ∃ N, wordL r = N := ⟨_, rfl⟩
    have hlen : Hid (N.length ≤ 1048576) := by
      have h1 := word_le r
      rw [hN] at h1
      show N.length ≤ 1048576
      omega
    rw [hN]
    obtain ⟨rs, hrs⟩ : ∃ rs, r.drop N.length = rs := ⟨_, rfl⟩
    rw [hrs]
    obtain ⟨n, hn⟩ : ∃ n, pU N = n := ⟨_, rfl⟩
    rw [hn]
    have hn' := Lib.hid hn
    have B0 := Lib.hid hb
    have cW2 : Hid (∀ w1, Rd w1 g r v → Calls Tryd.prog 82 #[.pointer (some ⟨g, 0, none⟩)] w1 fun e w' => e = .returned (sV N) ∧ Moved g w1 w' ∧ Rd w' g rs v) := fun w1 h1 => by
      have := cW.out w1 h1
      unfold Digs at this
      rw [hN, hrs] at this
      exact this
    obtain ⟨O, hO'⟩ : ∃ O, (if unum n = N ∧ n ≠ 0#64 then some (n, rs) else none) = O := ⟨_, rfl⟩
    rw [hO']
    have hO := Lib.hid hO'
    clear hO' h hN hrs hb hn cW hbt hs hrl
    by_cases hok : ∃ z, Lib.parseUintB 64 N = .ok z
    · obtain ⟨z, hv⟩ := hok
      have cP : Hid (∀ W, Moved g w W → Calls Tryd.prog 61 #[sV N, .int .i64 10, .int .i64 64] W fun e w' => e = .returned (.tuple #[G64 n, .nilIface]) ∧ Below W.heap.size W w') := fun W m => by
        have c := hX.puintOk W N z hlen.out hv (hX.next hT (B0.out.trans (m.below hg B0.out.size)))
        rw [hn'.out] at c
        exact c
      have cF : Hid (∀ W, Moved g w W → Calls Tryd.prog 33 #[G64 n, .int .i64 10] W fun e w' => e = .returned (sV (unum n)) ∧ Below W.heap.size W w') := fun W m => hX.uint W n (hX.next hT (B0.out.trans (m.below hg B0.out.size)))
      clear hv
      by_cases hz : n = 0#64
      · have hO2 : Hid (O = none) := by show _ = _; rw [← hO.out, if_neg (fun h => h.2 hz)]
        have d0 : (((n.toNat : Nat) : Int) == 0) = true := by rw [hz]; rfl
        clear hO hz
        go_enter Tryd.func73, Tryd.ntmps73
        go_wp2_with fail
        refine cI.out.mono ?_
        rintro e w1 ⟨rfl, hm, hR⟩
        have M1 := Lib.hid hm
        have R1 := Lib.hid hR
        clear hR hm cI
        go_wp2_with fail
        refine (cW2.out w1 R1.out).mono ?_
        rintro e w2 ⟨rfl, hm, hR⟩
        have M2 := Lib.hid (M1.out.trans hm)
        clear hR hm cW2
        go_wp2_with fail
        refine (cP.out w2 M2.out).mono ?_
        rintro e w3 ⟨rfl, hb⟩
        have M3 := Lib.hid (M2.out.trans (Moved.of_below hb))
        clear hb
        go_wp2_with fail
        refine ⟨rfl, ?_⟩
        rw [hO2.out]
        exact ⟨rfl, M3.out⟩
      · have d0 : (((n.toNat : Nat) : Int) == 0) = false := beq_eq_false_iff_ne.2 fun e => hz (BitVec.eq_of_toNat_eq ((by omega : n.toNat = 0).trans rfl))
        by_cases he : unum n = N
        · have hq : (unum n == N) = true := beq_iff_eq.2 he
          have hO2 : Hid (O = some (n, rs)) := by show _ = _; rw [← hO.out, if_pos ⟨he, hz⟩]
          clear he hO hz
          go_enter Tryd.func73, Tryd.ntmps73
          go_wp2_with fail
          refine cI.out.mono ?_
          rintro e w1 ⟨rfl, hm, hR⟩
          have M1 := Lib.hid hm
          have R1 := Lib.hid hR
          clear hR hm cI
          go_wp2_with fail
          refine (cW2.out w1 R1.out).mono ?_
          rintro e w2 ⟨rfl, hm, hR⟩
          have M2 := Lib.hid (M1.out.trans hm)
          have R2 := Lib.hid hR
          clear hR hm cW2
          go_wp2_with fail
          refine (cP.out w2 M2.out).mono ?_
          rintro e w3 ⟨rfl, hb⟩
          have M3 := Lib.hid (M2.out.trans (Moved.of_below hb))
          have R3 := Lib.hid (Has.next R2.out hb)
          clear hb
          go_wp2_with fail
          refine (cF.out w3 M3.out).mono ?_
          rintro e w4 ⟨rfl, hb⟩
          have M4 := Lib.hid (M3.out.trans (Moved.of_below hb))
          have R4 := Lib.hid (Has.next R3.out hb)
          clear hb
          go_wp2_with fail
          go_ret
          rw [hO2.out]
          exact ⟨rfl, M4.out, R4.out⟩
        · have hq : (unum n == N) = false := beq_eq_false_iff_ne.2 he
          have hO2 : Hid (O = none) := by show _ = _; rw [← hO.out, if_neg (fun h => he h.1)]
          clear he hO hz
          go_enter Tryd.func73, Tryd.ntmps73
          go_wp2_with fail
          refine cI.out.mono ?_
          rintro e w1 ⟨rfl, hm, hR⟩
          have M1 := Lib.hid hm
          have R1 := Lib.hid hR
          clear hR hm cI
          go_wp2_with fail
          refine (cW2.out w1 R1.out).mono ?_
          rintro e w2 ⟨rfl, hm, hR⟩
          have M2 := Lib.hid (M1.out.trans hm)
          clear hR hm cW2
          go_wp2_with fail
          refine (cP.out w2 M2.out).mono ?_
          rintro e w3 ⟨rfl, hb⟩
          have M3 := Lib.hid (M2.out.trans (Moved.of_below hb))
          clear hb
          go_wp2_with fail
          refine (cF.out w3 M3.out).mono ?_
          rintro e w4 ⟨rfl, hb⟩
          have M4 := Lib.hid (M3.out.trans (Moved.of_below hb))
          clear hb
          go_wp2_with fail
          refine ⟨rfl, ?_⟩
          rw [hO2.out]
          exact ⟨rfl, M4.out⟩
    · have hno : ∀ z, Lib.parseUintB 64 N ≠ .ok z := fun z hv => hok ⟨z, hv⟩
      have cP : Hid (∀ W, Moved g w W → Calls Tryd.prog 61 #[sV N, .int .i64 10, .int .i64 64] W fun e w' => ∃ tp q, e = .returned (.tuple #[G64 n, .iface tp q]) ∧ Below W.heap.size W w') := fun W m => by
        have c := hX.puintNo W N hlen.out hno (hX.next hT (B0.out.trans (m.below hg B0.out.size)))
        rw [hn'.out] at c
        exact c
      have hO2 : Hid (O = none) := by
        show _ = _
        rw [← hO.out, if_neg]
        rintro ⟨he, _⟩
        exact hno n.toNat (by rw [← he, unum]; exact parseU_dec n.toNat (by have := n.isLt; omega))
      clear hO hno hok
      go_enter Tryd.func73, Tryd.ntmps73
      go_wp2_with fail
      refine cI.out.mono ?_
      rintro e w1 ⟨rfl, hm, hR⟩
      have M1 := Lib.hid hm
      have R1 := Lib.hid hR
      clear hR hm cI
      go_wp2_with fail
      refine (cW2.out w1 R1.out).mono ?_
      rintro e w2 ⟨rfl, hm, hR⟩
      have M2 := Lib.hid (M1.out.trans hm)
      clear hR hm cW2
      go_wp2_with fail
      refine (cP.out w2 M2.out).mono ?_
      rintro e w3 ⟨tp, q, rfl, hb⟩
      have M3 := Lib.hid (M2.out.trans (Moved.of_below hb))
      clear hb
      go_wp2_with fail
      refine ⟨rfl, ?_⟩
      rw [hO2.out]
      exact ⟨rfl, M3.out⟩
end Go.Proofs.YtlhnjgmjkoafpaaDoor
/- Layer 11, as landed: what reading a tree keeps: the reader, its row of beads, and a box may turn, nothing else that lay. -/
namespace Go.Proofs.Treem
/-- the beads of a tree, that say nothing of Size and Sum -/
def Tr.plain : Tr → List Bd
  | .e => []
  | .n l k v g r => ⟨k, v, 0#64, 0#64, g, l.is, r.is⟩ :: (l.plain ++ r.plain)
theorem plain_len : ∀ t : Tr, t.plain.length = t.size
  | .e => rfl
  | .n l k v g r => by simp only [Tr.plain, Tr.size, List.length_cons, List.length_append, plain_len l, plain_len r]; omega
theorem plain_strip : ∀ t : Tr, t.plain.map strip = t.pre
  | .e => rfl
  | .n l k v g r => by simp only [Tr.plain, Tr.pre, List.map_cons, List.map_append, plain_strip l, plain_strip r]; rfl
end Go.Proofs.Treem
namespace Go.Proofs.YtlhnjgmjkoafpaaDoor
open Go.RowKit Go.Proofs.Treem
set_option maxRecDepth 100000

/-- all that lay but the reader, and its row, is as it was -/
structure Went (g : Nat) (v : Value) (w : World) (v' : Value) (w' : World) : Prop where
  os : w'.os = w.os
  tape : w'.tape = w.tape
  output : w'.output = w.output
  size : w.heap.size ≤ w'.heap.size
  block : ∀ k, k < w.heap.size → k ≠ g → some k ≠ v.ownBlock → w'.heap[k]? = w.heap[k]?
  own : v'.ownBlock = v.ownBlock ∨ ∀ k, v'.ownBlock = some k → w.heap.size ≤ k
section
variable {g B : Nat} {v v' v'' : Value} {w w' w'' : World}
theorem Went.refl (g : Nat) (v : Value) (w : World) : Went g v w v w := ⟨rfl, rfl, rfl, Nat.le_refl _, fun _ _ _ _ => rfl, .inl rfl⟩
theorem Went.trans (h : Went g v w v' w') (k : Went g v' w' v'' w'') : Went g v w v'' w'' := by
  refine ⟨k.os.trans h.os, k.tape.trans h.tape, k.output.trans h.output, Nat.le_trans h.size k.size, fun i hi hg hv => (k.block i (Nat.lt_of_lt_of_le hi h.size) hg (fun e => ?_)).trans (h.block i hi hg hv), ?_⟩
  · rcases h.own with ho | ho
    · exact hv (e.trans ho)
    · have := ho i e.symm; omega
  · rcases k.own with ko | ko
    · rcases h.own with ho | ho
      · exact .inl (ko.trans ho)
      · exact .inr fun i hi => ho i (ko ▸ hi)
    · exact .inr fun i hi => Nat.le_trans h.size (ko i hi)
theorem Went.of_moved (h : Moved g w w') (v : Value) : Went g v w v w' := ⟨h.os, h.tape, h.output, h.size, fun k hk hg _ => h.block k hk hg, .inl rfl⟩
theorem Went.of_below (h : Below w.heap.size w w') (v : Value) : Went g v w v w' := ⟨h.os, h.tape, h.output, h.size, fun k hk _ _ => h.block k hk, .inl rfl⟩
theorem Went.grown (h : w.grownBy w' v.ownBlock) (ho : v'.ownBlock = v.ownBlock ∨ ∀ k, v'.ownBlock = some k → w.heap.size ≤ k) : Went g v w v' w' :=
  ⟨h.os, h.tape, h.output, h.size, fun k hk _ hv => h.block k hk hv, ho⟩
theorem Went.below (h : Went g v w v' w') (hg : B ≤ g) (hv : ∀ k, v.ownBlock = some k → B ≤ k) (hB : B ≤ w.heap.size) : Below B w w' :=
  ⟨h.os, h.tape, h.output, h.size, fun k hk => h.block k (Nat.lt_of_lt_of_le hk hB) (by omega) (fun e => by have := hv k e.symm; omega)⟩
/-- a store to a block that was made since, or to the row's own -/
theorem Went.put (h : Went g v w v' w') (p : Addr) (u : Value) (hp : w.heap.size ≤ p.block ∨ some p.block = v.ownBlock) : Went g v w v' (w'.setCell p u) := by
  refine ⟨h.os, h.tape, h.output, by rw [World.size_setCell]; exact h.size, fun k hk hg hv => (Below.heap_setCell _ _ _ k (fun e => ?_)).trans (h.block k hk hg hv), h.own⟩
  rcases hp with hp | hp
  · omega
  · exact hv (by rw [e]; exact hp)
theorem Went.drew (h : Went g v w v' w') : Went g v w v' w'.drew := ⟨h.os, h.tape, h.output, h.size, h.block, h.own⟩
theorem Went.has (h : Went g v w v' w') {b : Nat} {t : TypeId} {cs : Array Value} (hh : Has w b t cs) (hb : b ≠ g) (hv : some b ≠ v.ownBlock) : Has w' b t cs := (h.block b hh.lt hb hv).trans hh
theorem has_not_own {w : World} {b : Nat} {t e : TypeId} {cs : Array Value} (h : Has w b t cs) (hte : t ≠ e) {base size k : Nat} {v : Value} {xs : List Value} (hr : w.ownsRow base e size v k xs) : some b ≠ v.ownBlock := by
  rcases hr.2 with ⟨rfl, _⟩ | ⟨g', cap, cur, rfl, _, hgb, _⟩
  · simp [Value.ownBlock]
  · intro e'
    obtain rfl : b = g' := by simpa [Value.ownBlock] using e'
    have := (show w.heap[b]? = _ from h).symm.trans hgb
    simp at this
    exact hte this.2
theorem own_at {w w' : World} {base size n : Nat} {e : TypeId} {v : Value} {xs : List Value} (h : w.ownsRow base e size v n xs) (hk : ∀ k, v.ownBlock = some k → w'.heap[k]? = w.heap[k]?) : w'.ownsRow base e size v n xs := by
  refine ⟨h.1, ?_⟩
  rcases h.2 with hn | ⟨g, cap, cur, rfl, hb, hgg, rest⟩
  · exact .inl hn
  · exact .inr ⟨g, cap, cur, rfl, hb, (hk g rfl).trans hgg, rest⟩
theorem own_moved {base size n : Nat} {e : TypeId} {xs : List Value} {cs : Array Value} {t : TypeId} (h : w.ownsRow base e size v n xs) (hg : Has w g t cs) (hte : t ≠ e) (hm : Moved g w w') : w'.ownsRow base e size v n xs :=
  own_at h fun k hk => hm.block k (h.lt k hk).2 (fun e' => has_not_own hg hte h (by rw [hk, e']))
theorem own_far {base size n : Nat} {e : TypeId} {xs : List Value} (h : w.ownsRow base e size v n xs) (p : Addr) (u : Value) (hp : some p.block ≠ v.ownBlock) : (w.setCell p u).ownsRow base e size v n xs :=
  own_at h fun k hk => Below.heap_setCell _ _ _ k (fun e' => hp (by rw [← e', hk]))
theorem own_put {base size n cap b i : Nat} {e : TypeId} {xs : List Value} (h : w.ownsRow base e size (.slice (some ⟨b, 0, none⟩) n cap) n xs) (u : Value) : (w.setCell ⟨b, i, none⟩ u).ownsRow base e size (.slice (some ⟨b, 0, none⟩) n cap) n (xs.set i u) := by
  obtain ⟨h1, h2⟩ := h
  refine ⟨by rw [List.length_set]; exact h1, ?_⟩
  rcases h2 with ⟨hn, _⟩ | ⟨g', cap', cur, he, hb, hg, h3, h4, h5, h6⟩
  · cases hn
  · cases he
    refine .inr ⟨b, cap, cur.setIfInBounds i u, rfl, hb, ?_, h3, h4, by rw [Array.size_setIfInBounds]; exact h5, ?_⟩
    · simp [World.setCell, Array.getElem?_modify, hg]
    · rw [Array.toList_setIfInBounds, ← h6, List.take_set]
end
/-- where reading stands: the reader, its beads, a bead that is being read, in a box -/
structure At (B g bx : Nat) (w : World) (v : Value) (wi : World) (s : List UInt8) (vi : Value) (li : List Bd) (b : Bd) : Prop where
  rd : Rd wi g s vi
  own : wi.ownsRow B 44 7 vi li.length (flat7 li)
  went : Went g v w vi wi
  box : Has wi bx 44 #[K b.key, K b.val, K b.sum, K b.size, G64 b.tag, .bool b.left, .bool b.right]
  bxg : bx ≠ g
  bxv : some bx ≠ vi.ownBlock
  new : w.heap.size ≤ bx
section
variable {B g bx : Nat} {w wi w' : World} {v vi v' : Value} {s s' : List UInt8} {li : List Bd} {b : Bd}
theorem At.moved (h : At B g bx w v wi s vi li b) (hm : Moved g wi w') (hr : Rd w' g s' vi) : At B g bx w v w' s' vi li b :=
  ⟨hr, own_moved h.own h.rd (by decide) hm, h.went.trans (.of_moved hm vi), hm.has h.box h.bxg, h.bxg, h.bxv, h.new⟩
theorem At.tree (h : At B g bx w v wi s vi li b) {l' : List Bd} (hr : Rd w' g s' v') (ho : w'.ownsRow B 44 7 v' l'.length (flat7 l')) (hw : Went g vi wi v' w') : At B g bx w v w' s' v' l' b := by
  refine ⟨hr, ho, h.went.trans hw, hw.has h.box h.bxg h.bxv, h.bxg, fun e => ?_, h.new⟩
  rcases hw.own with ho | ho
  · exact h.bxv (e.trans ho)
  · have := ho bx e.symm
    have := h.box.lt
    omega
theorem At.put (h : At B g bx w v wi s vi li b) (i : Nat) (u : Value) {b' : Bd} (hb : (#[K b.key, K b.val, K b.sum, K b.size, G64 b.tag, .bool b.left, .bool b.right] : Array Value).setIfInBounds i u = #[K b'.key, K b'.val, K b'.sum, K b'.size, G64 b'.tag, .bool b'.left, .bool b'.right]) : At B g bx w v (wi.setCell ⟨bx, i, none⟩ u) s vi li b' :=
  ⟨Has.far h.rd (p := ⟨bx, i, none⟩) (fun e => h.bxg e.symm) u, own_far h.own ⟨bx, i, none⟩ u h.bxv, h.went.put ⟨bx, i, none⟩ u (.inl h.new), hb ▸ h.box.set i u, h.bxg, h.bxv, h.new⟩
end
end Go.Proofs.YtlhnjgmjkoafpaaDoor
/- Layer 11, as landed (gen/layer11tree.py): a tree's line is read, byte by byte, or something is thrown. -/
namespace Go.Proofs.Treem
def q9 (a : Tr) (k v g : BitVec 64) (b : Tr) (s : List UInt8) : Option (Tr × List UInt8) := (byteT 41 s).bind fun s9 => some (.n a k v g b, s9)
def q8 (d : Nat) (a : Tr) (k v g : BitVec 64) (s : List UInt8) : Option (Tr × List UInt8) := (sp d s).bind fun (b, s8) => q9 a k v g b s8
def q7 (d : Nat) (a : Tr) (k v g : BitVec 64) (s : List UInt8) : Option (Tr × List UInt8) := (byteT 32 s).bind fun s7 => q8 d a k v g s7
def q6 (d : Nat) (a : Tr) (k v : BitVec 64) (s : List UInt8) : Option (Tr × List UInt8) := (tagT s).bind fun (g, s6) => q7 d a k v g s6
def q5 (d : Nat) (a : Tr) (k : BitVec 64) (s : List UInt8) : Option (Tr × List UInt8) := (numT s).bind fun (v, s5) => q6 d a k v s5
def q4 (d : Nat) (a : Tr) (k : BitVec 64) (s : List UInt8) : Option (Tr × List UInt8) := (byteT 58 s).bind fun s4 => q5 d a k s4
def q3 (d : Nat) (a : Tr) (s : List UInt8) : Option (Tr × List UInt8) := (numT s).bind fun (k, s3) => q4 d a k s3
def q2 (d : Nat) (a : Tr) (s : List UInt8) : Option (Tr × List UInt8) := (byteT 32 s).bind fun s2 => q3 d a s2
def q1 (d : Nat) (s : List UInt8) : Option (Tr × List UInt8) := (sp d s).bind fun (a, s1) => q2 d a s1
theorem sp_open (d : Nat) (s : List UInt8) : sp (d + 1) (40 :: s) = q1 d s := by rw [sp, if_neg (by decide), if_pos rfl]; rfl
theorem sp_dot (d : Nat) (s : List UInt8) : sp d (46 :: s) = some (.e, s) := by cases d <;> (rw [sp, if_pos rfl])
theorem sp_zero (s : List UInt8) : sp 0 (40 :: s) = none := by rw [sp, if_neg (by decide)]
theorem sp_none {d : Nat} {s : List UInt8} (h1 : byteT 46 s = none) (h2 : byteT 40 s = none) : sp d s = none := by
  cases s with
  | nil => cases d <;> rfl
  | cons c s =>
    have e1 : ¬ c = 46 := fun e => by rw [byteT, if_pos e] at h1; cases h1
    have e2 : ¬ c = 40 := fun e => by rw [byteT, if_pos e] at h2; cases h2
    cases d with
    | zero => rw [sp, if_neg e1]
    | succ d => rw [sp, if_neg e1, if_neg e2]
theorem len_byte {c : UInt8} {s r : List UInt8} (h : byteT c s = some r) : s.length = r.length + 1 := by rw [byteT_some h]; rfl
theorem len_num {s r : List UInt8} {k : BitVec 64} (h : numT s = some (k, r)) : r.length ≤ s.length := by rw [numT_some h, List.length_append]; omega
theorem len_tag {s r : List UInt8} {g : BitVec 64} (h : tagT s = some (g, r)) : r.length ≤ s.length := by rw [tagT_some h, List.length_append]; omega
end Go.Proofs.Treem
namespace Go.Proofs.YtlhnjgmjkoafpaaDoor
open Go.RowKit Go.Proofs.Treem
set_option maxRecDepth 100000
variable {T : World → Prop}

theorem len_sp {d : Nat} {s r : List UInt8} {t : Tr} (h : sp d s = some (t, r)) : t.size + r.length ≤ s.length := by
  have h1 := (sp_some d s t r h).1
  have h2 := line_more t
  rw [h1, List.length_append]; omega
abbrev zb : Bd := ⟨0#64, 0#64, 0#64, 0#64, 0#64, false, false⟩
/-- a tree that was read, and its beads, and what is left; or that something was thrown -/
def TGot (B g : Nat) (v : Value) (w : World) (l : List Bd) : Option (Tr × List UInt8) → Ending → World → Prop
  | some (t, r), e, w' => ∃ v', e = .returned (.bool t.is) ∧ Rd w' g r v' ∧ w'.ownsRow B 44 7 v' (l ++ t.plain).length (flat7 (l ++ t.plain)) ∧ Went g v w v' w'
  | none, e, w' => e = thrown ∧ ∃ v', Went g v w v' w'
theorem At.below {B g bx : Nat} {w wi w0 : World} {v vi : Value} {s : List UInt8} {li : List Bd} {b : Bd} (h : At B g bx w v wi s vi li b) (hg : B ≤ g) (hv : ∀ k, v.ownBlock = some k → B ≤ k) (hb : Below B w0 w) (hB : B ≤ w.heap.size) : Below B w0 wi := hb.trans (h.went.below hg hv hB)
theorem rd_grown {B g n : Nat} {w1 w3 : World} {v : Value} {s : List UInt8} {xs : List Value} {o : Obj} (r1 : Rd w1 g s v) (o1 : w1.ownsRow B 44 7 v n xs) (hg : (w1.alloc o).grownBy w3 v.ownBlock) : Rd w3 g s v := by
  have r2 : Rd (w1.alloc o) g s v := Has.alloc r1 o
  exact (hg.block g (Has.lt r2) (has_not_own r1 (by decide) o1)).trans r2
/-- the box of a bead, and its place in the row, are made -/
theorem at_start {B g n : Nat} {w w1 w3 : World} {v v3 : Value} {s : List UInt8} {l : List Bd} {o : Obj} (hn : l.length = n) (r1 : Rd w1 g s v) (o1 : w1.ownsRow B 44 7 v n (flat7 l)) (wt : Went g v w v w1)
    (ho : w3.ownsRow B 44 7 v3 (n + 1) (flat7 l ++ flat7 [zb])) (hg : (w1.alloc o).grownBy w3 v.ownBlock) (hw : v3.ownBlock = v.ownBlock ∨ ∀ k, v3.ownBlock = some k → (w1.alloc o).heap.size ≤ k) :
    At B g w3.heap.size w v ((w3.setCell ⟨g, 1, none⟩ v3).alloc (.cells #[.int .i64 0, .int .i64 0, .int .i64 0, .int .i64 0, .int .u64 0, .bool false, .bool false] 44)) s v3 (l ++ [zb]) zb := by
  have r2 : Rd (w1.alloc o) g s v := Has.alloc r1 o
  have hgv : some g ≠ v.ownBlock := has_not_own r1 (by decide) o1
  have r3 : Rd w3 g s v := (hg.block g (Has.lt r2) hgv).trans r2
  have hgv3 : some g ≠ v3.ownBlock := has_not_own r3 (by decide) ho
  have e3 : Went g v w v3 w3 := (wt.trans (.of_below ((Below.refl _ w1).alloc (Nat.le_refl _) o) v)).trans (.grown hg hw)
  have e4 : Went g v w v3 (w3.setCell ⟨g, 1, none⟩ v3) := e3.trans (.of_moved (Moved.put g 1 w3 v3) v3)
  have r4 : Rd (w3.setCell ⟨g, 1, none⟩ v3) g s v3 := by
    have k := Has.set r3 1 v3
    rw [show (#[sV s, v] : Array Value).setIfInBounds 1 v3 = #[sV s, v3] by simp] at k
    exact k
  have o4 : (w3.setCell ⟨g, 1, none⟩ v3).ownsRow B 44 7 v3 (n + 1) (flat7 l ++ flat7 [zb]) := own_far ho ⟨g, 1, none⟩ v3 hgv3
  have hs : (w3.setCell ⟨g, 1, none⟩ v3).heap.size = w3.heap.size := World.size_setCell _ _ _
  refine ⟨Has.alloc r4 _, ?_, e4.trans (.of_below ((Below.refl _ _).alloc (Nat.le_refl _) _) v3), ?_, fun e => ?_, fun e => ?_, e3.size⟩
  · rw [List.length_append, hn, flat7_append]
    exact o4.alloc _
  · have := Has.new (w3.setCell ⟨g, 1, none⟩ v3) 44 #[.int .i64 0, .int .i64 0, .int .i64 0, .int .i64 0, .int .u64 0, .bool false, .bool false]
    rw [hs] at this
    exact this
  · have := Has.lt r3; omega
  · have := (ho.lt _ e.symm).2; omega
theorem own_cells {w : World} {B n cap gb : Nat} {xs : List Value} (h : w.ownsRow B 44 7 (.slice (some ⟨gb, 0, none⟩) n cap) n xs) : (∀ j, j < n * 7 → ∃ u, w.cell? ⟨gb, j, none⟩ = some u) ∧ ∀ j, w.frozen? ⟨gb, j, none⟩ = false := by
  have hl := h.1
  refine ⟨fun j hj => ?_, fun j => ?_⟩
  · rw [h.cellAt j hj]
    exact ⟨_, List.getElem?_eq_getElem (by omega)⟩
  · rcases h.2 with ⟨hn, _⟩ | ⟨g', cap', cur, he, _, hg, _⟩
    · cases hn
    · cases he
      exact frozen_of_row w gb j cur _ hg
theorem flat7_put (l : List Bd) (b c : Bd) (r : List Bd) (m : Nat) (hm : l.length = m) : ((((((((flat7 (l ++ b :: r)).set (m * 7) (K c.key)).set (m * 7 + 1) (K c.val)).set (m * 7 + 2) (K c.sum)).set (m * 7 + 3) (K c.size)).set (m * 7 + 4) (G64 c.tag)).set (m * 7 + 5) (.bool c.left)).set (m * 7 + 6) (.bool c.right)) = flat7 (l ++ c :: r) := by
  have h0 : (flat7 l).length = m * 7 := by rw [flat7_length, hm]
  have hs : ∀ (xs : List Value) (j : Nat) (u : Value), (flat7 l ++ xs).set (m * 7 + j) u = flat7 l ++ xs.set j u := fun xs j u => by
    rw [List.set_append_right _ _ (by omega), h0, Nat.add_sub_cancel_left]
  have h00 := hs (bdC b ++ flat7 r) 0 (K c.key)
  rw [Nat.add_zero] at h00
  rw [flat7_append, flat7_append, flat7_cons, flat7_cons, h00, hs, hs, hs, hs, hs, hs]
  rfl
/-- the bead is put into its place -/
theorem at_end {B g bx m n cap gb : Nat} {w wi : World} {v : Value} {s : List UInt8} {l r : List Bd} {b0 b : Bd} (hm : l.length = m) (h : At B g bx w v wi s (.slice (some ⟨gb, 0, none⟩) n cap) (l ++ b0 :: r) b) (hn : (l ++ b0 :: r).length = n) {W : World}
    (hW : (((((((wi.drew.setCell ⟨gb, m * 7, none⟩ (K b.key)).setCell ⟨gb, m * 7 + 1, none⟩ (K b.val)).setCell ⟨gb, m * 7 + 2, none⟩ (K b.sum)).setCell ⟨gb, m * 7 + 3, none⟩ (K b.size)).setCell ⟨gb, m * 7 + 4, none⟩ (G64 b.tag)).setCell ⟨gb, m * 7 + 5, none⟩ (.bool b.left)).setCell ⟨gb, m * 7 + 6, none⟩ (.bool b.right)) = W) :
    Rd W g s (.slice (some ⟨gb, 0, none⟩) n cap) ∧ W.ownsRow B 44 7 (.slice (some ⟨gb, 0, none⟩) n cap) (l ++ b :: r).length (flat7 (l ++ b :: r)) ∧ Went g v w (.slice (some ⟨gb, 0, none⟩) n cap) W := by
  have hn2 : (l ++ b :: r).length = n := by rw [← hn]; simp
  have own := h.own
  rw [hn] at own
  have hgb : g ≠ gb := fun e => has_not_own h.rd (by decide) own (by rw [e]; rfl)
  have wp : w.heap.size ≤ gb ∨ some gb = v.ownBlock := by
    rcases h.went.own with ho | ho
    · exact .inr ho
    · exact .inl (ho gb rfl)
  rw [hn2]
  refine ⟨?_, ?_, ?_⟩
  · have k : Rd wi.drew g s (.slice (some ⟨gb, 0, none⟩) n cap) := has_drew h.rd
    exact hW ▸ ((((((Has.far k (p := ⟨gb, m * 7, none⟩) hgb _).far (p := ⟨gb, m * 7 + 1, none⟩) hgb _).far (p := ⟨gb, m * 7 + 2, none⟩) hgb _).far (p := ⟨gb, m * 7 + 3, none⟩) hgb _).far (p := ⟨gb, m * 7 + 4, none⟩) hgb _).far (p := ⟨gb, m * 7 + 5, none⟩) hgb _).far (p := ⟨gb, m * 7 + 6, none⟩) hgb _
  · have k := own_put (own_put (own_put (own_put (own_put (own_put (own_put (World.ownsRow.drew own) (i := m * 7) (K b.key)) (i := m * 7 + 1) (K b.val)) (i := m * 7 + 2) (K b.sum)) (i := m * 7 + 3) (K b.size)) (i := m * 7 + 4) (G64 b.tag)) (i := m * 7 + 5) (.bool b.left)) (i := m * 7 + 6) (.bool b.right)
    rw [flat7_put l b0 b r m hm, hW] at k
    exact k
  · exact hW ▸ ((((((h.went.drew.put ⟨gb, m * 7, none⟩ _ wp).put ⟨gb, m * 7 + 1, none⟩ _ wp).put ⟨gb, m * 7 + 2, none⟩ _ wp).put ⟨gb, m * 7 + 3, none⟩ _ wp).put ⟨gb, m * 7 + 4, none⟩ _ wp).put ⟨gb, m * 7 + 5, none⟩ _ wp).put ⟨gb, m * 7 + 6, none⟩ _ wp
set_option maxHeartbeats 8000000 in
theorem tree_any (hX : TextSays T) (w0 : World) (B g : Nat) (hT : T w0) (hB0 : w0.heap.size = B) (hg : B ≤ g) : ∀ (lv : Nat) (w : World) (s : List UInt8) (v : Value) (l : List Bd), lv ≤ 4096 → l.length + s.length ≤ 1048576 → Below B w0 w → Rd w g s v → w.ownsRow B 44 7 v l.length (flat7 l) →
    Calls Tryd.prog 58 #[.pointer (some ⟨g, 0, none⟩), .int .i64 ((4097 : Int) - lv)] w (TGot B g v w l (sp lv s)) := by
  intro lv
  induction lv with
  | zero =>
    intro w s v l _ hl hb hr ho
    have cD := Lib.hid (fun W => deep_no W ((4097 : Int) - ((0 : Nat) : Int)) (by omega))
    obtain ⟨A, c, rfl, -, -, -⟩ := own_slice ho
    obtain ⟨n, hn⟩ : ∃ n, l.length = n := ⟨_, rfl⟩
    rw [hn] at ho hl hr ⊢
    have hn' := Lib.hid hn
    clear hn
    cases hd : byteT 46 s with
    | some r =>
      have cI := Lib.hid (is_yes 46 w g s r _ hr hd)
      rw [byteT_some hd, sp_dot]
      have R0 := Lib.hid hr
      have O0 := Lib.hid ho
      clear hd hr ho hl hb
      go_enter Tryd.func58, Tryd.ntmps58
      go_wp2_with fail
      refine cI.out.mono ?_
      rintro e w1 ⟨rfl, hm, hr⟩
      have M := Lib.hid hm
      have R := Lib.hid hr
      clear hm hr cI
      go_wp2_with fail
      go_ret
      exact ⟨_, rfl, R.out, by rw [show l ++ Tr.plain .e = l from List.append_nil l, hn'.out]; exact own_moved O0.out R0.out (by decide) M.out, .of_moved M.out _⟩
    | none =>
      have cI := Lib.hid (is_no 46 w g s _ hr hd)
      have cM := Lib.hid (must_any 40 w g s _ hr)
      cases hop : byteT 40 s with
      | none =>
        rw [hop] at cM
        rw [sp_none hd hop]
        clear hd hop hr ho hl hb
        go_enter Tryd.func58, Tryd.ntmps58
        go_wp2_with fail
        refine cI.out.mono ?_
        rintro e w' ⟨rfl, rfl⟩
        go_wp2_with fail
        refine cM.out.mono ?_
        rintro e w1 ⟨rfl, hm⟩
        have M := Lib.hid hm
        clear hm
        go_wp2_with fail
        exact ⟨rfl, rfl, _, .of_moved M.out _⟩
      | some s1 =>
        rw [hop] at cM
        rw [byteT_some hop, sp_zero]
        clear hd hop hr ho hl hb
        go_enter Tryd.func58, Tryd.ntmps58
        go_wp2_with fail
        refine cI.out.mono ?_
        rintro e w' ⟨rfl, rfl⟩
        go_wp2_with fail
        refine cM.out.mono ?_
        rintro e w1 ⟨rfl, hm, hr⟩
        have M := Lib.hid hm
        clear hm hr
        go_wp2_with fail
        refine (cD.out w1).mono ?_
        rintro e w' ⟨rfl, rfl⟩
        go_wp2_with fail
        exact ⟨rfl, rfl, _, .of_moved M.out _⟩
  | succ d ih =>
    intro w s v l h4 hl hb hr ho
    obtain ⟨D, hD⟩ : ∃ D, (4097 : Int) - ((d + 1 : Nat) : Int) = D := ⟨_, rfl⟩
    have D0 : 1 ≤ D := by omega
    have D1 : D ≤ 4096 := by omega
    have hD2 : D + 1 = (4097 : Int) - (d : Int) := by omega
    have cD := Lib.hid (fun W => deep_ok W D D1)
    rw [hD]
    clear hD
    have cNum : Hid (∀ (W : World) (s : List UInt8) (v : Value), s.length ≤ 1048576 → Below B w0 W → Rd W g s v → Calls Tryd.prog 72 #[.pointer (some ⟨g, 0, none⟩)] W (NumStep K v g W (numT s))) := fun W s v h1 h2 h3 => number_any hX w0 W g s v hT (by rw [hB0]; exact h2) (by rw [hB0]; exact hg) h1 h3
    have cTag : Hid (∀ (W : World) (s : List UInt8) (v : Value), s.length ≤ 1048576 → Below B w0 W → Rd W g s v → Calls Tryd.prog 73 #[.pointer (some ⟨g, 0, none⟩)] W (NumStep G64 v g W (tagT s))) := fun W s v h1 h2 h3 => tag_any hX w0 W g s v hT (by rw [hB0]; exact h2) (by rw [hB0]; exact hg) h1 h3
    have cT : Hid (∀ (W : World) (s : List UInt8) (v : Value) (l : List Bd), l.length + s.length ≤ 1048576 → Below B w0 W → Rd W g s v → W.ownsRow B 44 7 v l.length (flat7 l) → Calls Tryd.prog 58 #[.pointer (some ⟨g, 0, none⟩), .int .i64 (D + 1)] W (TGot B g v W l (sp d s))) := fun W s v l h1 h2 h3 h5 => by
      rw [hD2]
      exact ih W s v l (by omega) h1 h2 h3 h5
    clear ih hD2
    obtain ⟨A, c, rfl, -, -, -⟩ := own_slice ho
    obtain ⟨n, hn⟩ : ∃ n, l.length = n := ⟨_, rfl⟩
    rw [hn] at ho hl hr ⊢
    have hn' := Lib.hid hn
    clear hn
    cases hd : byteT 46 s with
    | some r =>
      have cI := Lib.hid (is_yes 46 w g s r _ hr hd)
      rw [byteT_some hd, sp_dot]
      have R0 := Lib.hid hr
      have O0 := Lib.hid ho
      clear hd hr ho hl hb
      go_enter Tryd.func58, Tryd.ntmps58
      go_wp2_with fail
      refine cI.out.mono ?_
      rintro e w1 ⟨rfl, hm, hr⟩
      have M := Lib.hid hm
      have R := Lib.hid hr
      clear hm hr cI
      go_wp2_with fail
      go_ret
      exact ⟨_, rfl, R.out, by rw [show l ++ Tr.plain .e = l from List.append_nil l, hn'.out]; exact own_moved O0.out R0.out (by decide) M.out, .of_moved M.out _⟩
    | none =>
      have cI := Lib.hid (is_no 46 w g s _ hr hd)
      have cM := Lib.hid (must_any 40 w g s _ hr)
      cases hop : byteT 40 s with
      | none =>
        rw [hop] at cM
        rw [sp_none hd hop]
        clear hd hop hr ho hl hb
        go_enter Tryd.func58, Tryd.ntmps58
        go_wp2_with fail
        refine cI.out.mono ?_
        rintro e w' ⟨rfl, rfl⟩
        go_wp2_with fail
        refine cM.out.mono ?_
        rintro e w1 ⟨rfl, hm⟩
        have M := Lib.hid hm
        clear hm
        go_wp2_with fail
        exact ⟨rfl, rfl, _, .of_moved M.out _⟩
      | some s1 =>
        rw [hop] at cM
        rw [byteT_some hop, sp_open]
        have hs1 : n + 1 + s1.length ≤ 1048576 := by have := len_byte hop; omega
        obtain ⟨O, hO⟩ : ∃ O, q1 d s1 = O := ⟨_, rfl⟩
        rw [hO]
        have HO := Lib.hid hO
        have R0 := Lib.hid hr
        have O0 := Lib.hid ho
        have hb' := Lib.hid hb
        have hBw : B ≤ w.heap.size := hB0 ▸ hb.size
        have hvo : ∀ k, (Value.slice A n c).ownBlock = some k → B ≤ k := fun k e => (ho.lt k e).1
        have hvo' := Lib.hid hvo
        have hBw' := Lib.hid hBw
        have hB0' := Lib.hid hB0
        have n0 : n ≤ 1048576 := by omega
        obtain ⟨i0, hin, hz0, hz1, hz2⟩ := info_parts info_bead
        have m1 := Lib.hid (show n + 1 ≤ maxLen by unfold maxLen; omega)
        have m2 := Lib.hid (show (n + 1) * 48 ≤ 140737488355328 by omega)
        have hs1' := Lib.hid hs1
        clear hd hop hr ho hl hb hO hBw hvo hB0 hs1
        go_enter Tryd.func58, Tryd.ntmps58
        go_wp2_with fail
        refine cI.out.mono ?_
        rintro e w' ⟨rfl, rfl⟩
        go_wp2_with fail
        refine cM.out.mono ?_
        rintro e w1 ⟨rfl, hm, hr⟩
        have R1 := Lib.hid hr
        have O1 := Lib.hid (own_moved O0.out R0.out (by decide) hm)
        have E1 := Lib.hid (Went.of_moved hm (Value.slice A n c))
        clear hm hr R0 O0 cI cM
        go_wp2_with fail
        refine (cD.out w1).mono ?_
        rintro e w' ⟨rfl, rfl⟩
        have y1 : w1.cell? ⟨g, 1, none⟩ = some (.slice A n c) := Has.cell R1.out 1
        have z1 : ∀ o, (w1.alloc o).cell? ⟨g, 1, none⟩ = some (.slice A n c) := fun o => Has.cell (Has.alloc R1.out o) 1
        have hBw1 : Hid (B ≤ (w1.alloc (.cells #[.int .i64 0, .int .i64 0, .int .i64 0, .int .i64 0, .int .u64 0, .bool false, .bool false] 44)).heap.size) := Nat.le_trans hBw'.out (Nat.le_trans E1.out.size ((Below.refl _ w1).alloc (Nat.le_refl _) _).size)
        have o2 : Hid ((w1.alloc (.cells #[.int .i64 0, .int .i64 0, .int .i64 0, .int .i64 0, .int .u64 0, .bool false, .bool false] 44)).ownsRow B 44 7 (.slice A n c) n (flat7 l)) := O1.out.alloc _
        have nw : Hid (∀ j u, (flat7 [zb])[j]? = some u → (w1.alloc (.cells #[.int .i64 0, .int .i64 0, .int .i64 0, .int .i64 0, .int .u64 0, .bool false, .bool false] 44)).cell? ((⟨w1.heap.size, 0, none⟩ : Addr).add j) = some u) := fun j u hu => ((Has.new w1 44 #[.int .i64 0, .int .i64 0, .int .i64 0, .int .i64 0, .int .u64 0, .bool false, .bool false]).row.at_ (j := j) (u := u) hu).2
        go_wp2_with (first
          | (at_builtin; refine wpList_append_where rfl _ _ 22 rfl B 44 i0 (.agg #[.int .i64 0, .int .i64 0, .int .i64 0, .int .i64 0, .int .u64 0, .bool false, .bool false]) 7 48 Tryd.underlying22 hin hz0 hz1 hz2 rfl (by decide) (.slice A n c) n (flat7 l) rfl o2.out ⟨w1.heap.size, 0, none⟩ 1 1 (flat7 [zb]) rfl rfl nw.out (flat7_one _) m1.out m2.out hBw1.out ?_
             intro v3 w3 ho3 hg3 hw3
             obtain ⟨g3, c3, rfl, -, -, -⟩ := own_full ho3 (Nat.succ_pos n)
             have R3 := Lib.hid (rd_grown R1.out O1.out hg3)
             have q3 : w3.cell? ⟨g, 1, none⟩ = some (.slice A n c) := Has.cell R3.out 1
             have f3 : w3.frozen? ⟨g, 1, none⟩ = false := Has.free R3.out 1)
          | fail)
        obtain ⟨bx, hbx⟩ : ∃ bx, w3.heap.size = bx := ⟨_, rfl⟩
        obtain ⟨X0, hX0⟩ : ∃ X, ((w3.setCell ⟨g, 1, none⟩ (.slice (some ⟨g3, 0, none⟩) (n + 1) c3)).alloc (.cells #[.int .i64 0, .int .i64 0, .int .i64 0, .int .i64 0, .int .u64 0, .bool false, .bool false] 44)) = X := ⟨_, rfl⟩
        have A0 := Lib.hid (at_start hn'.out R1.out O1.out E1.out ho3 hg3 hw3)
        rw [hX0, hbx] at A0
        rw [hX0, hbx]
        have L0 : Hid ((l ++ [zb]).length + s1.length ≤ 1048576) := by have := hs1'.out; show _ ≤ _; rw [List.length_append, hn'.out]; simp only [List.length_cons, List.length_nil]; omega
        clear hX0 hbx ho3 hg3 hw3 R1 O1 E1 R3 q3 f3 y1 z1 o2 nw hBw1 hs1'
        have cc := cT.out X0 s1 _ (l ++ [zb]) L0.out (A0.out.below hg hvo'.out hb'.out hBw'.out) A0.out.rd A0.out.own
        rcases hq : sp d s1 with _ | ⟨ta, r1⟩
        · rw [hq] at cc
          refine cc.mono ?_
          rintro e wx ⟨rfl, vx, hw⟩
          have E := Lib.hid (A0.out.went.trans hw)
          go_wp2_with fail
          refine ⟨rfl, ?_⟩
          rw [← HO.out, q1, hq]
          exact ⟨rfl, _, E.out⟩
        rw [hq] at cc
        refine cc.mono ?_
        rintro e u1w ⟨x1, rfl, hr, ho, hw⟩
        have A1 := Lib.hid (A0.out.tree hr ho hw)
        have L1 : Hid (((l ++ [zb]) ++ ta.plain).length + r1.length ≤ 1048576) := by have h1 := L0.out; have h2 := len_sp hq; show _ ≤ _; rw [List.length_append, plain_len]; omega
        have HO1 : Hid (q2 d ta r1 = O) := by show _ = _; rw [← HO.out, q1, hq]; rfl
        clear hr hq cc ho hw A0 L0 HO
        have b2 : u1w.cell? ⟨bx, 5, none⟩ = some (.bool false) := A1.out.box.cell 5
        have f2 : u1w.frozen? ⟨bx, 5, none⟩ = false := A1.out.box.free 5
        go_wp2_with fail
        have A2 := Lib.hid (A1.out.put 5 (.bool ta.is) (b' := ⟨0#64, 0#64, 0#64, 0#64, 0#64, ta.is, false⟩) (by simp))
        obtain ⟨X2, hX⟩ : ∃ X, u1w.setCell ⟨bx, 5, none⟩ (.bool ta.is) = X := ⟨_, rfl⟩
        rw [hX] at A2 ⊢
        clear hX b2 f2 A1
        have cc := must_any 32 X2 g r1 _ A2.out.rd
        rcases hq : byteT 32 r1 with _ | r3
        · rw [hq] at cc
          refine cc.mono ?_
          rintro e wx ⟨rfl, hm⟩
          have E := Lib.hid (A2.out.went.trans (.of_moved hm _))
          go_wp2_with fail
          refine ⟨rfl, ?_⟩
          rw [← HO1.out, q2, hq]
          exact ⟨rfl, _, E.out⟩
        rw [hq] at cc
        refine cc.mono ?_
        rintro e u3w ⟨rfl, hm, hr⟩
        have A3 := Lib.hid (A2.out.moved hm hr)
        have L3 : Hid (((l ++ [zb]) ++ ta.plain).length + r3.length ≤ 1048576) := by have h1 := L1.out; have h2 := len_byte hq; show _ ≤ _; omega
        have HO3 : Hid (q3 d ta r3 = O) := by show _ = _; rw [← HO1.out, q2, hq]; rfl
        clear hr hq cc hm A2 L1 HO1
        go_wp2_with fail
        have cc := cNum.out u3w r3 _ (by have := L3.out; omega) (A3.out.below hg hvo'.out hb'.out hBw'.out) A3.out.rd
        rcases hq : numT r3 with _ | ⟨kk, r4⟩
        · rw [hq] at cc
          refine cc.mono ?_
          rintro e wx ⟨rfl, hm⟩
          have E := Lib.hid (A3.out.went.trans (.of_moved hm _))
          go_wp2_with fail
          refine ⟨rfl, ?_⟩
          rw [← HO3.out, q3, hq]
          exact ⟨rfl, _, E.out⟩
        rw [hq] at cc
        refine cc.mono ?_
        rintro e u4w ⟨rfl, hm, hr⟩
        have A4 := Lib.hid (A3.out.moved hm hr)
        have L4 : Hid (((l ++ [zb]) ++ ta.plain).length + r4.length ≤ 1048576) := by have h1 := L3.out; have h2 := len_num hq; show _ ≤ _; omega
        have HO4 : Hid (q4 d ta kk r4 = O) := by show _ = _; rw [← HO3.out, q3, hq]; rfl
        clear hr hq cc hm A3 L3 HO3
        have b5 : u4w.cell? ⟨bx, 0, none⟩ = some (K 0#64) := A4.out.box.cell 0
        have f5 : u4w.frozen? ⟨bx, 0, none⟩ = false := A4.out.box.free 0
        go_wp2_with fail
        have A5 := Lib.hid (A4.out.put 0 (K kk) (b' := ⟨kk, 0#64, 0#64, 0#64, 0#64, ta.is, false⟩) (by simp))
        obtain ⟨X5, hX⟩ : ∃ X, u4w.setCell ⟨bx, 0, none⟩ (K kk) = X := ⟨_, rfl⟩
        rw [hX] at A5 ⊢
        clear hX b5 f5 A4
        have cc := must_any 58 X5 g r4 _ A5.out.rd
        rcases hq : byteT 58 r4 with _ | r6
        · rw [hq] at cc
          refine cc.mono ?_
          rintro e wx ⟨rfl, hm⟩
          have E := Lib.hid (A5.out.went.trans (.of_moved hm _))
          go_wp2_with fail
          refine ⟨rfl, ?_⟩
          rw [← HO4.out, q4, hq]
          exact ⟨rfl, _, E.out⟩
        rw [hq] at cc
        refine cc.mono ?_
        rintro e u6w ⟨rfl, hm, hr⟩
        have A6 := Lib.hid (A5.out.moved hm hr)
        have L6 : Hid (((l ++ [zb]) ++ ta.plain).length + r6.length ≤ 1048576) := by have h1 := L4.out; have h2 := len_byte hq; show _ ≤ _; omega
        have HO6 : Hid (q5 d ta kk r6 = O) := by show _ = _; rw [← HO4.out, q4, hq]; rfl
        clear hr hq cc hm A5 L4 HO4
        go_wp2_with fail
        have cc := cNum.out u6w r6 _ (by have := L6.out; omega) (A6.out.below hg hvo'.out hb'.out hBw'.out) A6.out.rd
        rcases hq : numT r6 with _ | ⟨vv, r7⟩
        · rw [hq] at cc
          refine cc.mono ?_
          rintro e wx ⟨rfl, hm⟩
          have E := Lib.hid (A6.out.went.trans (.of_moved hm _))
          go_wp2_with fail
          refine ⟨rfl, ?_⟩
          rw [← HO6.out, q5, hq]
          exact ⟨rfl, _, E.out⟩
        rw [hq] at cc
        refine cc.mono ?_
        rintro e u7w ⟨rfl, hm, hr⟩
        have A7 := Lib.hid (A6.out.moved hm hr)
        have L7 : Hid (((l ++ [zb]) ++ ta.plain).length + r7.length ≤ 1048576) := by have h1 := L6.out; have h2 := len_num hq; show _ ≤ _; omega
        have HO7 : Hid (q6 d ta kk vv r7 = O) := by show _ = _; rw [← HO6.out, q5, hq]; rfl
        clear hr hq cc hm A6 L6 HO6
        have b8 : u7w.cell? ⟨bx, 1, none⟩ = some (K 0#64) := A7.out.box.cell 1
        have f8 : u7w.frozen? ⟨bx, 1, none⟩ = false := A7.out.box.free 1
        go_wp2_with fail
        have A8 := Lib.hid (A7.out.put 1 (K vv) (b' := ⟨kk, vv, 0#64, 0#64, 0#64, ta.is, false⟩) (by simp))
        obtain ⟨X8, hX⟩ : ∃ X, u7w.setCell ⟨bx, 1, none⟩ (K vv) = X := ⟨_, rfl⟩
        rw [hX] at A8 ⊢
        clear hX b8 f8 A7
        have cc := cTag.out X8 r7 _ (by have := L7.out; omega) (A8.out.below hg hvo'.out hb'.out hBw'.out) A8.out.rd
        rcases hq : tagT r7 with _ | ⟨gg, r9⟩
        · rw [hq] at cc
          refine cc.mono ?_
          rintro e wx ⟨rfl, hm⟩
          have E := Lib.hid (A8.out.went.trans (.of_moved hm _))
          go_wp2_with fail
          refine ⟨rfl, ?_⟩
          rw [← HO7.out, q6, hq]
          exact ⟨rfl, _, E.out⟩
        rw [hq] at cc
        refine cc.mono ?_
        rintro e u9w ⟨rfl, hm, hr⟩
        have A9 := Lib.hid (A8.out.moved hm hr)
        have L9 : Hid (((l ++ [zb]) ++ ta.plain).length + r9.length ≤ 1048576) := by have h1 := L7.out; have h2 := len_tag hq; show _ ≤ _; omega
        have HO9 : Hid (q7 d ta kk vv gg r9 = O) := by show _ = _; rw [← HO7.out, q6, hq]; rfl
        clear hr hq cc hm A8 L7 HO7
        have b10 : u9w.cell? ⟨bx, 4, none⟩ = some (G64 0#64) := A9.out.box.cell 4
        have f10 : u9w.frozen? ⟨bx, 4, none⟩ = false := A9.out.box.free 4
        go_wp2_with fail
        have A10 := Lib.hid (A9.out.put 4 (G64 gg) (b' := ⟨kk, vv, 0#64, 0#64, gg, ta.is, false⟩) (by simp))
        obtain ⟨X10, hX⟩ : ∃ X, u9w.setCell ⟨bx, 4, none⟩ (G64 gg) = X := ⟨_, rfl⟩
        rw [hX] at A10 ⊢
        clear hX b10 f10 A9
        have cc := must_any 32 X10 g r9 _ A10.out.rd
        rcases hq : byteT 32 r9 with _ | r11
        · rw [hq] at cc
          refine cc.mono ?_
          rintro e wx ⟨rfl, hm⟩
          have E := Lib.hid (A10.out.went.trans (.of_moved hm _))
          go_wp2_with fail
          refine ⟨rfl, ?_⟩
          rw [← HO9.out, q7, hq]
          exact ⟨rfl, _, E.out⟩
        rw [hq] at cc
        refine cc.mono ?_
        rintro e u11w ⟨rfl, hm, hr⟩
        have A11 := Lib.hid (A10.out.moved hm hr)
        have L11 : Hid (((l ++ [zb]) ++ ta.plain).length + r11.length ≤ 1048576) := by have h1 := L9.out; have h2 := len_byte hq; show _ ≤ _; omega
        have HO11 : Hid (q8 d ta kk vv gg r11 = O) := by show _ = _; rw [← HO9.out, q7, hq]; rfl
        clear hr hq cc hm A10 L9 HO9
        go_wp2_with fail
        have cc := cT.out u11w r11 _ ((l ++ [zb]) ++ ta.plain) L11.out (A11.out.below hg hvo'.out hb'.out hBw'.out) A11.out.rd A11.out.own
        rcases hq : sp d r11 with _ | ⟨tb, r12⟩
        · rw [hq] at cc
          refine cc.mono ?_
          rintro e wx ⟨rfl, vx, hw⟩
          have E := Lib.hid (A11.out.went.trans hw)
          go_wp2_with fail
          refine ⟨rfl, ?_⟩
          rw [← HO11.out, q8, hq]
          exact ⟨rfl, _, E.out⟩
        rw [hq] at cc
        refine cc.mono ?_
        rintro e u12w ⟨x12, rfl, hr, ho, hw⟩
        have A12 := Lib.hid (A11.out.tree hr ho hw)
        have L12 : Hid ((((l ++ [zb]) ++ ta.plain) ++ tb.plain).length + r12.length ≤ 1048576) := by have h1 := L11.out; have h2 := len_sp hq; show _ ≤ _; rw [List.length_append, plain_len]; omega
        have HO12 : Hid (q9 ta kk vv gg tb r12 = O) := by show _ = _; rw [← HO11.out, q8, hq]; rfl
        clear hr hq cc ho hw A11 L11 HO11
        have b13 : u12w.cell? ⟨bx, 6, none⟩ = some (.bool false) := A12.out.box.cell 6
        have f13 : u12w.frozen? ⟨bx, 6, none⟩ = false := A12.out.box.free 6
        go_wp2_with fail
        have A13 := Lib.hid (A12.out.put 6 (.bool tb.is) (b' := ⟨kk, vv, 0#64, 0#64, gg, ta.is, tb.is⟩) (by simp))
        obtain ⟨X13, hX⟩ : ∃ X, u12w.setCell ⟨bx, 6, none⟩ (.bool tb.is) = X := ⟨_, rfl⟩
        rw [hX] at A13 ⊢
        clear hX b13 f13 A12
        have cc := must_any 41 X13 g r12 _ A13.out.rd
        rcases hq : byteT 41 r12 with _ | r14
        · rw [hq] at cc
          refine cc.mono ?_
          rintro e wx ⟨rfl, hm⟩
          have E := Lib.hid (A13.out.went.trans (.of_moved hm _))
          go_wp2_with fail
          refine ⟨rfl, ?_⟩
          rw [← HO12.out, q9, hq]
          exact ⟨rfl, _, E.out⟩
        rw [hq] at cc
        refine cc.mono ?_
        rintro e u14w ⟨rfl, hm, hr⟩
        have A14 := Lib.hid (A13.out.moved hm hr)
        have L14 : Hid ((((l ++ [zb]) ++ ta.plain) ++ tb.plain).length + r14.length ≤ 1048576) := by have h1 := L12.out; have h2 := len_byte hq; show _ ≤ _; omega
        have HO14 : Hid (some (.n ta kk vv gg tb, r14) = O) := by show _ = _; rw [← HO12.out, q9, hq]; rfl
        clear hr hq cc hm A13 L12 HO12
        have hlist : Hid ((((l ++ [zb]) ++ ta.plain) ++ tb.plain) = l ++ zb :: (ta.plain ++ tb.plain)) := by show _ = _; simp
        have AZ : Hid (At B g bx w (.slice A n c) u14w r14 x12 (l ++ zb :: (ta.plain ++ tb.plain)) ⟨kk, vv, 0#64, 0#64, gg, ta.is, tb.is⟩) := by have h := A14.out; rw [hlist.out] at h; exact h
        obtain ⟨m, hm⟩ : ∃ m, (l ++ zb :: (ta.plain ++ tb.plain)).length = m := ⟨_, rfl⟩
        have hnm : n < m := by rw [← hm, List.length_append, hn'.out, List.length_cons]; omega
        have own := AZ.out.own
        rw [hm] at own
        obtain ⟨gb, cz, hvz, -, -, -⟩ := own_full own (by omega)
        rw [hvz] at AZ own
        obtain ⟨hcell, hfree⟩ := own_cells own
        have hm' := Lib.hid hm
        have yg : u14w.cell? ⟨g, 1, none⟩ = some (.slice (some ⟨gb, 0, none⟩) m cz) := Has.cell AZ.out.rd 1
        obtain ⟨b0, b1, b2, b3, b4, b5, b6⟩ := AZ.out.box.seven
        obtain ⟨v0z, e0z⟩ := hcell (n * 7) (by omega)
        have f0z := hfree (n * 7)
        obtain ⟨v1z, e1z⟩ := hcell (n * 7 + 1) (by omega)
        have f1z := hfree (n * 7 + 1)
        obtain ⟨v2z, e2z⟩ := hcell (n * 7 + 2) (by omega)
        have f2z := hfree (n * 7 + 2)
        obtain ⟨v3z, e3z⟩ := hcell (n * 7 + 3) (by omega)
        have f3z := hfree (n * 7 + 3)
        obtain ⟨v4z, e4z⟩ := hcell (n * 7 + 4) (by omega)
        have f4z := hfree (n * 7 + 4)
        obtain ⟨v5z, e5z⟩ := hcell (n * 7 + 5) (by omega)
        have f5z := hfree (n * 7 + 5)
        obtain ⟨v6z, e6z⟩ := hcell (n * 7 + 6) (by omega)
        have f6z := hfree (n * 7 + 6)
        clear hcell hfree own hm A14 L14
        go_wp2_with fail
        go_still_tail 7, (by kernel_rfl)
        change wpList _ _ _ _ _ u14w.drew
        obtain ⟨U, hU⟩ : ∃ U, u14w.drew = U := ⟨_, rfl⟩
        rw [hU]
        have e0u : U.cell? ⟨gb, n * 7, none⟩ = some v0z := hU ▸ e0z
        have f0u : U.frozen? ⟨gb, n * 7, none⟩ = false := hU ▸ f0z
        have e1u : U.cell? ⟨gb, n * 7 + 1, none⟩ = some v1z := hU ▸ e1z
        have f1u : U.frozen? ⟨gb, n * 7 + 1, none⟩ = false := hU ▸ f1z
        have e2u : U.cell? ⟨gb, n * 7 + 2, none⟩ = some v2z := hU ▸ e2z
        have f2u : U.frozen? ⟨gb, n * 7 + 2, none⟩ = false := hU ▸ f2z
        have e3u : U.cell? ⟨gb, n * 7 + 3, none⟩ = some v3z := hU ▸ e3z
        have f3u : U.frozen? ⟨gb, n * 7 + 3, none⟩ = false := hU ▸ f3z
        have e4u : U.cell? ⟨gb, n * 7 + 4, none⟩ = some v4z := hU ▸ e4z
        have f4u : U.frozen? ⟨gb, n * 7 + 4, none⟩ = false := hU ▸ f4z
        have e5u : U.cell? ⟨gb, n * 7 + 5, none⟩ = some v5z := hU ▸ e5z
        have f5u : U.frozen? ⟨gb, n * 7 + 5, none⟩ = false := hU ▸ f5z
        have e6u : U.cell? ⟨gb, n * 7 + 6, none⟩ = some v6z := hU ▸ e6z
        have f6u : U.frozen? ⟨gb, n * 7 + 6, none⟩ = false := hU ▸ f6z
        have HU := Lib.hid hU
        clear hU e0z e1z e2z e3z e4z e5z e6z f0z f1z f2z f3z f4z f5z f6z b0 b1 b2 b3 b4 b5 b6 yg
        go_wp2_with fail
        obtain ⟨Y, hY⟩ : ∃ Y, (((((((U.setCell ⟨gb, n * 7, none⟩ (K kk)).setCell ⟨gb, n * 7 + 1, none⟩ (K vv)).setCell ⟨gb, n * 7 + 2, none⟩ (.int .i64 0)).setCell ⟨gb, n * 7 + 3, none⟩ (.int .i64 0)).setCell ⟨gb, n * 7 + 4, none⟩ (G64 gg)).setCell ⟨gb, n * 7 + 5, none⟩ (.bool ta.is)).setCell ⟨gb, n * 7 + 6, none⟩ (.bool tb.is)) = Y := ⟨_, rfl⟩
        rw [hY]
        rw [← HU.out] at hY
        obtain ⟨k1, k2, k3⟩ := at_end hn'.out AZ.out hm'.out hY
        go_ret
        rw [← HO14.out]
        exact ⟨_, rfl, k1, k2, k3⟩
end Go.Proofs.YtlhnjgmjkoafpaaDoor
namespace Go.Proofs.YtlhnjgmjkoafpaaDoor
open Go.RowKit Go.Proofs.Treem
set_option maxRecDepth 100000
variable {T : World → Prop}

/-- beads that were read, or that something was thrown -/
def BGot (w : World) : Option Tr → Ending → World → Prop
  | some t, e, w' => ∃ v, e = .returned v ∧ w'.ownsRow w.heap.size 44 7 v t.plain.length (flat7 t.plain) ∧ Below w.heap.size w w'
  | none, e, w' => e = thrown ∧ Below w.heap.size w w'
set_option maxHeartbeats 4000000 in
theorem beadsOf_any (hX : TextSays T) (w : World) (s : List UInt8) (hT : T w) (hs : s.length ≤ 1048576) :
    Calls Tryd.prog 41 #[sV s] w (BGot w (readS s)) := by
  obtain ⟨sz, hsz⟩ : ∃ sz, w.heap.size = sz := ⟨_, rfl⟩
  obtain ⟨W, hW⟩ : ∃ W, w.alloc (.cells #[sV s, .slice none 0 0] 89) = W := ⟨_, rfl⟩
  have hb : Hid (Below sz w W) := hW ▸ hsz ▸ (Below.refl _ w).alloc (Nat.le_refl _) _
  have rW : Rd W sz s (.slice none 0 0) := hW ▸ new_at hsz _ _
  have hBW : Hid (sz ≤ W.heap.size) := Nat.le_trans (Nat.le_of_eq hsz.symm) hb.out.size
  have cT : Hid (Calls Tryd.prog 58 #[.pointer (some ⟨sz, 0, none⟩), .int .i64 1] W (TGot sz sz (.slice none 0 0) W [] (sp 4096 s))) :=
    tree_any hX w sz sz hT hsz (Nat.le_refl _) 4096 W s (.slice none 0 0) [] (Nat.le_refl _) (by simpa using hs) hb.out rW (World.ownsRow_nil _ _ _ _)
  have hno : Hid (∀ k, (Value.slice none 0 0).ownBlock = some k → sz ≤ k) := fun k e => by cases e
  have HW := Lib.hid hW
  have HS := Lib.hid hsz
  obtain ⟨O, hO⟩ : ∃ O, readS s = O := ⟨_, rfl⟩
  rw [hO]
  have HO := Lib.hid hO
  clear hW hsz hO rW hs
  go_enter Tryd.func41, Tryd.ntmps41
  go_wp2_with fail
  rw [HS.out, HW.out]
  have cc := cT.out
  rcases hq : sp 4096 s with _ | ⟨t, r⟩
  · rw [hq] at cc
    refine cc.mono ?_
    rintro e w1 ⟨rfl, vx, hw⟩
    have E := Lib.hid (hb.out.trans (hw.below (Nat.le_refl _) hno.out hBW.out))
    have HO2 : Hid (O = none) := by show _ = _; rw [← HO.out, readS, hq]
    clear hw hq cc cT HO
    go_wp2_with fail
    refine ⟨rfl, ?_⟩
    rw [HO2.out]
    exact ⟨rfl, HS.out ▸ E.out⟩
  · rw [hq] at cc
    refine cc.mono ?_
    rintro e w1 ⟨v1, rfl, hr, ho, hw⟩
    have E := Lib.hid (hb.out.trans (hw.below (Nat.le_refl _) hno.out hBW.out))
    have R := Lib.hid hr
    have O1 := Lib.hid ho
    have y0 : w1.cell? ⟨sz, 0, none⟩ = some (sV r) := Has.cell hr 0
    have y1 : w1.cell? ⟨sz, 1, none⟩ = some v1 := Has.cell hr 1
    cases r with
    | nil =>
      have HO2 : Hid (O = some t) := by show _ = _; rw [← HO.out, readS, hq]
      clear hw hq cc cT HO hr ho
      go_wp2_with fail
      go_ret
      rw [HO2.out]
      exact ⟨_, rfl, HS.out ▸ O1.out, HS.out ▸ E.out⟩
    | cons x q =>
      have HO2 : Hid (O = none) := by show _ = _; rw [← HO.out, readS, hq]
      obtain ⟨xs, hxs⟩ : ∃ xs, x :: q = xs := ⟨_, rfl⟩
      have ne : xs.isEmpty = false := by rw [← hxs]; rfl
      rw [hxs] at y0
      clear hw hq cc cT HO hr ho R hxs O1
      go_wp2_with fail
      refine ⟨rfl, ?_⟩
      rw [HO2.out]
      exact ⟨rfl, HS.out ▸ E.out⟩
theorem read_high {s : List UInt8} {t : Tr} (h : readS s = some t) : t.line = s ∧ t.high ≤ 4096 := (readS_is s t).1 h
set_option maxHeartbeats 4000000 in
theorem read1_any (hX : TextSays T) (w : World) (gl : Nat) (s : List UInt8) (hT : T w) (hs : s.length ≤ 1048576) (h5 : ∀ t : Tr, t.line = s → t.size ≤ 5000) (hg : Has w gl 9 #[sV s]) :
    Calls Tryd.prog 40 #[.pointer (some ⟨gl, 0, none⟩)] w (Made1 w (readS s)) := by
  have q1 : w.cell? ⟨gl, 0, none⟩ = some (sV s) := hg.cell 0
  have cB := Lib.hid (beadsOf_any hX w s hT hs)
  have hlen := Lib.hid hs
  clear hs
  rcases ho : readS s with _ | t
  · rw [ho] at cB
    clear ho hg
    go_enter Tryd.func40, Tryd.ntmps40
    go_wp2_with fail
    refine cB.out.mono ?_
    rintro e w1 ⟨rfl, hb⟩
    have E := Lib.hid hb
    clear hb
    go_wp2_with fail
    exact ⟨rfl, rfl, E.out⟩
  · obtain ⟨h1, h2⟩ := read_high ho
    have h6 := h5 t h1
    have hm : Hid (MakeIs (t.plain.map strip) (some t)) := ⟨(plain_strip t).symm, h2⟩
    have hp : Hid (t.plain.length = t.size) := plain_len t
    have h6' := Lib.hid h6
    rw [ho] at cB
    clear ho hg h1 h2 h5 h6
    go_enter Tryd.func40, Tryd.ntmps40
    go_wp2_with fail
    refine cB.out.mono ?_
    rintro e w1 ⟨v, rfl, hown, hb⟩
    rw [hp.out] at hown
    obtain ⟨A, c, rfl, hL⟩ := LieB.of_own hp.out (by have := h6'.out; omega) hown
    have cM := Lib.hid (make_any w1 A t.size c t.plain (some t) hL hm.out)
    have E := Lib.hid hb
    clear hb hown hL
    go_wp2_with fail
    refine cM.out.mono ?_
    rintro e w2 ⟨p, rfl, ht, hb2⟩
    have E2 := Lib.hid (Below.after E.out hb2)
    have kt := Lib.hid ht
    clear hb2 ht
    go_wp2_with fail
    go_ret
    exact ⟨p, rfl, kt.out, E2.out⟩
theorem readL_readS (s : List UInt8) (hs : s.length ≤ 400000) : readL s = readS s := by
  cases h : readS s with
  | some t =>
    obtain ⟨h1, h2⟩ := (readS_is s t).1 h
    have h3 := line_more t
    rw [h1] at h3
    exact (readL_is s t).2 ⟨h1, h2, by omega⟩
  | none =>
    cases h' : readL s with
    | none => rfl
    | some t =>
      obtain ⟨h1, h2, _⟩ := (readL_is s t).1 h'
      rw [(readS_is s t).2 ⟨h1, h2⟩] at h
      cases h
set_option maxHeartbeats 1000000 in
theorem read_any (hX : TextSays T) (w : World) (s : List UInt8) (hT : T w) (hs : s.length ≤ 400000) (h5 : ∀ t : Tr, t.line = s → t.size ≤ 5000) : Calls Tryd.prog 20 #[sV s] w (MadeTree NdS w (readL s)) := by
  have hmf : ∀ (fn : Fn) (first cap : Array Value) (w : World), (Instr.makeFunc fn first cap).run Tryd.prog w = .ok (.func fn first cap) w := fun _ _ _ _ => rfl
  rw [readL_readS s hs]
  obtain ⟨n, hn⟩ : ∃ n, s.length = n := ⟨_, rfl⟩
  have hlen : (⟨s.toArray⟩ : ByteArray).size = n := by rw [← hn]; exact List.size_toArray
  have d1 : decide ((1048576 : Int) < (n : Int)) = false := decide_eq_false (by omega)
  obtain ⟨sz, hsz⟩ : ∃ sz, w.heap.size = sz := ⟨_, rfl⟩
  obtain ⟨W, hW⟩ : ∃ W, w.alloc (.cells #[sV s] 9) = W := ⟨_, rfl⟩
  have hb : Hid (Below w.heap.size w W) := hW ▸ (Below.refl _ w).alloc (Nat.le_refl _) _
  have g1 : Hid (Has W sz 9 #[sV s]) := hW ▸ new_at hsz _ _
  have cC : Hid (Calls Tryd.prog 34 #[.func (.func 40) #[] #[.pointer (some ⟨sz, 0, none⟩)]] W (MadeTree NdS W (readS s))) := by
    refine caughtR W sz (readS s) fun X hX' => ?_
    exact read1_any hX X sz s (hX.next hT (Below.after hb.out hX')) (by omega) h5 (g1.out.next hX')
  have HS := Lib.hid hsz
  have HW := Lib.hid hW
  clear hsz hW hn hs h5
  obtain ⟨o, ho⟩ : ∃ o, readS s = o := ⟨_, rfl⟩
  rw [ho] at cC ⊢
  clear ho
  go_enter Tryd.func20, Tryd.ntmps20
  go_wp2_with fail
  rw [HS.out, HW.out]
  refine cC.out.mono ?_
  cases o with
  | none =>
    rintro e w1 ⟨rfl, hb1⟩
    have b1 := Lib.hid (Below.after hb.out hb1)
    clear hb1
    go_wp2_with fail
    go_ret2
    exact ⟨rfl, b1.out⟩
  | some t =>
    rintro e w1 ⟨p, rfl, ht, hb1⟩
    have b1 := Lib.hid (Below.after hb.out hb1)
    have kt := Lib.hid ht
    clear hb1 ht
    go_wp2_with fail
    go_ret2
    exact ⟨p, rfl, kt.out, b1.out⟩
end Go.Proofs.YtlhnjgmjkoafpaaDoor
