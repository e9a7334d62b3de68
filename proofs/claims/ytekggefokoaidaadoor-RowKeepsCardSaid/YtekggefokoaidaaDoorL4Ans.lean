/- What package row, and the document, answer of any row: the same, under names. -/
import Derived.Test.YtekggefokoaidaaDoorL4Find
import Derived.Test.YtekggefokoaidaaDoorL4PutC
namespace Go.Proofs.YtekggefokoaidaaDoor
open Go.RowKit Go.Shelf Go.Proofs.Rowm

/-- a slice of pairs that lies there, and the table of the steps -/
structure Here (W : World) (A : Option Addr) (n c : Nat) (l : List Pr) : Prop where
  len : l.length = n
  few : n ≤ 900
  cap : n ≤ c
  nil : A = none → c = 0
  pos : 0 < W.heap.size
  steps : Steps W
  row : Row W W.heap.size A (flat l)
theorem Here.next {W W' : World} {A : Option Addr} {n c : Nat} {l : List Pr} (h : Here W A n c l) (hb : Below W.heap.size W W') : Here W' A n c l :=
  ⟨h.len, h.few, h.cap, h.nil, Nat.lt_of_lt_of_le h.pos hb.size, h.steps.below h.pos hb, h.row.next hb⟩
theorem Here.k {W : World} {A : Option Addr} {n c : Nat} {l : List Pr} (h : Here W A n c l) : n ≤ 1000 := Nat.le_trans h.few (by omega)

set_option maxHeartbeats 1000000 in
theorem own4_any (A : Option Addr) (n c : Nat) (l : List Pr) (w : World) (h : Here w A n c l) :
    Calls Tryd.prog 7 #[.slice A n c] w fun e w' => ∃ A' c', e = .returned (.slice A' n c') ∧ Here w' A' n c' l ∧ Below w.heap.size w w' := by
  obtain ⟨i0, hi, hz0, hz1, hz2⟩ := info_parts info_pair
  have h' := Lib.hid h
  have hf := h.few
  clear h
  go_enter Tryd.func7, Tryd.ntmps7
  go_wp2_with (at_builtin; refine wpList_append_row rfl _ _ 22 rfl w.heap.size 24 i0 (.agg #[.int .i64 0, .int .i64 0]) 2 16 Tryd.underlying22 hi hz0 hz1 hz2 rfl (by decide) _ 0 [] rfl (World.ownsRow_nil _ _ _ _) A n c (flat l) rfl h'.out.nil h'.out.cap ?c1 _ h'.out.row (flat_one l) (by unfold maxLen; omega) (by omega) (Nat.le_refl _) ?_)
  case c1 => rw [flat_length, h'.out.len]
  intro v w1 hown hgrow
  have hb := (Below.refl w.heap.size w).grown hgrow (Nat.le_refl _) (fun r e => by simp [Value.ownBlock] at e)
  have ho : w1.ownsRow w.heap.size 24 2 v n (flat l) := by simpa using hown
  obtain ⟨A', c', rfl, k1, k2, k3⟩ := own_slice ho
  have hh := Lib.hid (Here.mk h'.out.len h'.out.few k1 k3 (Nat.lt_of_lt_of_le h'.out.pos hb.size) (h'.out.steps.below h'.out.pos hb) (Row.of_own ho))
  have b1 := Lib.hid hb
  clear hown hgrow hb ho k1 k2 k3
  go_wp2
  go_ret
  exact ⟨_, _, rfl, hh.out, b1.out⟩

/-- all answers, under names -/
structure Ans (o p : Nat) (l : List Pr) (x : Pr) (fi : Nat) (ft : Bool) (gv : BitVec 64) (pl : List Pr) (pe : Int) (dl : List Pr) (fl : Pr) (flt : Bool) (cl : Pr) (clt : Bool) : Prop where
  find : ∀ A n c W, Here W A n c l → Calls Tryd.prog 8 #[.int .u8 o, .slice A n c, K x.1] W fun e w' => e = .returned (.tuple #[.int .i64 fi, .bool ft]) ∧ Below W.heap.size W w'
  rfind : ∀ A n c W, Here W A n c l → Calls Tryd.prog 9 #[.int .u8 o, .slice A n c, K x.1] W fun e w' => e = .returned (.tuple #[.int .i64 fi, .bool ft]) ∧ Below W.heap.size W w'
  get : ∀ A n c W, Here W A n c l → Calls Tryd.prog 10 #[.int .u8 o, .slice A n c, K x.1] W fun e w' => e = .returned (.tuple #[K gv, .bool ft]) ∧ Below W.heap.size W w'
  rget : ∀ A n c W, Here W A n c l → Calls Tryd.prog 11 #[.int .u8 o, .slice A n c, K x.1] W fun e w' => e = .returned (.tuple #[K gv, .bool ft]) ∧ Below W.heap.size W w'
  put : ∀ A n c W, Here W A n c l → Calls Tryd.prog 12 #[.int .u8 o, .int .u8 p, .slice A n c, pV x] W (MadeT W pl (.int .i64 pe))
  rput : ∀ A n c W, Here W A n c l → Calls Tryd.prog 13 #[.int .u8 o, .int .u8 p, .slice A n c, pV x] W (MadeT W pl (.int .i64 pe))
  drop : ∀ A n c W, Here W A n c l → Calls Tryd.prog 14 #[.int .u8 o, .slice A n c, K x.1] W (MadeT W dl (.bool ft))
  rdrop : ∀ A n c W, Here W A n c l → Calls Tryd.prog 15 #[.int .u8 o, .slice A n c, K x.1] W (MadeT W dl (.bool ft))
  floor : ∀ A n c W, Here W A n c l → Calls Tryd.prog 16 #[.int .u8 o, .slice A n c, K x.1] W fun e w' => e = .returned (.tuple #[pV fl, .bool flt]) ∧ Below W.heap.size W w'
  rfloor : ∀ A n c W, Here W A n c l → Calls Tryd.prog 17 #[.int .u8 o, .slice A n c, K x.1] W fun e w' => e = .returned (.tuple #[pV fl, .bool flt]) ∧ Below W.heap.size W w'
  ceil : ∀ A n c W, Here W A n c l → Calls Tryd.prog 18 #[.int .u8 o, .slice A n c, K x.1] W fun e w' => e = .returned (.tuple #[pV cl, .bool clt]) ∧ Below W.heap.size W w'
  rceil : ∀ A n c W, Here W A n c l → Calls Tryd.prog 19 #[.int .u8 o, .slice A n c, K x.1] W fun e w' => e = .returned (.tuple #[pV cl, .bool clt]) ∧ Below W.heap.size W w'
  few : pl.length ≤ 1000 ∧ dl.length ≤ 1000

theorem ans_of (o p : Nat) (l : List Pr) (hl : l.length ≤ 900) (x : Pr) : ∃ fi ft gv pl pe dl fl flt cl clt, Ans o p l x fi ft gv pl pe dl fl flt cl clt := by
  cases hm : mayB o l with
  | false =>
    exact ⟨0, false, 0#64, [], 2, [], (0#64, 0#64), false, (0#64, 0#64), false,
      fun A n c W h => find_no o A n c l x.1 hm h.len h.k W h.pos h.steps h.row, fun A n c W h => refFind_no o A n c l x.1 hm h.len h.k W h.row,
      fun A n c W h => get_no o A n c l x.1 hm h.len h.k W h.pos h.steps h.row, fun A n c W h => refGet_no o A n c l x.1 hm h.len h.k W h.row,
      fun A n c W h => put_no o p A n c l x hm h.len h.k W h.pos h.steps h.row, fun A n c W h => refPut_no o p A n c l x hm h.len h.k W h.row,
      fun A n c W h => drop_no o A n c l x.1 hm h.len h.k W h.pos h.steps h.row, fun A n c W h => refDrop_no o A n c l x.1 hm h.len h.k W h.row,
      fun A n c W h => floor_no o A n c l x.1 hm h.len h.k W h.pos h.steps h.row, fun A n c W h => refFloor_no o A n c l x.1 hm h.len h.k W h.row,
      fun A n c W h => ceil_no o A n c l x.1 hm h.len h.k W h.pos h.steps h.row, fun A n c W h => refCeil_no o A n c l x.1 hm h.len h.k W h.row, by simp⟩
  | true =>
    have ha := at_of (mayB_parts hm).2.2 x.1
    generalize pos o x.1 l = i at ha
    generalize upto o x.1 l = j at ha
    have hd := ha.len_drop
    have hle := ha.le
    by_cases hp : 1 ≤ p ∧ p ≤ 3
    · have hu := ha.len_put (p := p)
      exact ⟨i, decide (i < j), valAt l i j, putAt p l x i j, 0, dropAt l i j, floorAt l j, decide (0 < j), ceilAt l i, decide (i < l.length),
        fun A n c W h => find_yes o A n c l x.1 i j _ rfl hm ha h.len h.k W h.pos h.steps h.row, fun A n c W h => refFind_yes o A n c l x.1 i j _ rfl hm ha h.len h.k W h.row,
        fun A n c W h => get_yes o A n c l x.1 i j _ rfl hm ha h.len h.k W h.pos h.steps h.row, fun A n c W h => refGet_yes o A n c l x.1 i j _ rfl hm ha h.len h.k W h.row,
        fun A n c W h => put_yes o p hp.1 hp.2 A n c l x i j hm ha h.len h.few h.cap h.nil W h.pos h.steps h.row, fun A n c W h => refPut_yes o p hp.1 hp.2 A n c l x i j hm ha h.len h.k h.cap h.nil W h.row,
        fun A n c W h => drop_yes o A n c l x.1 i j _ rfl hm ha h.len h.few h.cap h.nil W h.pos h.steps h.row, fun A n c W h => refDrop_yes o A n c l x.1 i j _ rfl hm ha h.len h.k W h.row,
        fun A n c W h => floor_yes o A n c l x.1 i j _ rfl _ rfl hm ha h.len h.k W h.pos h.steps h.row, fun A n c W h => refFloor_yes o A n c l x.1 i j _ rfl _ rfl hm ha h.len h.k W h.row,
        fun A n c W h => ceil_yes o A n c l x.1 i j _ (by rw [h.len]) _ rfl hm ha h.len h.k W h.pos h.steps h.row, fun A n c W h => refCeil_yes o A n c l x.1 i j _ (by rw [h.len]) _ rfl hm ha h.len h.k W h.row, by omega⟩
    · have hp' : ¬ (1 ≤ (p : Int) ∧ (p : Int) ≤ 3) := fun ⟨a, b⟩ => hp ⟨by omega, by omega⟩
      exact ⟨i, decide (i < j), valAt l i j, [], 2, dropAt l i j, floorAt l j, decide (0 < j), ceilAt l i, decide (i < l.length),
        fun A n c W h => find_yes o A n c l x.1 i j _ rfl hm ha h.len h.k W h.pos h.steps h.row, fun A n c W h => refFind_yes o A n c l x.1 i j _ rfl hm ha h.len h.k W h.row,
        fun A n c W h => get_yes o A n c l x.1 i j _ rfl hm ha h.len h.k W h.pos h.steps h.row, fun A n c W h => refGet_yes o A n c l x.1 i j _ rfl hm ha h.len h.k W h.row,
        fun A n c W h => put_none o p hp' A n c l x hm h.len h.k W h.pos h.steps h.row, fun A n c W h => refPut_none o p hp' A n c l x hm h.len h.k W h.row,
        fun A n c W h => drop_yes o A n c l x.1 i j _ rfl hm ha h.len h.few h.cap h.nil W h.pos h.steps h.row, fun A n c W h => refDrop_yes o A n c l x.1 i j _ rfl hm ha h.len h.k W h.row,
        fun A n c W h => floor_yes o A n c l x.1 i j _ rfl _ rfl hm ha h.len h.k W h.pos h.steps h.row, fun A n c W h => refFloor_yes o A n c l x.1 i j _ rfl _ rfl hm ha h.len h.k W h.row,
        fun A n c W h => ceil_yes o A n c l x.1 i j _ (by rw [h.len]) _ rfl hm ha h.len h.k W h.pos h.steps h.row, fun A n c W h => refCeil_yes o A n c l x.1 i j _ (by rw [h.len]) _ rfl hm ha h.len h.k W h.row, by simp; omega⟩
end Go.Proofs.YtekggefokoaidaaDoor
