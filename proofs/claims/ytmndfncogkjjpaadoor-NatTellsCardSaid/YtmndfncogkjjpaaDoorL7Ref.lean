/- The document's own answers of layer 7: Add, Mul, Pow, Cmp, Fib; the statements' own 'own'. -/
import Derived.Test.YtmndfncogkjjpaaDoorL7Mul
namespace Go.Proofs.YtmndfncogkjjpaaDoor
open Go.RowKit Go.Proofs.Natm
set_option maxRecDepth 100000

/-- a row of words that lies there -/
structure LieW (W : World) (A : Option Addr) (n c : Nat) (l : List Nat) : Prop where
  lie : LieV W A n c (l.map U)
  words : ∀ d ∈ l, d < Wd
theorem LieW.next {W W' : World} {A : Option Addr} {n c : Nat} {l : List Nat} (h : LieW W A n c l) (hb : Below W.heap.size W W') : LieW W' A n c l := ⟨h.lie.next hb, h.words⟩
theorem LieW.len {W : World} {A : Option Addr} {n c : Nat} {l : List Nat} (h : LieW W A n c l) : l.length = n := by have := h.lie.len; rwa [List.length_map] at this
/-- the number that words are -/
def num (l : List Nat) : Nat := val Wd l
def addL (a b : List Nat) : List Nat := if mayL a && mayL b then fitL (num a + num b) else []
def addE (a b : List Nat) : Int := if mayL a && mayL b then fitE (num a + num b) else 2
def mulL (a b : List Nat) : List Nat := if mayL a && mayL b then fitL (num a * num b) else []
def mulE (a b : List Nat) : Int := if mayL a && mayL b then fitE (num a * num b) else 2
def powL (a : List Nat) (e : Int) : List Nat := if mayL a && decide (0 ≤ e) && decide (e ≤ 200) then fitL (num a ^ e.toNat) else []
def powE (a : List Nat) (e : Int) : Int := if mayL a && decide (0 ≤ e) && decide (e ≤ 200) then fitE (num a ^ e.toNat) else 2
def cmpL (a b : List Nat) : Int := if mayL a && mayL b then cmpN (num a) (num b) else 0
def fibL (n : Int) : List Nat := if decide (0 ≤ n) && decide (n ≤ 200) then fitL (fib n.toNat) else []
def fibE (n : Int) : Int := if decide (0 ≤ n) && decide (n ≤ 200) then fitE (fib n.toNat) else 2
theorem fit_words (v : Nat) : ∀ d ∈ fitL v, d < Wd := fun d h => by
  unfold fitL at h
  split at h
  · exact dig_words v d h
  · cases h

/-- the bytes of a row of words that may be -/
theorem bytes7_of (A : Option Addr) (n c : Nat) (l : List Nat) (hm : mayL l = true) (w : World) (h : LieW w A n c l) : Calls Tryd.prog 30 #[.slice A n c] w (MadeV w (Natm.size 256 (num l)) ((dig 256 (num l)).map I)) := by
  obtain ⟨h1, h2⟩ := may_dig hm h.words
  have hs : Natm.size Wd (num l) = n := by rw [← dig_len]; unfold num; rw [h1]; exact h.len
  have h3 : n ≤ 128 := by rw [← hs]; exact size_top.2 h2
  exact bytes7_any A n c (num l) hs h3 w (by unfold num; rw [h1]; exact h.lie)
theorem few_bytes {l : List Nat} (hm : mayL l = true) (hw : ∀ d ∈ l, d < Wd) : Natm.size 256 (num l) ≤ 512 := by
  obtain ⟨_, h2⟩ := may_dig hm hw
  have h3 := (words_size (num l)).1
  have h4 : Natm.size Wd (num l) ≤ 128 := size_top.2 h2
  omega
theorem refMay7_is {l : List Nat} {t : Bool} (ht : mayL l = t) {A : Option Addr} {n c : Nat} {w : World} (h : LieW w A n c l) : Calls Tryd.prog 17 #[.slice A n c] w fun e w' => e = .returned (.bool t) ∧ w = w' := ht ▸ refMay7_any A n c l w h.lie

set_option maxHeartbeats 1000000 in
theorem refAdd7_any (A B : Option Addr) (n c m d : Nat) (a b : List Nat) (w : World) (hA : LieW w A n c a) (hB : LieW w B m d b) : Calls Tryd.prog 10 #[.slice A n c, .slice B m d] w (MadeVE w (addL a b).length ((addL a b).map U) (addE a b)) := by
  cases ha : mayL a with
  | false =>
    have hM := Lib.hid (refMay7_is ha hA)
    have e1 : addL a b = [] := by unfold addL; rw [ha]; rfl
    have e2 : addE a b = 2 := by unfold addE; rw [ha]; rfl
    rw [e1, e2]
    clear hA hB e1 e2
    go_enter Tryd.func10, Tryd.ntmps10
    go_wp2_with (go_at_call 17; refine hM.out.mono ?_; rintro e w' ⟨rfl, rfl⟩)
    go_ret2
    exact ⟨_, _, rfl, LieV.empty _, (fun ad e => by cases e), Below.refl _ _⟩
  | true =>
    have hM := Lib.hid (refMay7_is ha hA)
    cases hb : mayL b with
    | false =>
      have hM2 := Lib.hid (refMay7_is hb hB)
      have e1 : addL a b = [] := by unfold addL; rw [ha, hb]; rfl
      have e2 : addE a b = 2 := by unfold addE; rw [ha, hb]; rfl
      rw [e1, e2]
      clear hA hB e1 e2
      go_enter Tryd.func10, Tryd.ntmps10
      go_wp2_with fail
      refine hM.out.mono ?_
      rintro e w' ⟨rfl, rfl⟩
      go_wp2_with fail
      refine hM2.out.mono ?_
      rintro e w' ⟨rfl, rfl⟩
      go_wp2
      go_ret2
      exact ⟨_, _, rfl, LieV.empty _, (fun ad e => by cases e), Below.refl _ _⟩
    | true =>
      have hM2 := Lib.hid (refMay7_is hb hB)
      have e1 : addL a b = fitL (num a + num b) := by unfold addL; rw [ha, hb]; rfl
      have e2 : addE a b = fitE (num a + num b) := by unfold addE; rw [ha, hb]; rfl
      rw [e1, e2]
      have f1 := few_bytes ha hA.words
      have f2 := few_bytes hb hB.words
      have hA' := Lib.hid hA
      have hB' := Lib.hid hB
      have cA := Lib.hid (bytes7_of A n c a ha w hA)
      have cB := Lib.hid (fun W hW => bytes7_of B m d b hb W hW)
      clear hA hB e1 e2 ha hb
      go_enter Tryd.func10, Tryd.ntmps10
      go_wp2_with fail
      refine hM.out.mono ?_
      rintro e w' ⟨rfl, rfl⟩
      go_wp2_with fail
      refine hM2.out.mono ?_
      rintro e w' ⟨rfl, rfl⟩
      go_wp2_with fail
      refine cA.out.mono ?_
      rintro e w1 ⟨A1, c1, rfl, hL, _, hb⟩
      have l1 := Lib.hid hL
      have b1 := Lib.hid hb
      have q1 := Lib.hid (hB'.out.next hb)
      clear hL hb
      go_wp2_with fail
      refine (cB.out _ q1.out).mono ?_
      rintro e w2 ⟨A2, c2, rfl, hL, _, hb⟩
      have r2 := Lib.hid hL
      have l2 := Lib.hid (l1.out.next hb)
      have b2 := Lib.hid (Below.after b1.out hb)
      clear hL hb
      go_wp2_with fail
      refine (add7_any A1 A2 _ c1 _ c2 (num a) (num b) rfl rfl (by omega) (by omega) _ l2.out r2.out).mono ?_
      rintro e w3 ⟨A3, c3, rfl, hL, _, hb⟩
      have s3 := Lib.hid hL
      have b3 := Lib.hid (Below.after b2.out hb)
      clear hL hb
      go_wp2_with fail
      refine (fits7_any A3 _ c3 (num a + num b) rfl _ s3.out).mono ?_
      rintro e w4 ⟨A4, c4, rfl, hL, hab, hb⟩
      have s4 := Lib.hid hL
      have a4 := Lib.hid (fun ad e => Nat.le_trans b3.out.size (hab ad e))
      have b4 := Lib.hid (Below.after b3.out hb)
      clear hL hb hab
      go_wp2
      go_ret2
      exact ⟨_, _, rfl, s4.out, a4.out, b4.out⟩

set_option maxHeartbeats 1000000 in
theorem refMul7_any (A B : Option Addr) (n c m d : Nat) (a b : List Nat) (w : World) (hA : LieW w A n c a) (hB : LieW w B m d b) : Calls Tryd.prog 12 #[.slice A n c, .slice B m d] w (MadeVE w (mulL a b).length ((mulL a b).map U) (mulE a b)) := by
  cases ha : mayL a with
  | false =>
    have hM := Lib.hid (refMay7_is ha hA)
    have e1 : mulL a b = [] := by unfold mulL; rw [ha]; rfl
    have e2 : mulE a b = 2 := by unfold mulE; rw [ha]; rfl
    rw [e1, e2]
    clear hA hB e1 e2
    go_enter Tryd.func12, Tryd.ntmps12
    go_wp2_with (go_at_call 17; refine hM.out.mono ?_; rintro e w' ⟨rfl, rfl⟩)
    go_ret2
    exact ⟨_, _, rfl, LieV.empty _, (fun ad e => by cases e), Below.refl _ _⟩
  | true =>
    have hM := Lib.hid (refMay7_is ha hA)
    cases hb : mayL b with
    | false =>
      have hM2 := Lib.hid (refMay7_is hb hB)
      have e1 : mulL a b = [] := by unfold mulL; rw [ha, hb]; rfl
      have e2 : mulE a b = 2 := by unfold mulE; rw [ha, hb]; rfl
      rw [e1, e2]
      clear hA hB e1 e2
      go_enter Tryd.func12, Tryd.ntmps12
      go_wp2_with fail
      refine hM.out.mono ?_
      rintro e w' ⟨rfl, rfl⟩
      go_wp2_with fail
      refine hM2.out.mono ?_
      rintro e w' ⟨rfl, rfl⟩
      go_wp2
      go_ret2
      exact ⟨_, _, rfl, LieV.empty _, (fun ad e => by cases e), Below.refl _ _⟩
    | true =>
      have hM2 := Lib.hid (refMay7_is hb hB)
      have e1 : mulL a b = fitL (num a * num b) := by unfold mulL; rw [ha, hb]; rfl
      have e2 : mulE a b = fitE (num a * num b) := by unfold mulE; rw [ha, hb]; rfl
      rw [e1, e2]
      have f1 := few_bytes ha hA.words
      have f2 := few_bytes hb hB.words
      have hA' := Lib.hid hA
      have hB' := Lib.hid hB
      have cA := Lib.hid (bytes7_of A n c a ha w hA)
      have cB := Lib.hid (fun W hW => bytes7_of B m d b hb W hW)
      clear hA hB e1 e2 ha hb
      go_enter Tryd.func12, Tryd.ntmps12
      go_wp2_with fail
      refine hM.out.mono ?_
      rintro e w' ⟨rfl, rfl⟩
      go_wp2_with fail
      refine hM2.out.mono ?_
      rintro e w' ⟨rfl, rfl⟩
      go_wp2_with fail
      refine cA.out.mono ?_
      rintro e w1 ⟨A1, c1, rfl, hL, _, hb⟩
      have l1 := Lib.hid hL
      have b1 := Lib.hid hb
      have q1 := Lib.hid (hB'.out.next hb)
      clear hL hb
      go_wp2_with fail
      refine (cB.out _ q1.out).mono ?_
      rintro e w2 ⟨A2, c2, rfl, hL, _, hb⟩
      have r2 := Lib.hid hL
      have l2 := Lib.hid (l1.out.next hb)
      have b2 := Lib.hid (Below.after b1.out hb)
      clear hL hb
      go_wp2_with fail
      refine (mul7_any A1 A2 _ c1 _ c2 (num a) (num b) rfl rfl (by omega) (by omega) _ l2.out r2.out).mono ?_
      rintro e w3 ⟨A3, c3, rfl, hL, _, hb⟩
      have s3 := Lib.hid hL
      have b3 := Lib.hid (Below.after b2.out hb)
      clear hL hb
      go_wp2_with fail
      refine (fits7_any A3 _ c3 (num a * num b) rfl _ s3.out).mono ?_
      rintro e w4 ⟨A4, c4, rfl, hL, hab, hb⟩
      have s4 := Lib.hid hL
      have a4 := Lib.hid (fun ad e => Nat.le_trans b3.out.size (hab ad e))
      have b4 := Lib.hid (Below.after b3.out hb)
      clear hL hb hab
      go_wp2
      go_ret2
      exact ⟨_, _, rfl, s4.out, a4.out, b4.out⟩

set_option maxHeartbeats 1000000 in
theorem own7_any (A : Option Addr) (n c : Nat) (l : List Nat) (w : World) (h : LieW w A n c l) : Calls Tryd.prog 8 #[.slice A n c] w (MadeV w n (l.map U)) := by
  obtain ⟨i0, hi, hz0, hz1, hz2⟩ := info_parts info_u32
  have h' := Lib.hid h
  have hf := h.lie.few
  clear h
  go_enter Tryd.func8, Tryd.ntmps8
  go_wp2_with (at_builtin; refine wpList_append_row rfl _ _ 23 rfl w.heap.size 42 i0 (.int .u32 0) 1 4 Tryd.underlying23 hi hz0 hz1 hz2 rfl (by decide) _ 0 [] rfl (World.ownsRow_nil _ _ _ _) A n c (l.map U) rfl h'.out.lie.nil h'.out.lie.cap ?c1 _ h'.out.lie.row (words_one l) (by unfold maxLen; omega) (by omega) (Nat.le_refl _) ?_)
  case c1 => rw [h'.out.lie.len, Nat.mul_one]
  intro v w1 hown hgrow
  have hb := (Below.refl w.heap.size w).grown hgrow (Nat.le_refl _) (fun r e => by simp [Value.ownBlock] at e)
  have o1 : w1.ownsRow w.heap.size 42 1 v n (l.map U) := by simpa using hown
  obtain ⟨A1, c1, rfl, hL, hab⟩ := LieV.of_own (by rw [List.length_map]; exact h'.out.len) hf o1
  have l1 := Lib.hid hL
  have a1 := Lib.hid hab
  have b1 := Lib.hid hb
  clear hown hgrow hb o1 hL hab
  go_wp2
  go_ret
  exact ⟨_, _, rfl, l1.out, a1.out, b1.out⟩
end Go.Proofs.YtmndfncogkjjpaaDoor
