/- The contracts of the reference's Sums and Same, and of the statements' own 'own' of layer 3. -/
import Derived.Test.YtbjfoopiicppeaaL3Ref
namespace Go.Proofs.Ytbjfoopiicppeaa
open Go.RowKit Go.Proofs.Foldm

/-- a row of the call's own: the slice v of n elements, which lies from block 'base' on -/
def Owns (w : World) (base n : Nat) (xs : List Value) (e : Ending) (w' : World) : Prop :=
  ∃ v, e = .returned v ∧ w'.ownsRow base 2 1 v n xs ∧ Below w.heap.size w w'

set_option maxHeartbeats 1000000 in
theorem own_any (A : Option Addr) (n c : Nat) (l : List (BitVec 64)) (hl : l.length = n) (h3 : n ≤ 300) (w : World) (hr : Row w w.heap.size A (l.map K)) (hA : A = none → c = 0) :
    Calls Try.prog 9 #[.slice A n c] w (Owns w w.heap.size n (l.map K)) := by
  obtain ⟨i0, hi, hz0, hz1, hz2⟩ := info_parts info_i64
  cases A with
  | none =>
    obtain rfl : c = 0 := hA rfl
    have hl0 : l = [] := by
      rcases l with _ | ⟨x, r⟩
      · rfl
      · obtain ⟨ad, h, _⟩ := hr 0 (K x) (by simp)
        cases h
    subst hl0
    obtain rfl : n = 0 := by simpa using hl.symm
    have hap : ∀ (ty : TypeId) (W : World), (Builtin.append_ #[22, 22] ty #[.slice none 0 0, .slice none 0 0]).run Try.prog W = .ok (.slice none 0 0) W := fun ty W => by
      simp [Builtin.append_, run_underlying Try.underlying22, sizeOf, typeInfo, hi, Builtin.lenOf, Builtin.firstCells]
    clear hr hA hl
    go_enter Try.func9, Try.ntmps9
    go_wp2
    go_ret
    exact ⟨_, rfl, World.ownsRow_nil _ _ _ _, Below.refl _ _⟩
  | some ad =>
    have hl' := Lib.hid hl
    have hr' := Lib.hid hr
    clear hl hr hA
    go_enter Try.func9, Try.ntmps9
    go_wp2_with (at_builtin; refine wpList_append_own _ rfl _ _ 22 rfl w.heap.size 2 i0 (.int .i64 0) 1 8 Try.underlying22 hi hz0 hz1 hz2 rfl (by decide) _ 0 [] rfl (World.ownsRow_nil _ _ _ _) ad n c (l.map K) rfl (by simp [hl'.out]) ?c1 ?c2 (by unfold maxLen; omega) (by omega) (Nat.le_refl _) ?_)
    case c1 => exact fun j u hu => (hr'.out.at_ hu).2
    case c2 => intro u hu; simp only [List.mem_map] at hu; obtain ⟨b, _, rfl⟩ := hu; rfl
    intro v' w1 hown hgrow _
    have ho := Lib.hid hown
    have hg := Lib.hid hgrow
    clear hown hgrow
    go_wp2
    go_ret
    refine ⟨_, rfl, ?_, ?_⟩
    · exact ho.out
    · exact (Below.refl _ _).grown hg.out (Nat.le_refl _) (fun k hk => by simp [Value.ownBlock] at hk)

set_option maxHeartbeats 1000000 in
theorem same_yes (A A' : Option Addr) (n c c' : Nat) (l : List (BitVec 64)) (hl : l.length = n) (hn : n ≤ maxLen) (w : World) (hr : Row w w.heap.size A (l.map K)) (hq : Row w w.heap.size A' (l.map K)) :
    Calls Try.prog 15 #[.slice A n c, .slice A' n c'] w fun e w' => e = .returned (.bool true) ∧ Below w.heap.size w w' := by
  unfold maxLen at hn
  have hr' := Lib.hid hr
  have hq' := Lib.hid hq
  have hl' := Lib.hid hl
  clear hr hq hl
  go_enter Try.func15, Try.ntmps15
  go_wp2
  go_loopw [5] (fun i wr => ∃ k : Nat, k ≤ n ∧ i = .int .i64 k ∧ Below w.heap.size w wr) (fun i _ => n - (intOf i).toNat)
  case atStart => exact ⟨0, Nat.zero_le _, rfl, Below.refl _ _⟩
  case round =>
    obtain ⟨k, hk, rfl, hb⟩ := hrel
    have hb' := Lib.hid hb
    clear hb
    by_cases hlt : k < n
    · have hkl : k < l.length := by rw [hl'.out]; exact hlt
      obtain ⟨ad, rfl, hb2, g1⟩ := (hr'.out.below hb'.out) k (K l[k]) (by simp [hkl])
      obtain ⟨ad', rfl, hb3, g2⟩ := (hq'.out.below hb'.out) k (K l[k]) (by simp [hkl])
      go_wp2
      go_quiet (fail)
      go_wp2
      go_roundw
      case rel => exact ⟨k + 1, by omega, by go_num, below_drewN hb'.out _⟩
      case measure => simp [intOf]; omega
    · go_wp2
      go_ret
      exact ⟨rfl, hb'.out⟩

set_option maxHeartbeats 1000000 in
theorem refSums_any (A : Option Addr) (n c : Nat) (l : List (BitVec 64)) (hl : l.length = n) (hn : n ≤ c) (hc : c ≤ maxLen) (h3 : n ≤ 300) (w : World) (hr : Row w w.heap.size A (l.map K)) :
    Calls Try.prog 17 #[.slice A n c] w (Owns w w.heap.size n ((sums l).map K)) := by
  obtain ⟨i0, hi, hz0, hz1, hz2⟩ := info_parts info_i64
  have hr' := Lib.hid hr
  have hl' := Lib.hid hl
  have hc' := Lib.hid hc
  unfold maxLen at hc
  clear hr hl
  go_enter Try.func17, Try.ntmps17
  go_wp2
  go_loopw [3, 4] (fun v i wr => ∃ k : Nat, k ≤ n ∧ i = .int .i64 k ∧ wr.ownsRow w.heap.size 2 1 v k (((sums l).map K).take k) ∧ Below w.heap.size w wr) (fun _ i _ => n - (intOf i).toNat)
  case atStart => exact ⟨0, Nat.zero_le _, rfl, World.ownsRow_nil _ _ _ _, Below.refl _ _⟩
  case round =>
    obtain ⟨k, hk, rfl, hown, hb⟩ := hrel
    have hb' := Lib.hid hb
    have ho' := Lib.hid hown
    clear hb hown
    by_cases hlt : k < n
    · have hkl : k < l.length := by rw [hl'.out]; exact hlt
      have hcut := cut_to (P := Try.prog) Try.underlying22 size_i64 A n c (k + 1) ((k : Int) + 1) (by omega) (by omega)
      have hrk := Lib.hid ((hr'.out.below hb'.out).more hb'.out.size)
      obtain ⟨t, ht⟩ : ∃ t, sum (l.take (k + 1)) = t := ⟨_, rfl⟩
      have hs : (sums l)[k]? = some t := (sums_at l k hkl).trans (by rw [ht])
      have hsum : Hid (∀ W, Row W W.heap.size A ((l.take (k + 1)).map K) → Calls Try.prog 14 #[.slice A (k + 1) c] W fun e w' => e = .returned (K t) ∧ W = w') :=
        fun W h => ht ▸ refSum_at A (k + 1) c (l.take (k + 1)) (by rw [List.length_take]; omega) (by omega) hc'.out W h
      have hrt : Hid (Row wr wr.heap.size A ((l.take (k + 1)).map K)) := by rw [List.map_take]; exact hrk.out.take _
      have hs' := Lib.hid hs
      clear ht hs
      go_wp2_with (first | (go_at_call 14; refine (hsum.out _ hrt.out).mono ?_; rintro e w1 ⟨rfl, rfl⟩) | (at_builtin; refine wpList_append_own _ rfl _ _ 22 rfl w.heap.size 2 i0 (.int .i64 0) 1 8 Try.underlying22 hi hz0 hz1 hz2 rfl (by decide) _ k _ rfl (ho'.out.alloc _) ⟨wr.heap.size, 0, none⟩ 1 1 [K t] rfl rfl (cell_one_new _ _ _) ?c2 (by unfold maxLen; omega) (by omega) ?c5 ?_))
      case c2 => intro u hu; simp at hu; subst hu; rfl
      case c5 => have := hb'.out.size; simp; omega
      intro v' w1 hown hgrow _
      have ho2 := Lib.hid hown
      have hb2 := Lib.hid ((hb'.out.alloc hb'.out.size (.cells #[K t] 2)).grown hgrow (by have := hb'.out.size; simp; omega) (fun g hg => (ho'.out.lt g hg).1))
      clear hown hgrow
      go_wp2
      go_roundw
      case rel =>
        refine ⟨k + 1, by omega, by go_num, ?_, hb2.out⟩
        have e : ((sums l).map K).take (k + 1) = ((sums l).map K).take k ++ [K t] := by
          have hk' : k < ((sums l).map K).length := by rw [List.length_map, sums_length]; exact hkl
          rw [List.take_succ_eq_append_getElem hk']
          congr 2
          have := hs'.out
          rw [List.getElem_map]
          rw [List.getElem?_eq_getElem (by rw [sums_length]; exact hkl)] at this
          rw [Option.some.inj this]
        rw [e]
        exact ho2.out
      case measure => simp [intOf]; omega
    · go_wp2
      go_ret
      have : k = n := by omega
      subst this
      have ho := ho'.out
      rw [List.take_of_length_le (by rw [List.length_map, sums_length, hl'.out]; exact Nat.le_refl _)] at ho
      exact ⟨_, rfl, ho, hb'.out⟩
end Go.Proofs.Ytbjfoopiicppeaa
