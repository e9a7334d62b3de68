/- The document's own answers of layer 11: take. Made by wip/gen/layer11take.py. -/
import Derived.Test.YtlhnjgmjkoafpaaDoorL11Line
import Derived.Test.YtlhnjgmjkoafpaaDoorL9Steps
namespace Go.Proofs.YtlhnjgmjkoafpaaDoor
open Go.RowKit Go.Proofs.Treem
set_option maxRecDepth 100000

/-- how take ends -/
def Took (w : World) (o : Option (Tr × List UInt8)) (e : Ending) (w' : World) : Prop := match o with
  | some (t, rest) => ∃ A c, e = .returned (.tuple #[.slice A t.size c, sV rest, .bool true]) ∧ LieB w' w'.heap.size A t.size c t.told ∧ Below w.heap.size w w'
  | none => e = .returned (.tuple #[.slice none 0 0, sV [], .bool false]) ∧ Below w.heap.size w w'
theorem took_none {w w' : World} {o : Option (Tr × List UInt8)} (h : o = none) (hb : Below w.heap.size w w') : Took w o (.returned (.tuple #[.slice none 0 0, sV [], .bool false])) w' := by subst h; exact ⟨rfl, hb⟩
/-- a text that is not empty, as the walk reads it -/
structure Front (s : List UInt8) (c : UInt8) (r : List UInt8) : Prop where
  is : s = c :: r
theorem Front.at (P : Program) {T : TypeId} (ht : P.underlying T = some .string) {s : List UInt8} {c : UInt8} {r : List UInt8} (h : Front s c r) : ∀ W, (Instr.index T (sV s) (.int .i64 0)).run P W = .ok (.int .u8 (c.toNat : Int)) W := by
  have := str_at ht s 0 (by rw [h.is]; simp) 0 rfl
  intro W
  rw [this W]
  obtain ⟨rfl⟩ := h
  rfl
theorem Front.from (P : Program) {T : TypeId} (ht : P.underlying T = some .string) {s : List UInt8} {c : UInt8} {r : List UInt8} (h : Front s c r) (k : Nat) (hk : k ≤ r.length) (z : Int) (hz : z = 1 + (k : Int)) : ∀ W, (Instr.slice T (sV s) (some (.int .i64 z)) none none).run P W = .ok (sV (r.drop k)) W := by
  have := str_from ht s (1 + k) (by rw [h.is, List.length_cons]; omega) z (by omega)
  intro W
  rw [this W]
  obtain ⟨rfl⟩ := h
  rw [Nat.add_comm 1 k, List.drop_succ_cons]
theorem list_or (l : List UInt8) : l = [] ∨ ∃ c r, l = c :: r := by cases l <;> simp
theorem byte_eq {c d : UInt8} (h : c = d) : ((c.toNat : Int) == (d.toNat : Int)) = true := by rw [h]; exact beq_self_eq_true _
theorem byte_ne {c d : UInt8} (h : ¬ c = d) : ((c.toNat : Int) == (d.toNat : Int)) = false := by rw [beq_eq_false_iff_ne]; intro e; exact h (UInt8.toNat_inj.1 (by omega))
theorem tag_yes (r : List UInt8) (u : UInt8) (h : u = 35) : tagOf (u :: r) = (wordL r, r.drop (wordL r).length) := by subst h; rfl
theorem tag_no (r : List UInt8) (u : UInt8) (h : ¬ u = 35) : tagOf (u :: r) = ([48], u :: r) := by
  unfold tagOf
  split
  · rename_i e; exact absurd (List.cons.inj e).1 h
  · rfl
/-- behind the blank: what the second call answers -/
def tkB (a : Tr) (k v g : List UInt8) (o2 : Option (Tr × List UInt8)) : Option (Tr × List UInt8) := match o2 with
  | none => none
  | some q => tk4 a k v g q.1 q.2
theorem tk3_go (rec : List UInt8 → Option (Tr × List UInt8)) (a : Tr) (k v g : List UInt8) (x : UInt8) (r : List UInt8) (h : x = 32) (o2 : Option (Tr × List UInt8)) (h2 : rec r = o2) :
    tk3 rec a k v g (x :: r) = tkB a k v g o2 := by
  subst h h2
  rw [tk3, if_pos rfl]
  cases rec r <;> rfl
theorem short (l : List UInt8) (n : Nat) (h : (⟨l.toArray⟩ : ByteArray).size = n) (hn : n ≤ 4200) : l.length ≤ 1048576 := by
  rw [show (⟨l.toArray⟩ : ByteArray).size = l.length from List.size_toArray] at h
  omega
theorem word_len (s : List UInt8) : (wordL s).length ≤ s.length := List.IsPrefix.length_le (List.takeWhile_prefix _)
theorem lie_none (w : World) : LieB w w.heap.size none 0 0 [] := ⟨rfl, Nat.zero_le _, Nat.le_refl _, Nat.zero_le _, fun _ => rfl, Row.none_ _ _ _⟩
set_option maxHeartbeats 4000000 in
theorem refTake11 {T : World → Prop} (hS : TextSays T) : ∀ (d : Nat) (s : List UInt8), s.length ≤ 4200 → d ≤ 4096 → ∀ (w : World) (z : Int), z = (d : Int) → T w →
    Calls Tryd.prog 42 #[sV s, .int .i64 z] w (Took w (tk d s)) := by
  intro d
  induction d with
  | zero =>
    intro s hs hd w z hz hT
    obtain ⟨o, ho⟩ : ∃ o, tk 0 s = o := ⟨_, rfl⟩
    rw [ho]
    have ho' := Lib.hid ho
    have z0 : (z == 0) = true := by rw [hz]; rfl
    clear ho hT hS hz hd
    rcases list_or s with hs0 | ⟨c, s1, hs0⟩
    · have ne_s : s.isEmpty = true := by rw [hs0]; rfl
      have hp : o = none := ho'.out.symm.trans (by rw [hs0]; rfl)
      go_enter Tryd.func42, Tryd.ntmps42
      go_wp2
      go_ret3
      exact took_none hp (Below.refl _ _)
    · have hs' := Lib.hid hs0
      have F_s : Front s c s1 := ⟨hs0⟩
      have at_s := F_s.at Tryd.prog Tryd.underlying9
      have ne_s : s.isEmpty = false := by rw [hs0]; rfl
      have fr_s := F_s.from Tryd.prog Tryd.underlying9 0 (Nat.zero_le _) 1 rfl
      rw [List.drop_zero] at fr_s
      clear hs0 F_s
      by_cases h_c : c = 46
      · have e_c : ((c.toNat : Int) == 46) = true := byte_eq (d := 46) h_c
        have e0 : Hid (o = some (.e, s1)) := by show o = _; rw [← ho'.out, hs'.out, h_c]; exact tk_dot _ _
        clear h_c
        go_enter Tryd.func42, Tryd.ntmps42
        go_wp2
        go_quiet (fail)
        go_wp2
        go_ret3
        rw [e0.out]
        exact ⟨none, 0, rfl, lie_none _, below_drewN (Below.refl _ _) _⟩
      · have e_c : ((c.toNat : Int) == 46) = false := byte_ne (d := 46) h_c
        have hp : o = none := ho'.out.symm.trans (by rw [hs'.out]; exact if_neg h_c)
        by_cases f_h : c = 40
        · have f_c : ((c.toNat : Int) == 40) = true := byte_eq (d := 40) f_h
          have g_c : ((c.toNat : Int) != 40) = false := by rw [bne, f_c]; rfl
          clear f_h h_c
          go_enter Tryd.func42, Tryd.ntmps42
          go_wp2
          go_ret3
          exact took_none hp (Below.refl _ _)
        · have f_c : ((c.toNat : Int) == 40) = false := byte_ne (d := 40) f_h
          have g_c : ((c.toNat : Int) != 40) = true := by rw [bne, f_c]; rfl
          clear f_h h_c
          go_enter Tryd.func42, Tryd.ntmps42
          go_wp2
          go_ret3
          exact took_none hp (Below.refl _ _)
  | succ d ih =>
    intro s hs hd w z hz hT
    obtain ⟨o, ho⟩ : ∃ o, tk (d + 1) s = o := ⟨_, rfl⟩
    rw [ho]
    have ho' := Lib.hid ho
    have hT' := Lib.hid hT
    have hS' := Lib.hid hS
    have ih' := Lib.hid ih
    have z0 : (z == 0) = false := by rw [beq_eq_false_iff_ne]; omega
    have z1 : z - 1 = (d : Int) := by omega
    have z2 : 0 ≤ z := by omega
    have z3 : z ≤ 4097 := by omega
    clear ho hT hS ih hz
    rcases list_or s with hs0 | ⟨c, s1, hs0⟩
    · have ne_s : s.isEmpty = true := by rw [hs0]; rfl
      go_enter Tryd.func42, Tryd.ntmps42
      have hp : o = none := ho'.out.symm.trans (by rw [hs0]; rfl)
      go_wp2
      go_ret3
      exact took_none hp (Below.refl _ _)
    · have hs1 : s1.length ≤ 4200 := by rw [hs0, List.length_cons] at hs; omega
      have hs' := Lib.hid hs0
      have F_s : Front s c s1 := ⟨hs0⟩
      have at_s := F_s.at Tryd.prog Tryd.underlying9
      have ne_s : s.isEmpty = false := by rw [hs0]; rfl
      have fr_s := F_s.from Tryd.prog Tryd.underlying9 0 (Nat.zero_le _) 1 rfl
      rw [List.drop_zero] at fr_s
      clear hs0 F_s
      by_cases h_c : c = 46
      · have e_c : ((c.toNat : Int) == 46) = true := byte_eq (d := 46) h_c
        have e0 : Hid (o = some (.e, s1)) := by show o = _; rw [← ho'.out, hs'.out, h_c]; exact tk_dot _ _
        clear h_c
        go_enter Tryd.func42, Tryd.ntmps42
        go_wp2
        go_quiet (fail)
        go_wp2
        go_ret3
        rw [e0.out]
        exact ⟨none, 0, rfl, lie_none _, below_drewN (Below.refl _ _) _⟩
      · have e_c : ((c.toNat : Int) == 46) = false := byte_ne (d := 46) h_c
        have h46 := h_c
        clear h_c
        by_cases h_c : c = 40
        · have f_c : ((c.toNat : Int) == 40) = true := byte_eq (d := 40) h_c
          have g_c : ((c.toNat : Int) != 40) = false := by rw [bne, f_c]; rfl
          have hc' := Lib.hid h_c
          clear h_c h46
          have c1 := Lib.hid (ih'.out s1 hs1 (by omega) w (d : Int) rfl hT'.out)
          obtain ⟨o1, ho1⟩ : ∃ o1, tk d s1 = o1 := ⟨_, rfl⟩
          rw [ho1] at c1
          have ho1' := Lib.hid ho1
          have hlra := Lib.hid (fun ta ra (h : o1 = some (ta, ra)) => tk_size _ _ _ _ (ho1.trans h))
          clear ho1
          go_enter Tryd.func42, Tryd.ntmps42
          go_wp2_with fail
          cases o1 with
          | none =>
            refine c1.out.mono ?_
            rintro e w1 ⟨rfl, hb1⟩
            have b1 := Lib.hid hb1
            clear hb1
            have hp : o = none := ho'.out.symm.trans (by rw [hs'.out, hc'.out, tk_deep, ho1'.out]; rfl)
            go_wp2
            go_ret3
            exact took_none hp b1.out
          | some q =>
            obtain ⟨ta, ra⟩ := q
            have lra := hlra.out ta ra rfl
            refine c1.out.mono ?_
            rintro e w1 ⟨A1, k1, rfl, hl1, hb1⟩
            have b1 := Lib.hid hb1
            have q1 := Lib.hid hl1
            clear hb1 hl1
            rcases list_or ra with hra | ⟨x, r1, hra⟩
            · have ne_ra : ra.isEmpty = true := by rw [hra]; rfl
              have hp : o = none := ho'.out.symm.trans (by rw [hs'.out, hc'.out, tk_deep, ho1'.out]; simp only [tk0, tk1, hra])
              go_wp2
              go_ret3
              exact took_none hp b1.out
            · have hk1 : Hid (tk1 (tk d) ta ra = o) := ho'.out ▸ (by rw [hs'.out, hc'.out, tk_deep, ho1'.out]; rfl)
              have lra' : ra.length ≤ 4200 := by omega
              have F_ra : Front ra x r1 := ⟨hra⟩
              have at_ra := F_ra.at Tryd.prog Tryd.underlying9
              have ne_ra : ra.isEmpty = false := by rw [hra]; rfl
              have mr1 : r1.length < ra.length := by rw [hra, List.length_cons]; omega
              have lr1 : r1.length ≤ 4200 := by rw [hra, List.length_cons] at lra'; omega
              have hra_ := Lib.hid hra
              clear hra
              by_cases h_x : x = 32
              rotate_left
              · have e_x : ((x.toNat : Int) == 32) = false := byte_ne (d := 32) h_x
                have g_x : ((x.toNat : Int) != 32) = true := by rw [bne, e_x]; rfl
                have hp : o = none := hk1.out.symm.trans (by rw [hra_.out]; exact if_neg h_x)
                go_wp2
                go_ret3
                exact took_none hp b1.out
              have e_x : ((x.toNat : Int) == 32) = true := byte_eq (d := 32) h_x
              have g_x : ((x.toNat : Int) != 32) = false := by rw [bne, e_x]; rfl
              have hk2 : tk2 (tk d) ta (wordL r1) (r1.drop (wordL r1).length) = o := hk1.out ▸ (by rw [hra_.out]; exact (if_pos h_x).symm)
              clear hk1
              have fr_ra := F_ra.from Tryd.prog Tryd.underlying9 0 (Nat.zero_le _) 1 rfl
              rw [List.drop_zero] at fr_ra
              obtain ⟨wk, hwk⟩ : ∃ t, wordL r1 = t := ⟨_, rfl⟩
              obtain ⟨kk, hkk⟩ : ∃ n, wk.length = n := ⟨_, rfl⟩
              have lkk := word_len r1
              rw [hwk, hkk] at lkk
              have zkk : (⟨wk.toArray⟩ : ByteArray).size = kk := by rw [← hkk]; exact List.size_toArray
              have wkk := word_any r1 (by omega)
              rw [hwk] at wkk hk2
              rw [hkk] at hk2
              have ckk := Lib.hid wkk
              obtain ⟨r2, hr2⟩ : ∃ t, r1.drop kk = t := ⟨_, rfl⟩
              rw [hr2] at hk2
              have fs_ra := F_ra.from Tryd.prog Tryd.underlying9 kk lkk (1 + (kk : Int)) rfl
              rw [hr2] at fs_ra
              have lr2 : r2.length ≤ r1.length := by rw [← hr2, List.length_drop]; omega
              have ukk : kk ≤ 4200 := by omega
              clear wkk hkk hwk hr2 F_ra
              have hk2' := Lib.hid hk2
              clear hk2 hra_ h_x
              go_wp2_with fail
              refine (ckk.out w1).mono ?_
              rintro e w2 ⟨rfl, rfl⟩
              rcases list_or r2 with hr2 | ⟨y, r3, hr2⟩
              · have ne_r2 : r2.isEmpty = true := by rw [hr2]; rfl
                have hp : o = none := hk2'.out.symm.trans (by rw [hr2]; rfl)
                go_wp2
                go_ret3
                exact took_none hp b1.out
              · have lr3 : r3.length ≤ 4200 := by rw [hr2, List.length_cons] at lr2; omega
                have mr3 : r3.length < r2.length := by rw [hr2, List.length_cons]; omega
                have F_r2 : Front r2 y r3 := ⟨hr2⟩
                have at_r2 := F_r2.at Tryd.prog Tryd.underlying9
                have ne_r2 : r2.isEmpty = false := by rw [hr2]; rfl
                have hr2_ := Lib.hid hr2
                clear hr2
                by_cases h_y : y = 58
                rotate_left
                · have e_y : ((y.toNat : Int) == 58) = false := byte_ne (d := 58) h_y
                  have g_y : ((y.toNat : Int) != 58) = true := by rw [bne, e_y]; rfl
                  have hp : o = none := hk2'.out.symm.trans (by rw [hr2_.out]; exact if_neg h_y)
                  go_wp2
                  go_ret3
                  exact took_none hp b1.out
                have e_y : ((y.toNat : Int) == 58) = true := byte_eq (d := 58) h_y
                have g_y : ((y.toNat : Int) != 58) = false := by rw [bne, e_y]; rfl
                have hk3 : tk3 (tk d) ta wk (wordL r3) (tagOf (r3.drop (wordL r3).length)).1 (tagOf (r3.drop (wordL r3).length)).2 = o := hk2'.out ▸ (by rw [hr2_.out]; exact (if_pos h_y).symm)
                clear hk2'
                have fr_r2 := F_r2.from Tryd.prog Tryd.underlying9 0 (Nat.zero_le _) 1 rfl
                rw [List.drop_zero] at fr_r2
                obtain ⟨wv, hwv⟩ : ∃ t, wordL r3 = t := ⟨_, rfl⟩
                obtain ⟨kv, hkv⟩ : ∃ n, wv.length = n := ⟨_, rfl⟩
                have lkv := word_len r3
                rw [hwv, hkv] at lkv
                have zkv : (⟨wv.toArray⟩ : ByteArray).size = kv := by rw [← hkv]; exact List.size_toArray
                have wkv := word_any r3 (by omega)
                rw [hwv] at wkv hk3
                rw [hkv] at hk3
                have ckv := Lib.hid wkv
                obtain ⟨r4, hr4⟩ : ∃ t, r3.drop kv = t := ⟨_, rfl⟩
                rw [hr4] at hk3
                have fs_r2 := F_r2.from Tryd.prog Tryd.underlying9 kv lkv (1 + (kv : Int)) rfl
                rw [hr4] at fs_r2
                have lr4 : r4.length ≤ r3.length := by rw [← hr4, List.length_drop]; omega
                have ukv : kv ≤ 4200 := by omega
                clear wkv hkv hwv hr4 F_r2
                have hk3' := Lib.hid hk3
                clear hk3 hr2_ h_y
                go_wp2_with fail
                refine (ckv.out w1).mono ?_
                rintro e w2 ⟨rfl, rfl⟩
                rcases list_or r4 with hr4 | ⟨u, r5, hr4⟩
                · have ne_r4 : r4.isEmpty = true := by rw [hr4]; rfl
                  have hp : o = none := hk3'.out.symm.trans (by rw [hr4]; rfl)
                  go_wp2
                  go_ret3
                  exact took_none hp b1.out
                · have lr5 : r5.length ≤ 4200 := by rw [hr4, List.length_cons] at lr4; omega
                  have mr5 : r5.length < r4.length := by rw [hr4, List.length_cons]; omega
                  have F_r4 : Front r4 u r5 := ⟨hr4⟩
                  have at_r4 := F_r4.at Tryd.prog Tryd.underlying9
                  have ne_r4 : r4.isEmpty = false := by rw [hr4]; rfl
                  have hr4_ := Lib.hid hr4
                  clear hr4
                  by_cases t_u : u = 35
                  · have e_u : ((u.toNat : Int) == 35) = true := byte_eq (d := 35) t_u
                    have hk4 : tk3 (tk d) ta wk wv (wordL r5) (r5.drop (wordL r5).length) = o := hk3'.out ▸ (by rw [hr4_.out, tag_yes _ _ t_u])
                    clear hk3'
                    have fr_r4 := F_r4.from Tryd.prog Tryd.underlying9 0 (Nat.zero_le _) 1 rfl
                    rw [List.drop_zero] at fr_r4
                    obtain ⟨wg, hwg⟩ : ∃ t, wordL r5 = t := ⟨_, rfl⟩
                    obtain ⟨kg, hkg⟩ : ∃ n, wg.length = n := ⟨_, rfl⟩
                    have lkg := word_len r5
                    rw [hwg, hkg] at lkg
                    have zkg : (⟨wg.toArray⟩ : ByteArray).size = kg := by rw [← hkg]; exact List.size_toArray
                    have wkg := word_any r5 (by omega)
                    rw [hwg] at wkg hk4
                    rw [hkg] at hk4
                    have ckg := Lib.hid wkg
                    obtain ⟨r6, hr6⟩ : ∃ t, r5.drop kg = t := ⟨_, rfl⟩
                    rw [hr6] at hk4
                    have fs_r4 := F_r4.from Tryd.prog Tryd.underlying9 kg lkg (1 + (kg : Int)) rfl
                    rw [hr6] at fs_r4
                    have lr6 : r6.length ≤ r5.length := by rw [← hr6, List.length_drop]; omega
                    have ukg : kg ≤ 4200 := by omega
                    clear wkg hkg hwg hr6 F_r4
                    have hk4' := Lib.hid hk4
                    clear hk4 hr4_ t_u
                    go_wp2_with fail
                    refine (ckg.out w1).mono ?_
                    rintro e w2 ⟨rfl, rfl⟩
                    rcases list_or r6 with hr6 | ⟨v, r7, hr6⟩
                    · have ne_r6 : r6.isEmpty = true := by rw [hr6]; rfl
                      have hp : o = none := hk4'.out.symm.trans (by rw [hr6]; rfl)
                      go_wp2
                      go_ret3
                      exact took_none hp b1.out
                    · have lr7 : r7.length ≤ 4200 := by rw [hr6, List.length_cons] at lr6; omega
                      have mr7 : r7.length < r6.length := by rw [hr6, List.length_cons]; omega
                      have F_r6 : Front r6 v r7 := ⟨hr6⟩
                      have at_r6 := F_r6.at Tryd.prog Tryd.underlying9
                      have ne_r6 : r6.isEmpty = false := by rw [hr6]; rfl
                      have hr6_ := Lib.hid hr6
                      clear hr6
                      by_cases h_v : v = 32
                      rotate_left
                      · have e_v : ((v.toNat : Int) == 32) = false := byte_ne (d := 32) h_v
                        have g_v : ((v.toNat : Int) != 32) = true := by rw [bne, e_v]; rfl
                        have hp : o = none := hk4'.out.symm.trans (by rw [hr6_.out]; exact if_neg h_v)
                        go_wp2
                        go_ret3
                        exact took_none hp b1.out
                      have e_v : ((v.toNat : Int) == 32) = true := byte_eq (d := 32) h_v
                      have g_v : ((v.toNat : Int) != 32) = false := by rw [bne, e_v]; rfl
                      have fr_r6 := F_r6.from Tryd.prog Tryd.underlying9 0 (Nat.zero_le _) 1 rfl
                      rw [List.drop_zero] at fr_r6
                      have c2 := Lib.hid (ih'.out r7 (by omega) (by omega) w1 (d : Int) rfl (hS'.out.next hT'.out b1.out))
                      obtain ⟨o2, ho2⟩ : ∃ o2, tk d r7 = o2 := ⟨_, rfl⟩
                      rw [ho2] at c2
                      have hk5 : Hid (tkB ta wk wv wg o2 = o) := Lib.hid ((tk3_go (tk d) ta wk wv wg v r7 h_v o2 ho2).symm.trans (by rw [← hr6_.out]; exact hk4'.out))
                      have hlrb := Lib.hid (fun tb rb (h : o2 = some (tb, rb)) => tk_size _ _ _ _ (ho2.trans h))
                      clear ho2 hr6_ h_v F_r6 hk4'
                      go_wp2_with fail
                      cases o2 with
                      | none =>
                        refine c2.out.mono ?_
                        rintro e w2 ⟨rfl, hb2⟩
                        have b2 := Lib.hid (Below.after b1.out hb2)
                        clear hb2
                        have hp : o = none := hk5.out.symm
                        go_wp2
                        go_ret3
                        exact took_none hp b2.out
                      | some q =>
                        obtain ⟨tb, rb⟩ := q
                        have lrb := hlrb.out tb rb rfl
                        refine c2.out.mono ?_
                        rintro e w2 ⟨A2, k2, rfl, hl2, hb2⟩
                        have b2 := Lib.hid (Below.after b1.out hb2)
                        have q2 := Lib.hid hl2
                        have q3 := Lib.hid ((q1.out.next hb2).more hb2.size)
                        clear hb2 hl2 q1
                        have hk6 : Hid (tk4 ta wk wv wg tb rb = o) := hk5.out ▸ Lib.hid rfl
                        clear hk5
                        rcases list_or rb with hrb | ⟨y1, r9, hrb⟩
                        · have ne_rb : rb.isEmpty = true := by rw [hrb]; rfl
                          have hp : o = none := hk6.out.symm.trans (by rw [hrb]; rfl)
                          go_wp2
                          go_ret3
                          exact took_none hp b2.out
                        · have lr9 : r9.length < rb.length := by rw [hrb, List.length_cons]; omega
                          have F_rb : Front rb y1 r9 := ⟨hrb⟩
                          have at_rb := F_rb.at Tryd.prog Tryd.underlying9
                          have ne_rb : rb.isEmpty = false := by rw [hrb]; rfl
                          have hrb_ := Lib.hid hrb
                          clear hrb
                          by_cases h_y1 : y1 = 41
                          rotate_left
                          · have e_y1 : ((y1.toNat : Int) == 41) = false := byte_ne (d := 41) h_y1
                            have g_y1 : ((y1.toNat : Int) != 41) = true := by rw [bne, e_y1]; rfl
                            have hp : o = none := hk6.out.symm.trans (by rw [hrb_.out]; exact if_neg h_y1)
                            go_wp2
                            go_ret3
                            exact took_none hp b2.out
                          have e_y1 : ((y1.toNat : Int) == 41) = true := byte_eq (d := 41) h_y1
                          have g_y1 : ((y1.toNat : Int) != 41) = false := by rw [bne, e_y1]; rfl
                          have hk7 : Hid (some (.n ta (pI wk) (pI wv) (pU wg) tb, r9) = o) := Lib.hid ((if_pos h_y1).symm.trans (by have := hk6.out; rw [hrb_.out] at this; exact this))
                          have fr_rb := F_rb.from Tryd.prog Tryd.underlying9 0 (Nat.zero_le _) 1 rfl
                          rw [List.drop_zero] at fr_rb
                          have ck := Lib.hid (fun W (hW : Below w.heap.size w W) => hS'.out.pint W wk (short _ _ zkk ukk) (hS'.out.next hT'.out hW))
                          have cv := Lib.hid (fun W (hW : Below w.heap.size w W) => hS'.out.pint W wv (short _ _ zkv ukv) (hS'.out.next hT'.out hW))
                          have cg := Lib.hid (fun W (hW : Below w.heap.size w W) => hS'.out.puint W wg (short _ _ zkg ukg) (hS'.out.next hT'.out hW))
                          have h5 : (Tr.n ta (pI wk) (pI wv) (pU wg) tb).size ≤ 5000 := by rw [Tr.size]; omega
                          clear hk6 hrb_ h_y1 F_rb
                          go_wp2_with fail
                          refine (ck.out w2 b2.out).mono ?_
                          rintro e w3 ⟨er1, rfl, hb3⟩
                          have b3 := Lib.hid (Below.after b2.out hb3)
                          have q4 := Lib.hid ((q3.out.next hb3).more hb3.size)
                          have q5 := Lib.hid ((q2.out.next hb3).more hb3.size)
                          clear hb3 q2 q3
                          go_wp2_with fail
                          refine (cv.out w3 b3.out).mono ?_
                          rintro e w4 ⟨er2, rfl, hb4⟩
                          have b4 := Lib.hid (Below.after b3.out hb4)
                          have q6 := Lib.hid ((q4.out.next hb4).more hb4.size)
                          have q7 := Lib.hid ((q5.out.next hb4).more hb4.size)
                          clear hb4 q4 q5
                          go_wp2_with fail
                          refine (cg.out w4 b4.out).mono ?_
                          rintro e w5 ⟨er3, rfl, hb5⟩
                          have b5 := Lib.hid (Below.after b4.out hb5)
                          have q8 := Lib.hid ((q6.out.next hb5).more hb5.size)
                          have q9 := Lib.hid ((q7.out.next hb5).more hb5.size)
                          clear hb5 q6 q7
                          go_wp2_with fail
                          refine wp_region_held_drew (S := fun u => Below w5.heap.size w5 u) (by kernel_rfl) (Below.refl w5.heap.size w5).drew (fun hS => ?_)
                          refine wpAnyH_take (i := 0) (oi := ?dqr1q0) (v := ?dvr1q0) ?hir1q0 (by kernel_rfl) (by kernel_rfl) (by kernel_rfl) ?hQr1q0 (Or.inl ⟨?hwr1q0, ?hyr1q0⟩) hS ?hrr1q0
                          case hir1q0 => simp only [List.getElem?_toArray, List.getElem?_cons_zero]; rfl
                          case hQr1q0 => exact fun _ _ _ h => h
                          case hwr1q0 => rfl
                          case hyr1q0 => (intro w hSw; (try dsimp only at hSw); go_simp; (try with_reducible rfl))
                          simp only [Act.put, List.setIfInBounds_toArray, List.set_cons_zero, List.set_cons_succ]
                          refine wpAnyH_take (i := 1) (oi := ?dqr1q1) (v := ?dvr1q1) ?hir1q1 (by kernel_rfl) (by kernel_rfl) (by kernel_rfl) ?hQr1q1 (Or.inl ⟨?hwr1q1, ?hyr1q1⟩) hS ?hrr1q1
                          case hir1q1 => simp only [List.getElem?_toArray, List.getElem?_cons_succ, List.getElem?_cons_zero]; rfl
                          case hQr1q1 => exact fun _ _ _ h => h
                          case hwr1q1 => rfl
                          case hyr1q1 => (intro w hSw; (try dsimp only at hSw); go_simp; (try with_reducible rfl))
                          simp only [Act.put, List.setIfInBounds_toArray, List.set_cons_zero, List.set_cons_succ]
                          refine wpAnyH_take (i := 2) (oi := ?dqr1q2) (v := ?dvr1q2) ?hir1q2 (by kernel_rfl) (by kernel_rfl) (by kernel_rfl) ?hQr1q2 (Or.inl ⟨?hwr1q2, ?hyr1q2⟩) hS ?hrr1q2
                          case hir1q2 => simp only [List.getElem?_toArray, List.getElem?_cons_succ, List.getElem?_cons_zero]; rfl
                          case hQr1q2 => exact fun _ _ _ h => h
                          case hwr1q2 => rfl
                          case hyr1q2 => (intro w hSw; (try dsimp only at hSw); go_simp; (try with_reducible rfl))
                          simp only [Act.put, List.setIfInBounds_toArray, List.set_cons_zero, List.set_cons_succ]
                          refine wpAnyH_take (i := 3) (oi := ?dqr1q3) (v := ?dvr1q3) ?hir1q3 (by kernel_rfl) (by kernel_rfl) (by kernel_rfl) ?hQr1q3 (Or.inl ⟨?hwr1q3, ?hyr1q3⟩) hS ?hrr1q3
                          case hir1q3 => simp only [List.getElem?_toArray, List.getElem?_cons_succ, List.getElem?_cons_zero]; rfl
                          case hQr1q3 => exact fun _ _ _ h => h
                          case hwr1q3 => rfl
                          case hyr1q3 => (intro w hSw; (try dsimp only at hSw); go_simp; (try with_reducible rfl))
                          simp only [Act.put, List.setIfInBounds_toArray, List.set_cons_zero, List.set_cons_succ]
                          refine wpAnyH_take (i := 4) (oi := ?dqr1q4) (v := ?dvr1q4) ?hir1q4 (by kernel_rfl) (by kernel_rfl) (by kernel_rfl) ?hQr1q4 (Or.inl ⟨?hwr1q4, ?hyr1q4⟩) hS ?hrr1q4
                          case hir1q4 => simp only [List.getElem?_toArray, List.getElem?_cons_succ, List.getElem?_cons_zero]; rfl
                          case hQr1q4 => exact fun _ _ _ h => h
                          case hwr1q4 => rfl
                          case hyr1q4 => (intro w hSw; (try dsimp only at hSw); go_simp; (try with_reducible rfl))
                          simp only [Act.put, List.setIfInBounds_toArray, List.set_cons_zero, List.set_cons_succ]
                          refine wpAnyH_take (i := 6) (oi := ?dqr1q6) (v := ?dvr1q6) ?hir1q6 (by kernel_rfl) (by kernel_rfl) (by kernel_rfl) ?hQr1q6 (Or.inl ⟨?hwr1q6, ?hyr1q6⟩) hS ?hrr1q6
                          case hir1q6 => simp only [List.getElem?_toArray, List.getElem?_cons_succ, List.getElem?_cons_zero]; rfl
                          case hQr1q6 => exact fun _ _ _ h => h
                          case hwr1q6 => rfl
                          case hyr1q6 => (intro w hSw; (try dsimp only at hSw); go_simp; (try with_reducible rfl))
                          simp only [Act.put, List.setIfInBounds_toArray, List.set_cons_zero, List.set_cons_succ]
                          refine wpAnyH_take (i := 7) (oi := ?dqr1q7) (v := ?dvr1q7) ?hir1q7 (by kernel_rfl) (by kernel_rfl) (by kernel_rfl) ?hQr1q7 (Or.inl ⟨?hwr1q7, ?hyr1q7⟩) hS ?hrr1q7
                          case hir1q7 => simp only [List.getElem?_toArray, List.getElem?_cons_succ, List.getElem?_cons_zero]; rfl
                          case hQr1q7 => exact fun _ _ _ h => h
                          case hwr1q7 => rfl
                          case hyr1q7 => (intro w hSw; (try dsimp only at hSw); go_simp; (try with_reducible rfl))
                          simp only [Act.put, List.setIfInBounds_toArray, List.set_cons_zero, List.set_cons_succ]
                          refine wpAnyH_ready (rs := [5]) (by kernel_rfl) (by simp) ?_
                          refine AllReadyH.cons (o := ?dqr1q5) ?hir1q5 (fun K hK => ?_) AllReadyH.nil
                          case hir1q5 => simp only [List.getElem?_toArray, List.getElem?_cons_succ, List.getElem?_cons_zero]; rfl
                          go_simp
                          go_at_call 62
                          refine (Node9 ta tb _ (pI wk) (pI wv) (pU wg) rfl _ rfl h5 _ A1 A2 _ _ k1 k2 ((q8.out.next hS).more hS.size) ((q9.out.next hS).more hS.size)).mono ?_
                          rintro e u3 ⟨A3, k3, rfl, hl3, hb6⟩
                          have q10 := Lib.hid hl3
                          clear hl3
                          have hS2 := Below.after hS hb6
                          clear hS
                          refine hK.out _ _ hS2 (fun hS => ?_)
                          clear hS2 hK K
                          try simp only [Act.put, List.setIfInBounds_toArray, List.set_cons_zero, List.set_cons_succ]
                          refine wpAnyH_take (i := 8) (oi := ?dqr1q8) (v := ?dvr1q8) ?hir1q8 (by kernel_rfl) (by kernel_rfl) (by kernel_rfl) ?hQr1q8 (Or.inl ⟨?hwr1q8, ?hyr1q8⟩) hS ?hrr1q8
                          case hir1q8 => simp only [List.getElem?_toArray, List.getElem?_cons_succ, List.getElem?_cons_zero]; rfl
                          case hQr1q8 => exact fun _ _ _ h => h
                          case hwr1q8 => rfl
                          case hyr1q8 => (intro w hSw; (try dsimp only at hSw); go_simp; (try with_reducible rfl))
                          simp only [Act.put, List.setIfInBounds_toArray, List.set_cons_zero, List.set_cons_succ]
                          refine wpAnyH_take (i := 9) (oi := ?dqr1q9) (v := ?dvr1q9) ?hir1q9 (by kernel_rfl) (by kernel_rfl) (by kernel_rfl) ?hQr1q9 (Or.inl ⟨?hwr1q9, ?hyr1q9⟩) hS ?hrr1q9
                          case hir1q9 => simp only [List.getElem?_toArray, List.getElem?_cons_succ, List.getElem?_cons_zero]; rfl
                          case hQr1q9 => exact fun _ _ _ h => h
                          case hwr1q9 => rfl
                          case hyr1q9 => (intro w hSw; (try dsimp only at hSw); go_simp; (try with_reducible rfl))
                          simp only [Act.put, List.setIfInBounds_toArray, List.set_cons_zero, List.set_cons_succ]
                          refine wpAnyH_take (i := 10) (oi := ?dqr1q10) (v := ?dvr1q10) ?hir1q10 (by kernel_rfl) (by kernel_rfl) (by kernel_rfl) ?hQr1q10 (Or.inl ⟨?hwr1q10, ?hyr1q10⟩) hS ?hrr1q10
                          case hir1q10 => simp only [List.getElem?_toArray, List.getElem?_cons_succ, List.getElem?_cons_zero]; rfl
                          case hQr1q10 => exact fun _ _ _ h => h
                          case hwr1q10 => rfl
                          case hyr1q10 => (intro w hSw; (try dsimp only at hSw); go_simp; (try with_reducible rfl))
                          simp only [Act.put, List.setIfInBounds_toArray, List.set_cons_zero, List.set_cons_succ]
                          refine wpAnyH_done (by kernel_rfl) ?_ _
                          have b6 := Lib.hid (Below.after b5.out hS)
                          clear hS
                          go_wp2
                          go_ret3
                          rw [← hk7.out]
                          exact ⟨A3, k3, rfl, q10.out, b6.out⟩
                  · have e_u35 : ((u.toNat : Int) == 35) = false := byte_ne (d := 35) t_u
                    have hk4' : Hid (tk3 (tk d) ta wk wv [48] r4 = o) := hk3'.out ▸ (by rw [hr4_.out, tag_no _ _ t_u]; rfl)
                    clear hk3' t_u
                    by_cases h_u : u = 32
                    rotate_left
                    · have e_u : ((u.toNat : Int) == 32) = false := byte_ne (d := 32) h_u
                      have g_u : ((u.toNat : Int) != 32) = true := by rw [bne, e_u]; rfl
                      have hp : o = none := hk4'.out.symm.trans (by rw [hr4_.out]; exact if_neg h_u)
                      go_wp2
                      go_ret3
                      exact took_none hp b1.out
                    have e_u : ((u.toNat : Int) == 32) = true := byte_eq (d := 32) h_u
                    have g_u : ((u.toNat : Int) != 32) = false := by rw [bne, e_u]; rfl
                    have fr_r4 := F_r4.from Tryd.prog Tryd.underlying9 0 (Nat.zero_le _) 1 rfl
                    rw [List.drop_zero] at fr_r4
                    have c2 := Lib.hid (ih'.out r5 (by omega) (by omega) w1 (d : Int) rfl (hS'.out.next hT'.out b1.out))
                    obtain ⟨o2, ho2⟩ : ∃ o2, tk d r5 = o2 := ⟨_, rfl⟩
                    rw [ho2] at c2
                    have hk5 : Hid (tkB ta wk wv [48] o2 = o) := Lib.hid ((tk3_go (tk d) ta wk wv [48] u r5 h_u o2 ho2).symm.trans (by rw [← hr4_.out]; exact hk4'.out))
                    have hlrb := Lib.hid (fun tb rb (h : o2 = some (tb, rb)) => tk_size _ _ _ _ (ho2.trans h))
                    clear ho2 hr4_ h_u F_r4 hk4'
                    go_wp2_with fail
                    cases o2 with
                    | none =>
                      refine c2.out.mono ?_
                      rintro e w2 ⟨rfl, hb2⟩
                      have b2 := Lib.hid (Below.after b1.out hb2)
                      clear hb2
                      have hp : o = none := hk5.out.symm
                      go_wp2
                      go_ret3
                      exact took_none hp b2.out
                    | some q =>
                      obtain ⟨tb, rb⟩ := q
                      have lrb := hlrb.out tb rb rfl
                      refine c2.out.mono ?_
                      rintro e w2 ⟨A2, k2, rfl, hl2, hb2⟩
                      have b2 := Lib.hid (Below.after b1.out hb2)
                      have q2 := Lib.hid hl2
                      have q3 := Lib.hid ((q1.out.next hb2).more hb2.size)
                      clear hb2 hl2 q1
                      have hk6 : Hid (tk4 ta wk wv [48] tb rb = o) := hk5.out ▸ Lib.hid rfl
                      clear hk5
                      rcases list_or rb with hrb | ⟨y1, r9, hrb⟩
                      · have ne_rb : rb.isEmpty = true := by rw [hrb]; rfl
                        have hp : o = none := hk6.out.symm.trans (by rw [hrb]; rfl)
                        go_wp2
                        go_ret3
                        exact took_none hp b2.out
                      · have lr9 : r9.length < rb.length := by rw [hrb, List.length_cons]; omega
                        have F_rb : Front rb y1 r9 := ⟨hrb⟩
                        have at_rb := F_rb.at Tryd.prog Tryd.underlying9
                        have ne_rb : rb.isEmpty = false := by rw [hrb]; rfl
                        have hrb_ := Lib.hid hrb
                        clear hrb
                        by_cases h_y1 : y1 = 41
                        rotate_left
                        · have e_y1 : ((y1.toNat : Int) == 41) = false := byte_ne (d := 41) h_y1
                          have g_y1 : ((y1.toNat : Int) != 41) = true := by rw [bne, e_y1]; rfl
                          have hp : o = none := hk6.out.symm.trans (by rw [hrb_.out]; exact if_neg h_y1)
                          go_wp2
                          go_ret3
                          exact took_none hp b2.out
                        have e_y1 : ((y1.toNat : Int) == 41) = true := byte_eq (d := 41) h_y1
                        have g_y1 : ((y1.toNat : Int) != 41) = false := by rw [bne, e_y1]; rfl
                        have hk7 : Hid (some (.n ta (pI wk) (pI wv) (pU [48]) tb, r9) = o) := Lib.hid ((if_pos h_y1).symm.trans (by have := hk6.out; rw [hrb_.out] at this; exact this))
                        have fr_rb := F_rb.from Tryd.prog Tryd.underlying9 0 (Nat.zero_le _) 1 rfl
                        rw [List.drop_zero] at fr_rb
                        have ck := Lib.hid (fun W (hW : Below w.heap.size w W) => hS'.out.pint W wk (short _ _ zkk ukk) (hS'.out.next hT'.out hW))
                        have cv := Lib.hid (fun W (hW : Below w.heap.size w W) => hS'.out.pint W wv (short _ _ zkv ukv) (hS'.out.next hT'.out hW))
                        have cg := Lib.hid (fun W (hW : Below w.heap.size w W) => hS'.out.puint W [48] (by decide) (hS'.out.next hT'.out hW))
                        have h5 : (Tr.n ta (pI wk) (pI wv) (pU [48]) tb).size ≤ 5000 := by rw [Tr.size]; omega
                        clear hk6 hrb_ h_y1 F_rb
                        go_wp2_with fail
                        refine (ck.out w2 b2.out).mono ?_
                        rintro e w3 ⟨er1, rfl, hb3⟩
                        have b3 := Lib.hid (Below.after b2.out hb3)
                        have q4 := Lib.hid ((q3.out.next hb3).more hb3.size)
                        have q5 := Lib.hid ((q2.out.next hb3).more hb3.size)
                        clear hb3 q2 q3
                        go_wp2_with fail
                        refine (cv.out w3 b3.out).mono ?_
                        rintro e w4 ⟨er2, rfl, hb4⟩
                        have b4 := Lib.hid (Below.after b3.out hb4)
                        have q6 := Lib.hid ((q4.out.next hb4).more hb4.size)
                        have q7 := Lib.hid ((q5.out.next hb4).more hb4.size)
                        clear hb4 q4 q5
                        go_wp2_with fail
                        refine (cg.out w4 b4.out).mono ?_
                        rintro e w5 ⟨er3, rfl, hb5⟩
                        have b5 := Lib.hid (Below.after b4.out hb5)
                        have q8 := Lib.hid ((q6.out.next hb5).more hb5.size)
                        have q9 := Lib.hid ((q7.out.next hb5).more hb5.size)
                        clear hb5 q6 q7
                        go_wp2_with fail
                        refine wp_region_held_drew (S := fun u => Below w5.heap.size w5 u) (by kernel_rfl) (Below.refl w5.heap.size w5).drew (fun hS => ?_)
                        refine wpAnyH_take (i := 0) (oi := ?dqr2q0) (v := ?dvr2q0) ?hir2q0 (by kernel_rfl) (by kernel_rfl) (by kernel_rfl) ?hQr2q0 (Or.inl ⟨?hwr2q0, ?hyr2q0⟩) hS ?hrr2q0
                        case hir2q0 => simp only [List.getElem?_toArray, List.getElem?_cons_zero]; rfl
                        case hQr2q0 => exact fun _ _ _ h => h
                        case hwr2q0 => rfl
                        case hyr2q0 => (intro w hSw; (try dsimp only at hSw); go_simp; (try with_reducible rfl))
                        simp only [Act.put, List.setIfInBounds_toArray, List.set_cons_zero, List.set_cons_succ]
                        refine wpAnyH_take (i := 1) (oi := ?dqr2q1) (v := ?dvr2q1) ?hir2q1 (by kernel_rfl) (by kernel_rfl) (by kernel_rfl) ?hQr2q1 (Or.inl ⟨?hwr2q1, ?hyr2q1⟩) hS ?hrr2q1
                        case hir2q1 => simp only [List.getElem?_toArray, List.getElem?_cons_succ, List.getElem?_cons_zero]; rfl
                        case hQr2q1 => exact fun _ _ _ h => h
                        case hwr2q1 => rfl
                        case hyr2q1 => (intro w hSw; (try dsimp only at hSw); go_simp; (try with_reducible rfl))
                        simp only [Act.put, List.setIfInBounds_toArray, List.set_cons_zero, List.set_cons_succ]
                        refine wpAnyH_take (i := 2) (oi := ?dqr2q2) (v := ?dvr2q2) ?hir2q2 (by kernel_rfl) (by kernel_rfl) (by kernel_rfl) ?hQr2q2 (Or.inl ⟨?hwr2q2, ?hyr2q2⟩) hS ?hrr2q2
                        case hir2q2 => simp only [List.getElem?_toArray, List.getElem?_cons_succ, List.getElem?_cons_zero]; rfl
                        case hQr2q2 => exact fun _ _ _ h => h
                        case hwr2q2 => rfl
                        case hyr2q2 => (intro w hSw; (try dsimp only at hSw); go_simp; (try with_reducible rfl))
                        simp only [Act.put, List.setIfInBounds_toArray, List.set_cons_zero, List.set_cons_succ]
                        refine wpAnyH_take (i := 3) (oi := ?dqr2q3) (v := ?dvr2q3) ?hir2q3 (by kernel_rfl) (by kernel_rfl) (by kernel_rfl) ?hQr2q3 (Or.inl ⟨?hwr2q3, ?hyr2q3⟩) hS ?hrr2q3
                        case hir2q3 => simp only [List.getElem?_toArray, List.getElem?_cons_succ, List.getElem?_cons_zero]; rfl
                        case hQr2q3 => exact fun _ _ _ h => h
                        case hwr2q3 => rfl
                        case hyr2q3 => (intro w hSw; (try dsimp only at hSw); go_simp; (try with_reducible rfl))
                        simp only [Act.put, List.setIfInBounds_toArray, List.set_cons_zero, List.set_cons_succ]
                        refine wpAnyH_take (i := 4) (oi := ?dqr2q4) (v := ?dvr2q4) ?hir2q4 (by kernel_rfl) (by kernel_rfl) (by kernel_rfl) ?hQr2q4 (Or.inl ⟨?hwr2q4, ?hyr2q4⟩) hS ?hrr2q4
                        case hir2q4 => simp only [List.getElem?_toArray, List.getElem?_cons_succ, List.getElem?_cons_zero]; rfl
                        case hQr2q4 => exact fun _ _ _ h => h
                        case hwr2q4 => rfl
                        case hyr2q4 => (intro w hSw; (try dsimp only at hSw); go_simp; (try with_reducible rfl))
                        simp only [Act.put, List.setIfInBounds_toArray, List.set_cons_zero, List.set_cons_succ]
                        refine wpAnyH_take (i := 6) (oi := ?dqr2q6) (v := ?dvr2q6) ?hir2q6 (by kernel_rfl) (by kernel_rfl) (by kernel_rfl) ?hQr2q6 (Or.inl ⟨?hwr2q6, ?hyr2q6⟩) hS ?hrr2q6
                        case hir2q6 => simp only [List.getElem?_toArray, List.getElem?_cons_succ, List.getElem?_cons_zero]; rfl
                        case hQr2q6 => exact fun _ _ _ h => h
                        case hwr2q6 => rfl
                        case hyr2q6 => (intro w hSw; (try dsimp only at hSw); go_simp; (try with_reducible rfl))
                        simp only [Act.put, List.setIfInBounds_toArray, List.set_cons_zero, List.set_cons_succ]
                        refine wpAnyH_take (i := 7) (oi := ?dqr2q7) (v := ?dvr2q7) ?hir2q7 (by kernel_rfl) (by kernel_rfl) (by kernel_rfl) ?hQr2q7 (Or.inl ⟨?hwr2q7, ?hyr2q7⟩) hS ?hrr2q7
                        case hir2q7 => simp only [List.getElem?_toArray, List.getElem?_cons_succ, List.getElem?_cons_zero]; rfl
                        case hQr2q7 => exact fun _ _ _ h => h
                        case hwr2q7 => rfl
                        case hyr2q7 => (intro w hSw; (try dsimp only at hSw); go_simp; (try with_reducible rfl))
                        simp only [Act.put, List.setIfInBounds_toArray, List.set_cons_zero, List.set_cons_succ]
                        refine wpAnyH_ready (rs := [5]) (by kernel_rfl) (by simp) ?_
                        refine AllReadyH.cons (o := ?dqr2q5) ?hir2q5 (fun K hK => ?_) AllReadyH.nil
                        case hir2q5 => simp only [List.getElem?_toArray, List.getElem?_cons_succ, List.getElem?_cons_zero]; rfl
                        go_simp
                        go_at_call 62
                        refine (Node9 ta tb _ (pI wk) (pI wv) (pU [48]) rfl _ rfl h5 _ A1 A2 _ _ k1 k2 ((q8.out.next hS).more hS.size) ((q9.out.next hS).more hS.size)).mono ?_
                        rintro e u3 ⟨A3, k3, rfl, hl3, hb6⟩
                        have q10 := Lib.hid hl3
                        clear hl3
                        have hS2 := Below.after hS hb6
                        clear hS
                        refine hK.out _ _ hS2 (fun hS => ?_)
                        clear hS2 hK K
                        try simp only [Act.put, List.setIfInBounds_toArray, List.set_cons_zero, List.set_cons_succ]
                        refine wpAnyH_take (i := 8) (oi := ?dqr2q8) (v := ?dvr2q8) ?hir2q8 (by kernel_rfl) (by kernel_rfl) (by kernel_rfl) ?hQr2q8 (Or.inl ⟨?hwr2q8, ?hyr2q8⟩) hS ?hrr2q8
                        case hir2q8 => simp only [List.getElem?_toArray, List.getElem?_cons_succ, List.getElem?_cons_zero]; rfl
                        case hQr2q8 => exact fun _ _ _ h => h
                        case hwr2q8 => rfl
                        case hyr2q8 => (intro w hSw; (try dsimp only at hSw); go_simp; (try with_reducible rfl))
                        simp only [Act.put, List.setIfInBounds_toArray, List.set_cons_zero, List.set_cons_succ]
                        refine wpAnyH_take (i := 9) (oi := ?dqr2q9) (v := ?dvr2q9) ?hir2q9 (by kernel_rfl) (by kernel_rfl) (by kernel_rfl) ?hQr2q9 (Or.inl ⟨?hwr2q9, ?hyr2q9⟩) hS ?hrr2q9
                        case hir2q9 => simp only [List.getElem?_toArray, List.getElem?_cons_succ, List.getElem?_cons_zero]; rfl
                        case hQr2q9 => exact fun _ _ _ h => h
                        case hwr2q9 => rfl
                        case hyr2q9 => (intro w hSw; (try dsimp only at hSw); go_simp; (try with_reducible rfl))
                        simp only [Act.put, List.setIfInBounds_toArray, List.set_cons_zero, List.set_cons_succ]
                        refine wpAnyH_take (i := 10) (oi := ?dqr2q10) (v := ?dvr2q10) ?hir2q10 (by kernel_rfl) (by kernel_rfl) (by kernel_rfl) ?hQr2q10 (Or.inl ⟨?hwr2q10, ?hyr2q10⟩) hS ?hrr2q10
                        case hir2q10 => simp only [List.getElem?_toArray, List.getElem?_cons_succ, List.getElem?_cons_zero]; rfl
                        case hQr2q10 => exact fun _ _ _ h => h
                        case hwr2q10 => rfl
                        case hyr2q10 => (intro w hSw; (try dsimp only at hSw); go_simp; (try with_reducible rfl))
                        simp only [Act.put, List.setIfInBounds_toArray, List.set_cons_zero, List.set_cons_succ]
                        refine wpAnyH_done (by kernel_rfl) ?_ _
                        have b6 := Lib.hid (Below.after b5.out hS)
                        clear hS
                        go_wp2
                        go_ret3
                        rw [← hk7.out]
                        exact ⟨A3, k3, rfl, q10.out, b6.out⟩
        · have f_c : ((c.toNat : Int) == 40) = false := byte_ne (d := 40) h_c
          have g_c : ((c.toNat : Int) != 40) = true := by rw [bne, f_c]; rfl
          go_enter Tryd.func42, Tryd.ntmps42
          have hp : o = none := ho'.out.symm.trans (by rw [hs'.out]; exact tk_no _ _ _ h46 h_c)
          go_wp2
          go_ret3
          exact took_none hp (Below.refl _ _)
end Go.Proofs.YtlhnjgmjkoafpaaDoor
