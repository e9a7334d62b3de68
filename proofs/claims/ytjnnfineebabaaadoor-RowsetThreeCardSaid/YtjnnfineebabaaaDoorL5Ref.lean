/- The document's own answers of layer 5: Sort, both, Union. -/
import Derived.Test.YtjnnfineebabaaaDoorL4Made
import Derived.Test.YtjnnfineebabaaaDoorL5Math
namespace Go.Proofs.YtjnnfineebabaaaDoor
open Go.RowKit Go.Shelf Go.Proofs.Rowm

theorem mayB_incr {o : Nat} {l : List Pr} (h1 : 1 ≤ o) (h7 : o ≤ 7) (h : incr o l) : mayB o l = true := mayB_mk h1 h7 (rises_of_incr h)
theorem incr_mayB {o : Nat} {l : List Pr} (h : mayB o l = true) : incr o l := incr_of (mayB_parts h).2.2
theorem fold_next {o p : Nat} {l : List Pr} {k : Nat} (h : k < l.length) : (l.take (k + 1)).foldl (putL o p) [] = putL o p ((l.take k).foldl (putL o p) []) l[k] := by
  rw [List.take_succ_eq_append_getElem h, List.foldl_append]; rfl
theorem here_nil {W : World} (hp : 0 < W.heap.size) (hs : Steps W) : Here W none 0 0 [] := ⟨rfl, by omega, Nat.le_refl _, fun _ => rfl, hp, hs, Row.none_ _ _ _⟩

set_option maxHeartbeats 2000000 in
theorem refSort_none (o p : Nat) (h : ¬ ((1 ≤ o ∧ o ≤ 7) ∧ 1 ≤ p ∧ p ≤ 3)) (x : Value) (w : World) (hp : 0 < w.heap.size) (hs : Steps w) :
    Calls Tryd.prog 10 #[.int .u8 o, .int .u8 p, x] w (MadeH w 0 [] (.int .i64 2)) := by
  have hs' := Lib.hid hs
  clear hs
  by_cases ho : 1 ≤ o ∧ o ≤ 7
  · have hq : ¬ (1 ≤ (p : Int) ∧ (p : Int) ≤ 3) := fun ⟨a, b⟩ => h ⟨ho, by omega, by omega⟩
    clear h
    go_enter Tryd.func10, Tryd.ntmps10
    go_wp2_with (first | (go_at_call 29; refine (refIs_yes _ ho.1 ho.2 _).mono ?_; rintro e w' ⟨rfl, rfl⟩) | (go_at_call 30; refine (refMay_none _ hq _).mono ?_; rintro e w' ⟨rfl, rfl⟩))
    go_ret2
    exact ⟨none, 0, rfl, here_nil hp hs'.out, Below.refl _ _⟩
  · have hq : ¬ (1 ≤ (o : Int) ∧ (o : Int) ≤ 7) := fun ⟨a, b⟩ => ho ⟨by omega, by omega⟩
    clear h ho
    go_enter Tryd.func10, Tryd.ntmps10
    go_wp2_with (go_at_call 29; refine (refIs_no _ hq _).mono ?_; rintro e w' ⟨rfl, rfl⟩)
    go_ret2
    exact ⟨none, 0, rfl, here_nil hp hs'.out, Below.refl _ _⟩

set_option maxHeartbeats 2000000 in
theorem refSort_yes (o p : Nat) (h1 : 1 ≤ o) (h7 : o ≤ 7) (p1 : 1 ≤ p) (p3 : p ≤ 3) (A : Option Addr) (n c : Nat) (l s : List Pr) (m : Nat) (hs : sortL o p l = s) (hm : s.length = m) (w : World) (h : Here w A n c l) :
    Calls Tryd.prog 10 #[.int .u8 o, .int .u8 p, .slice A n c] w (MadeH w m s (.int .i64 0)) := by
  have hl := h.len
  have hn9 := h.few
  have h' := Lib.hid h
  have hs' := Lib.hid hs
  have hm' := Lib.hid hm
  clear h hs hm
  go_enter Tryd.func10, Tryd.ntmps10
  go_wp2_with (first | (go_at_call 29; refine (refIs_yes _ h1 h7 _).mono ?_; rintro e w' ⟨rfl, rfl⟩) | (go_at_call 30; refine (refMay_at _ p1 p3 _).mono ?_; rintro e w' ⟨rfl, rfl⟩))
  go_loopw [8, 9] (fun v8 v9 wr => ∃ k A' n' c', k ≤ n ∧ v9 = .int .i64 (k : Int) ∧ v8 = .slice A' n' c' ∧ Here wr A' n' c' ((l.take k).foldl (putL o p) []) ∧ Below w.heap.size w wr) (fun _ v9 _ => n - (intOf v9).toNat)
  case atStart => exact ⟨0, none, 0, 0, Nat.zero_le _, rfl, rfl, here_nil h'.out.pos h'.out.steps, Below.refl _ _⟩
  case round =>
    obtain ⟨k, A', n', c', hk, rfl, rfl, hh0, hb0⟩ := hrel
    have hh := Lib.hid hh0
    have b0 := Lib.hid hb0
    clear hh0 hb0
    by_cases hlt : k < n
    · have hkl : k < l.length := by omega
      have hk1 : k + 1 ≤ n := hlt
      obtain ⟨ad, rfl, _, g1, g2⟩ := pair_at (h'.out.next b0.out).row k hkl
      have hnx := Lib.hid (fold_next (o := o) (p := p) hkl)
      obtain ⟨y, hy⟩ : ∃ y, l[k] = y := ⟨_, rfl⟩
      rw [hy] at hnx
      simp only [hy] at g1 g2
      obtain ⟨r, hr⟩ : ∃ r, (l.take k).foldl (putL o p) [] = r := ⟨_, rfl⟩
      obtain ⟨r', hr'⟩ : ∃ r', (l.take (k + 1)).foldl (putL o p) [] = r' := ⟨_, rfl⟩
      have hri : Hid (incr o r) := by show incr o r; rw [← hr]; exact fold_incr _ _ List.Pairwise.nil
      obtain ⟨m', hm'⟩ : ∃ m', r'.length = m' := ⟨_, rfl⟩
      have h9 : m' ≤ 900 := by have := len_fold (o := o) (p := p) (l.take (k + 1)) [] List.Pairwise.nil; rw [hr', hm', List.length_take, List.length_nil] at this; omega
      rw [hr] at hh hnx
      rw [hr'] at hnx
      have hm2 := Lib.hid hm'
      have hr2 := Lib.hid hr'
      clear hy hr hr' hm'
      go_wp2_with fail
      refine (refPut_named p1 p3 (mayB_incr h1 h7 hri.out) hnx.out.symm hm2.out h9 hh.out).mono ?_
      rintro e w3 ⟨A3, c3, rfl, hh3, hb⟩
      have h3 := Lib.hid hh3
      have b3 := Lib.hid (Below.after b0.out hb)
      clear hh3 hb
      go_wp2
      go_roundw
      case rel => exact ⟨k + 1, _, _, _, hk1, by go_num, rfl, by rw [hr2.out]; exact h3.out, b3.out⟩
      case measure => simp [intOf]; omega
    · have e : (l.take k).foldl (putL o p) [] = s := by rw [List.take_of_length_le (by omega)]; exact hs'.out
      rw [e] at hh
      have hn := hh.out.len
      rw [hm'.out] at hn
      subst hn
      go_wp2
      go_ret2
      exact ⟨_, _, rfl, hh.out, b0.out⟩

set_option maxHeartbeats 1000000 in
theorem refBoth_is (o : Nat) (A B : Option Addr) (n c m d : Nat) (a b : List Pr) (t u : Bool) (ha : mayB o a = t) (hb : mayB o b = u) (w : World) (h : Here w A n c a) (hq : Here w B m d b) :
    Calls Tryd.prog 34 #[.int .u8 o, .slice A n c, .slice B m d] w fun e w' => e = .returned (.bool (t && u)) ∧ Below w.heap.size w w' := by
  have h' := Lib.hid h
  have hq' := Lib.hid hq
  have ha' := Lib.hid ha
  have hb' := Lib.hid hb
  clear h hq ha hb
  cases t with
  | false =>
    go_enter Tryd.func34, Tryd.ntmps34
    go_wp2_with fail
    refine (refMay4_is ha'.out h'.out.len h'.out.k h'.out.row).mono ?_
    rintro e w1 ⟨rfl, hb⟩
    have b1 := Lib.hid hb
    clear hb
    go_wp2
    go_ret
    exact ⟨rfl, b1.out⟩
  | true =>
    go_enter Tryd.func34, Tryd.ntmps34
    go_wp2_with fail
    refine (refMay4_is ha'.out h'.out.len h'.out.k h'.out.row).mono ?_
    rintro e w1 ⟨rfl, hb⟩
    have q1 := Lib.hid (hq'.out.next hb)
    have b1 := Lib.hid hb
    clear hb
    go_wp2_with fail
    refine (refMay4_is hb'.out q1.out.len q1.out.k q1.out.row).mono ?_
    rintro e w2 ⟨rfl, hb⟩
    have b2 := Lib.hid (Below.after b1.out hb)
    clear hb
    go_wp2
    go_ret
    exact ⟨by simp, b2.out⟩

set_option maxHeartbeats 2000000 in
theorem refUnion_no (o p : Nat) (A B : Option Addr) (n c m d : Nat) (a b : List Pr) (hf : (mayB o a && mayB o b) = false) (w : World) (h : Here w A n c a) (hq : Here w B m d b) :
    Calls Tryd.prog 13 #[.int .u8 o, .int .u8 p, .slice A n c, .slice B m d] w (MadeH w 0 [] (.int .i64 2)) := by
  obtain ⟨t, ht⟩ : ∃ t, mayB o a = t := ⟨_, rfl⟩
  obtain ⟨u, hu⟩ : ∃ u, mayB o b = u := ⟨_, rfl⟩
  rw [ht, hu] at hf
  have hc := Lib.hid (refBoth_is o A B n c m d a b t u ht hu w h hq)
  rw [hf] at hc
  have h' := Lib.hid h
  clear h hq ht hu hf
  go_enter Tryd.func13, Tryd.ntmps13
  go_wp2_with fail
  refine hc.out.mono ?_
  rintro e w1 ⟨rfl, hb⟩
  have b1 := Lib.hid hb
  clear hb
  go_wp2
  go_ret2
  exact ⟨none, 0, rfl, here_nil (Nat.lt_of_lt_of_le h'.out.pos b1.out.size) (h'.out.steps.below h'.out.pos b1.out), b1.out⟩

/-- a call that changes nothing that lay leaves a row of the caller's own as it is -/
theorem own_next {w w' : World} {base : Nat} {e : TypeId} {size n : Nat} {v : Value} {xs : List Value} (h : w.ownsRow base e size v n xs) (hb : Below w.heap.size w w') : w'.ownsRow base e size v n xs := by
  refine ⟨h.1, ?_⟩
  rcases h.2 with h0 | ⟨g, cap, cur, hv, hbs, hg, h1, h2, h3, h4⟩
  · exact .inl h0
  · exact .inr ⟨g, cap, cur, hv, hbs, (hb.block g (lt_of_block hg)).trans hg, h1, h2, h3, h4⟩
theorem made_own {w w' : World} {base m : Nat} {s : List Pr} {v x : Value} (hp : 0 < w.heap.size) (hs : Steps w) (hm : s.length = m) (h9 : m ≤ 900) (ho : w'.ownsRow base 42 2 v m (flat s)) (hb : Below w.heap.size w w') : MadeH w m s x (.returned (.tuple #[v, x])) w' := by
  obtain ⟨A, c, rfl, h1, h2, h3⟩ := own_slice ho
  exact ⟨A, c, rfl, ⟨hm, h9, h1, h3, Nat.lt_of_lt_of_le hp hb.size, hs.below hp hb, Row.of_own ho⟩, hb⟩

set_option maxHeartbeats 4000000 in
theorem refUnion_yes (o p : Nat) (p1 : 1 ≤ p) (p3 : p ≤ 3) (A B : Option Addr) (n c m d : Nat) (a b s : List Pr) (q : Nat) (ha : mayB o a = true) (hb : mayB o b = true) (hs : unionL o p a b = s) (hq : s.length = q) (hnm : n + m ≤ 900) (w : World) (h : Here w A n c a) (hh : Here w B m d b) :
    Calls Tryd.prog 13 #[.int .u8 o, .int .u8 p, .slice A n c, .slice B m d] w (MadeH w q s (.int .i64 0)) := by
  obtain ⟨i0, hi, hz0, hz1, hz2⟩ := info_parts info_pair
  obtain ⟨h1, h7, _⟩ := mayB_parts ha
  have hsort : sortL o p (a ++ b) = s := (sort_two (incr_mayB ha) (incr_mayB hb)).trans hs
  have hc := Lib.hid (refBoth_is o A B n c m d a b true true ha hb w h hh)
  have h' := Lib.hid h
  have hh' := Lib.hid hh
  have hs' := Lib.hid hsort
  have hq' := Lib.hid hq
  clear h hh ha hb hs hq hsort
  go_enter Tryd.func13, Tryd.ntmps13
  go_wp2_with fail
  refine hc.out.mono ?_
  rintro e w1 ⟨rfl, hb⟩
  have a1 := Lib.hid (h'.out.next hb)
  have c1 := Lib.hid (hh'.out.next hb)
  have b1 := Lib.hid hb
  clear hb hc
  go_wp2_with (at_builtin; refine wpList_append_row rfl _ _ 22 rfl w1.heap.size 42 i0 (.agg #[.int .i64 0, .int .i64 0]) 2 16 Tryd.underlying22 hi hz0 hz1 hz2 rfl (by decide) _ 0 [] rfl (World.ownsRow_nil _ _ _ _) A n c (flat a) rfl a1.out.nil a1.out.cap ?k1 _ a1.out.row (flat_one a) (by unfold maxLen; omega) (by omega) (Nat.le_refl _) ?_)
  case k1 => rw [flat_length, a1.out.len]
  intro v2 w2 hown hgrow
  have hb2 := (Below.refl w1.heap.size w1).grown hgrow (Nat.le_refl _) (fun r e => by simp [Value.ownBlock] at e)
  have o2 : Hid (w2.ownsRow w1.heap.size 42 2 v2 n (flat a)) := by show w2.ownsRow w1.heap.size 42 2 v2 n (flat a); simpa using hown
  have c2 := Lib.hid (c1.out.next hb2)
  have b2 := Lib.hid hb2
  have p2 := Lib.hid hb2.size
  clear hown hgrow hb2
  go_wp2_with (at_builtin; refine wpList_append_row rfl _ _ 22 rfl w1.heap.size 42 i0 (.agg #[.int .i64 0, .int .i64 0]) 2 16 Tryd.underlying22 hi hz0 hz1 hz2 rfl (by decide) _ n (flat a) rfl o2.out B m d (flat b) rfl c2.out.nil c2.out.cap ?k2 _ c2.out.row (flat_one b) (by unfold maxLen; omega) (by omega) p2.out ?_)
  case k2 => rw [flat_length, c2.out.len]
  intro v3 w3 hown hgrow
  have b3 := Lib.hid (b2.out.grown hgrow p2.out (fun r e => (o2.out.lt r e).1))
  have bw := Lib.hid (Below.after b1.out b3.out)
  rw [← flat_append] at hown
  obtain ⟨A3, c3, rfl, k1, k2, k3⟩ := own_slice hown
  have h3 := Lib.hid (Here.mk (W := w3) (l := a ++ b) (by rw [List.length_append, a1.out.len, c1.out.len]) hnm k1 k3 (Nat.lt_of_lt_of_le h'.out.pos bw.out.size) (h'.out.steps.below h'.out.pos bw.out) (Row.of_own hown))
  clear hown hgrow k1 k2 k3
  go_wp2_with fail
  refine (refSort_yes o p h1 h7 p1 p3 A3 (n + m) c3 (a ++ b) s q hs'.out hq'.out _ h3.out).mono ?_
  rintro e w4 ⟨A4, c4, rfl, hh4, hb⟩
  have h4 := Lib.hid hh4
  have b4 := Lib.hid (Below.after bw.out hb)
  clear hh4 hb
  go_wp2
  go_ret2
  exact ⟨_, _, rfl, h4.out, b4.out⟩

set_option maxHeartbeats 2000000 in
theorem refLess_no (o : Nat) (A B : Option Addr) (n c m d : Nat) (a b : List Pr) (hf : (mayB o a && mayB o b) = false) (w : World) (h : Here w A n c a) (hq : Here w B m d b) :
    Calls Tryd.prog 17 #[.int .u8 o, .slice A n c, .slice B m d] w (MadeH w 0 [] (.int .i64 2)) := by
  obtain ⟨t, ht⟩ : ∃ t, mayB o a = t := ⟨_, rfl⟩
  obtain ⟨u, hu⟩ : ∃ u, mayB o b = u := ⟨_, rfl⟩
  rw [ht, hu] at hf
  have hc := Lib.hid (refBoth_is o A B n c m d a b t u ht hu w h hq)
  rw [hf] at hc
  have h' := Lib.hid h
  clear h hq ht hu hf
  go_enter Tryd.func17, Tryd.ntmps17
  go_wp2_with fail
  refine hc.out.mono ?_
  rintro e w1 ⟨rfl, hb⟩
  have b1 := Lib.hid hb
  clear hb
  go_wp2
  go_ret2
  exact ⟨none, 0, rfl, here_nil (Nat.lt_of_lt_of_le h'.out.pos b1.out.size) (h'.out.steps.below h'.out.pos b1.out), b1.out⟩

set_option maxHeartbeats 4000000 in
theorem refLess_yes (o : Nat) (A B : Option Addr) (n c m d : Nat) (a b s : List Pr) (q : Nat) (ha : mayB o a = true) (hb : mayB o b = true) (hs : lessL o a b = s) (hq : s.length = q) (w : World) (h : Here w A n c a) (hh : Here w B m d b) :
    Calls Tryd.prog 17 #[.int .u8 o, .slice A n c, .slice B m d] w (MadeH w q s (.int .i64 0)) := by
  obtain ⟨i0, hi, hz0, hz1, hz2⟩ := info_parts info_pair
  have hs2 : a.filter (fun x => (got b x.1).isNone) = s := (less_filter (incr_mayB ha) (incr_mayB hb)).trans hs
  have hc := Lib.hid (refBoth_is o A B n c m d a b true true ha hb w h hh)
  have hl := h.len
  have hn9 := h.few
  have h' := Lib.hid h
  have hh' := Lib.hid hh
  have hmb := Lib.hid hb
  have hs' := Lib.hid hs2
  have hq' := Lib.hid hq
  clear h hh ha hb hs hq hs2
  go_enter Tryd.func17, Tryd.ntmps17
  go_wp2_with fail
  refine hc.out.mono ?_
  rintro e w1 ⟨rfl, hb⟩
  have b1 := Lib.hid hb
  clear hb hc
  go_wp2
  go_loopw [8, 9] (fun v8 v9 wr => ∃ k, k ≤ n ∧ v9 = .int .i64 (k : Int) ∧ wr.ownsRow w.heap.size 42 2 v8 ((a.take k).filter fun x => (got b x.1).isNone).length (flat ((a.take k).filter fun x => (got b x.1).isNone)) ∧ Below w.heap.size w wr) (fun _ v9 _ => n - (intOf v9).toNat)
  case atStart => exact ⟨0, Nat.zero_le _, rfl, World.ownsRow_nil _ _ _ _, b1.out⟩
  case round =>
    obtain ⟨k, hk, rfl, hown, hb⟩ := hrel
    have ho := Lib.hid hown
    have b2 := Lib.hid hb
    clear hown hb b1
    by_cases hlt : k < n
    · have hkl : k < a.length := by omega
      have hk1 : k + 1 ≤ n := hlt
      have hnx := Lib.hid (filter_next (q := fun x => (got b x.1).isNone) hkl)
      have hle := filter_le (q := fun x => (got b x.1).isNone) (l := a) (k := k)
      rw [hl] at hle
      obtain ⟨ad, rfl, _, g1, g2⟩ := pair_at (h'.out.row.below b2.out) k hkl
      obtain ⟨L, hL⟩ : ∃ L, ((a.take k).filter fun x => (got b x.1).isNone) = L := ⟨_, rfl⟩
      rw [hL] at ho hnx hle
      clear hL
      obtain ⟨y, hy⟩ : ∃ y, a[k] = y := ⟨_, rfl⟩
      simp only [hy] at g1 g2 hnx
      clear hy
      have hp2 := b2.out.size
      cases hg : got b y.1 with
      | some v =>
        have hg' := Lib.hid hg
        have e1 : Hid (((a.take (k + 1)).filter fun x => (got b x.1).isNone) = L) := by show _ = L; rw [hnx.out, hg]; rfl
        clear hg hnx
        go_wp2_with fail
        refine (refGet_has hmb.out hg'.out (hh'.out.next b2.out)).mono ?_
        rintro e w3 ⟨rfl, hb⟩
        have b3 := Lib.hid (Below.after b2.out hb)
        have o3 := Lib.hid (own_next ho.out hb)
        clear hb
        go_wp2
        go_roundw
        case rel => exact ⟨k + 1, hk1, by go_num, by rw [e1.out]; exact o3.out, b3.out⟩
        case measure => simp [intOf]; omega
      | none =>
        have hg' := Lib.hid hg
        have e1 : Hid (((a.take (k + 1)).filter fun x => (got b x.1).isNone) = L ++ [y]) := by show _ = L ++ [y]; rw [hnx.out, hg]; rfl
        clear hg hnx
        go_wp2_with fail
        refine (refGet_hasnt hmb.out hg'.out (hh'.out.next b2.out)).mono ?_
        rintro e w3 ⟨rfl, hb⟩
        have b3 := Lib.hid (Below.after b2.out hb)
        have o3 := Lib.hid (own_next ho.out hb)
        have q1 := keep_cell hb g1
        have q2 := keep_cell hb g2
        clear hb g1 g2
        go_wp2_with (at_builtin; refine wpList_append_row rfl _ _ 22 rfl w.heap.size 42 i0 (.agg #[.int .i64 0, .int .i64 0]) 2 16 Tryd.underlying22 hi hz0 hz1 hz2 rfl (by decide) _ L.length _ rfl (o3.out.alloc _) (some ⟨w3.heap.size, 0, none⟩) 1 1 (flat [y]) rfl (by simp) (Nat.le_refl _) rfl _ (Has.new w3 42 #[K y.1, K y.2]).row (flat_one [y]) (by unfold maxLen; omega) (by omega) (by have := b3.out.size; simp; omega) ?_)
        intro v' w4 hown hgrow
        have o4 := Lib.hid hown
        have b4 := Lib.hid ((b3.out.alloc b3.out.size (.cells #[K y.1, K y.2] 42)).grown hgrow (by have := b3.out.size; simp; omega) (fun r e => (o3.out.lt r e).1))
        clear hown hgrow
        go_wp2
        go_roundw
        case rel => exact ⟨k + 1, hk1, by go_num, by rw [e1.out, List.length_append, flat_append]; exact o4.out, b4.out⟩
        case measure => simp [intOf]; omega
    · have e : ((a.take k).filter fun x => (got b x.1).isNone) = s := by rw [List.take_of_length_le (by omega)]; exact hs'.out
      rw [e, hq'.out] at ho
      have hq9 : q ≤ 900 := by have := filter_le (q := fun x => (got b x.1).isNone) (l := a) (k := k); rw [e, hq'.out] at this; omega
      clear e
      go_wp2
      go_ret2
      exact made_own h'.out.pos h'.out.steps hq'.out hq9 ho.out b2.out
end Go.Proofs.YtjnnfineebabaaaDoor
