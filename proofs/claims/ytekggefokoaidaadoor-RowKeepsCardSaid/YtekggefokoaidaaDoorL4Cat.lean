/- The contracts of slices.Grow (at nil) and slices.Concat, for slices of pairs. -/
import Derived.Test.YtekggefokoaidaaDoorL4Row
import Derived.Test.YtekggefokoaidaaDoorGApp
import Derived.Lib.AppendZerosOnto
import Derived.Lib.Walk
import Derived.Lib.SliceRun
import Derived.Outline
namespace Go.Proofs.YtekggefokoaidaaDoor
open Go.RowKit Go.Proofs.Rowm

/-- a row of the call's own: the slice v holds the pairs l, and lies from block 'base' on -/
def OwnsP (w : World) (base : Nat) (l : List Pr) (e : Ending) (w' : World) : Prop :=
  ∃ v, e = .returned v ∧ w'.ownsRow base 24 2 v l.length (flat l) ∧ Below w.heap.size w w'

set_option maxHeartbeats 1000000 in
theorem grow_none (w : World) : Calls Tryd.prog 43 #[.slice none 0 0, .int .i64 0] w (OwnsP w w.heap.size []) := by
  go_enter Tryd.func43, Tryd.ntmps43
  go_wp2
  go_ret
  exact ⟨_, rfl, World.ownsRow_nil _ _ _ _, Below.refl _ _⟩
set_option maxRecDepth 100000 in
set_option maxHeartbeats 1000000 in
theorem grow_some (n : Nat) (h0 : 0 < n) (h1 : n ≤ 1000) (w : World) : Calls Tryd.prog 43 #[.slice none 0 0, .int .i64 n] w (OwnsP w w.heap.size []) := by
  obtain ⟨i0, hi, hz0, hz1, hz2⟩ := info_parts info_pair
  have hold : (Builtin.firstCells i0.size 0 (.slice none 0 0)).run Tryd.prog w.drew = .ok ([] : List Value).toArray w.drew := run_firstCells_none w.drew i0.size 0 0 0
  have hrz := fun ty => Lib.run_append_grow_zeros (P := Tryd.prog) w 22 3 ty 24 i0 (.agg #[.int .i64 0, .int .i64 0]) .i64 .i64 Tryd.underlying22 Tryd.underlying3 hi hz0 none 0 0 [] hold n h0 (by rw [hz1]; omega) (by omega) (by omega) (by rw [hz2]; omega)
    (by rw [Nat.zero_add, hz2]; unfold Builtin.nextslicecap; rw [if_pos (by omega)]; omega)
  simp only [Nat.zero_add] at hrz
  have hge := grownCap_ge w n 0 24
  have hle := grownCap_le_maxLen w n 0 24 (by unfold maxLen; omega)
  obtain ⟨G, hG⟩ : ∃ G, G = grownCap w n 0 24 := ⟨_, rfl⟩
  rw [← hG] at hrz hge hle
  have hle' := Lib.hid hle
  unfold maxLen at hle
  have hzc : ∀ k, (Builtin.zeroCells (Value.agg #[.int .i64 0, .int .i64 0]).cells k).size = k * 2 := fun k => by simp [Builtin.zeroCells, Value.cells]
  have hsz : (([] : List Value).toArray ++ Builtin.zeroCells (Value.agg #[.int .i64 0, .int .i64 0]).cells n ++ Builtin.zeroCells (Value.agg #[.int .i64 0, .int .i64 0]).cells (G - n)).size = G * 2 := by
    rw [Array.size_append, Array.size_append, hzc, hzc]; simp; omega
  obtain ⟨cs, hcs⟩ : ∃ cs, ([] : List Value).toArray ++ Builtin.zeroCells (Value.agg #[.int .i64 0, .int .i64 0]).cells n ++ Builtin.zeroCells (Value.agg #[.int .i64 0, .int .i64 0]).cells (G - n) = cs := ⟨_, rfl⟩
  rw [hcs] at hrz hsz
  have hsz' := Lib.hid hsz
  clear hsz
  have hrz' := Lib.hid hrz
  have hn0 : (0 : Int) < (n : Int) := by omega
  clear hrz hold hG hcs hzc
  go_enter Tryd.func43, Tryd.ntmps43
  go_wp2_with (at_builtin; refine Lib.wpList_append_run _ rfl _ _ _ _ rfl _ _ rfl rfl _ _ (hrz'.out _) ?_)
  all_goals
    go_ret
    refine ⟨_, rfl, ⟨rfl, .inr ⟨w.heap.size, G, cs, rfl, Nat.le_refl _, ?_, Nat.zero_le _, hle'.out, hsz'.out, rfl⟩⟩, ?_⟩
    · exact Has.new w.drew 24 cs
    · exact ((Below.refl _ _).drew).alloc (Nat.le_refl _) _
theorem grow_any (n : Nat) (h1 : n ≤ 1000) (w : World) : Calls Tryd.prog 43 #[.slice none 0 0, .int .i64 n] w (OwnsP w w.heap.size []) := by
  rcases Nat.eq_zero_or_pos n with rfl | h
  · exact grow_none w
  · exact grow_some n h h1 w

/-- a part of what is put together: its address, its capacity, its pairs -/
structure Part where
  A : Option Addr
  c : Nat
  l : List Pr
/-- it lies there -/
structure Part.Lies (p : Part) (w : World) (B : Nat) : Prop where
  row : Row w B p.A (flat p.l)
  cap : p.l.length ≤ p.c
  nil : p.A = none → p.c = 0
def Part.val (p : Part) : Value := .slice p.A p.l.length p.c
/-- the pairs of parts, one behind the other -/
def whole (ps : List Part) : List Pr := ps.flatMap (·.l)
theorem whole_snoc (ps : List Part) (k : Nat) (h : k < ps.length) : whole (ps.take (k + 1)) = whole (ps.take k) ++ ps[k].l := by
  unfold whole
  rw [List.take_succ_eq_append_getElem h, List.flatMap_append]; simp
theorem whole_le (ps : List Part) (k : Nat) : (whole (ps.take k)).length ≤ (whole ps).length := by
  have e : whole ps = whole (ps.take k) ++ whole (ps.drop k) := by unfold whole; rw [← List.flatMap_append, List.take_append_drop]
  rw [e, List.length_append]; omega

set_option maxHeartbeats 2000000 in
theorem concat_any (g m : Nat) (ps : List Part) (hm : ps.length = m) (hm3 : m ≤ 3) (w : World) (hg : g < w.heap.size) (hc : ∀ k (h : k < ps.length), w.cell? ⟨g, k, none⟩ = some ps[k].val) (hp : ∀ p ∈ ps, p.Lies w w.heap.size) (ht : (whole ps).length ≤ 1000) :
    Calls Tryd.prog 30 #[.slice (some ⟨g, 0, none⟩) m m] w (OwnsP w w.heap.size (whole ps)) := by
  obtain ⟨i0, hi, hz0, hz1, hz2⟩ := info_parts info_pair
  have hc' := Lib.hid hc
  have hp' := Lib.hid hp
  have hm' := Lib.hid hm
  clear hc hp hm
  go_enter Tryd.func30, Tryd.ntmps30
  go_wp2
  go_loop [3, 11] (fun s i => ∃ k : Nat, k ≤ m ∧ i = .int .i64 k ∧ s = .int .i64 ((whole (ps.take k)).length : Nat)) (fun _ i => m - (intOf i).toNat)
  case atStart => exact ⟨0, Nat.zero_le _, rfl, rfl⟩
  case round =>
    obtain ⟨k, hk, rfl, rfl⟩ := hrel
    have hw := whole_le ps k
    obtain ⟨s, hs⟩ : ∃ s, (whole (ps.take k)).length = s := ⟨_, rfl⟩
    rw [hs] at hw ⊢
    by_cases hlt : k < m
    · have hkl : k < ps.length := by rw [hm'.out]; exact hlt
      have hw2 := whole_le ps (k + 1)
      have hs2 : (whole (ps.take (k + 1))).length = s + ps[k].l.length := by rw [whole_snoc ps k hkl, List.length_append, hs]
      rw [hs2] at hw2
      have hs' := Lib.hid hs2
      clear hs hs2
      have g1 := hc'.out k hkl
      obtain ⟨p, hpk⟩ : ∃ p, ps[k] = p := ⟨_, rfl⟩
      rw [hpk] at g1 hs' hw2
      clear hpk
      obtain ⟨pA, pc, pl⟩ := p
      simp only [Part.val] at g1
      have hle : pl.length ≤ 1000 := by simp only at hw2; omega
      simp only at hw2
      obtain ⟨q, hq⟩ : ∃ q, pl.length = q := ⟨_, rfl⟩
      simp only [hq] at g1 hw2 hle hs'
      clear hq
      have hsn : ¬ ((s : Int) + (q : Int) < 0) := by omega
      go_wp2
      go_round
      case rel => exact ⟨k + 1, by omega, by go_num, by rw [hs'.out]; go_num⟩
      case measure => simp [intOf]; omega
    · obtain rfl : k = m := by omega
      have hs' : Hid ((whole ps).length = s) := by
        show (whole ps).length = s
        rw [← hs, List.take_of_length_le (by rw [hm'.out]; exact Nat.le_refl _)]
      clear hs
      go_wp2_with (go_at_call 43; refine (grow_any _ (by omega) _).mono ?_; rintro e w1 ⟨v, rfl, hown, hb⟩; have ho := Lib.hid hown; have hb' := Lib.hid hb; clear hown hb)
      go_loopw [6, 27] (fun t i wr => ∃ q : Nat, q ≤ k ∧ i = .int .i64 q ∧ wr.ownsRow w.heap.size 24 2 t (whole (ps.take q)).length (flat (whole (ps.take q))) ∧ Below w.heap.size w wr) (fun _ i _ => k - (intOf i).toNat)
      case atStart => exact ⟨0, Nat.zero_le _, rfl, ho.out, hb'.out⟩
      case round =>
        obtain ⟨q, hq, rfl, hown, hbw⟩ := hrel
        have ho2 := Lib.hid hown
        have b2 := Lib.hid hbw
        clear hown hbw ho hb'
        have hw2 := whole_le ps (q + 1)
        by_cases hlq : q < k
        · have hkl : q < ps.length := by rw [hm'.out]; exact hlq
          have hs2 := whole_snoc ps q hkl
          have g1 := (b2.out.cell (p := ⟨g, q, none⟩) hg).trans (hc'.out q hkl)
          have hlies := hp'.out ps[q] (List.getElem_mem _)
          rw [hs2] at hw2
          obtain ⟨p, hpk⟩ : ∃ p, ps[q] = p := ⟨_, rfl⟩
          rw [hpk] at g1 hs2 hw2 hlies
          clear hpk
          obtain ⟨pA, pc, pl⟩ := p
          simp only [Part.val] at g1
          simp only at hw2 hs2
          rw [List.length_append] at hw2
          have hs' := Lib.hid hs2
          have hrow := Lib.hid (hlies.row.below b2.out)
          have hcap := Lib.hid hlies.cap
          have hnil := Lib.hid hlies.nil
          clear hs2 hlies
          obtain ⟨L, hL⟩ : ∃ L, whole (ps.take q) = L := ⟨_, rfl⟩
          rw [hL] at ho2 hw2 hs'
          clear hL
          obtain ⟨z, hz⟩ : ∃ z, pl.length = z := ⟨_, rfl⟩
          have hz' := Lib.hid hz
          simp only [hz] at g1 hw2
          clear hz
          go_wp2_with (at_builtin; refine wpList_append_row rfl _ _ 22 rfl w.heap.size 24 i0 (.agg #[.int .i64 0, .int .i64 0]) 2 16 Tryd.underlying22 hi hz0 hz1 hz2 rfl (by decide) _ L.length _ rfl ho2.out pA z pc (flat pl) rfl hnil.out ?c1 ?c2 _ hrow.out (flat_one pl) (by unfold maxLen; omega) (by omega) b2.out.size ?_)
          case c1 => have := hcap.out; simp only [hz'.out] at this; exact this
          case c2 => rw [flat_length, hz'.out]
          intro v' w2 hown hgrow
          have ho3 := Lib.hid hown
          have b3 := Lib.hid (b2.out.grown hgrow b2.out.size (fun r e => (ho2.out.lt r e).1))
          clear hown hgrow
          go_wp2
          go_roundw
          case rel => exact ⟨q + 1, by omega, by go_num, by rw [hs'.out, List.length_append, hz'.out, flat_append]; exact ho3.out, b3.out⟩
          case measure => simp [intOf]; omega
        · obtain rfl : q = k := by omega
          have e : ps.take q = ps := List.take_of_length_le (by rw [hm'.out]; exact Nat.le_refl _)
          rw [e] at ho2
          go_wp2
          go_ret
          exact ⟨_, rfl, ho2.out, b2.out⟩
end Go.Proofs.YtekggefokoaidaaDoor
