/- Slices of steps (layer 4): what they hold, opened; what a row keeps under Put and Drop. -/
import Derived.Test.YtekggefokoaidaaDoorL4Open
import Derived.Test.YtekggefokoaidaaDoorL4Ans
import Derived.ChangeArms
namespace Go.Proofs.YtekggefokoaidaaDoor
open Go.ChangeShapes Go.WideShapes Go.ChangeAt Go.RowKit Go.Deep Go.Joins Go.Shelf Go.Proofs.Rowm

/-- a step: a pair, and whether its key is dropped -/
abbrev St := Pr × Bool
/-- the cells of steps -/
def flatS (l : List St) : List Value := l.flatMap fun s => [K s.1.1, K s.1.2, .bool s.2]
theorem flatS_cons (s : St) (l : List St) : flatS (s :: l) = K s.1.1 :: K s.1.2 :: .bool s.2 :: flatS l := rfl
theorem flatS_length : ∀ l : List St, (flatS l).length = l.length * 3
  | [] => rfl
  | s :: l => by rw [flatS_cons, List.length_cons, List.length_cons, List.length_cons, flatS_length l, List.length_cons]; omega
theorem flatS_at : ∀ (l : List St) (k : Nat) (h : k < l.length), (flatS l)[k * 3]? = some (K l[k].1.1) ∧ (flatS l)[k * 3 + 1]? = some (K l[k].1.2) ∧ (flatS l)[k * 3 + 2]? = some (.bool l[k].2)
  | [], k, h => by simp at h
  | s :: l, 0, _ => ⟨rfl, rfl, rfl⟩
  | s :: l, k + 1, h => by
    obtain ⟨a, b, c⟩ := flatS_at l k (by simpa using h)
    rw [flatS_cons, show (k + 1) * 3 = k * 3 + 1 + 1 + 1 by omega, show k * 3 + 1 + 1 + 1 + 1 = (k * 3 + 1) + 1 + 1 + 1 by omega, show k * 3 + 1 + 1 + 1 + 2 = (k * 3 + 2) + 1 + 1 + 1 by omega]
    simp only [List.getElem?_cons_succ, List.getElem_cons_succ]
    exact ⟨a, b, c⟩
theorem add_two_is (x : Addr) : x.add 2 = ⟨x.block, x.off + 2, none⟩ := by simp [Addr.add]
/-- a slice of steps: what the walk reads of its step number k -/
theorem step_at {w : World} {B : Nat} {A : Option Addr} {l : List St} (h : Row w B A (flatS l)) (k : Nat) (hk : k < l.length) :
    ∃ ad, A = some ad ∧ ad.block < B ∧ w.cell? (ad.add (k * 3)) = some (K l[k].1.1) ∧ w.cell? ⟨(ad.add (k * 3)).block, (ad.add (k * 3)).off + 1, none⟩ = some (K l[k].1.2) ∧ w.cell? ⟨(ad.add (k * 3)).block, (ad.add (k * 3)).off + 2, none⟩ = some (.bool l[k].2) := by
  obtain ⟨f0, f1, f2⟩ := flatS_at l k hk
  obtain ⟨ad, e, hb, h0⟩ := h _ _ f0
  obtain ⟨ad', e', _, h1⟩ := h _ _ f1
  obtain ⟨ad'', e'', _, h2⟩ := h _ _ f2
  rw [e] at e' e''
  cases e'
  cases e''
  exact ⟨ad, e, hb, h0, by rw [← add_one_is, add_add]; exact h1, by rw [← add_two_is, add_add]; exact h2⟩

theorem cellsT : Tryd.prog.cellsOf 46 = 3 := by kernel_rfl
theorem cellsB : Tryd.prog.cellsOf 4 = 1 := by kernel_rfl
section
variable {H : Type} {enc : TypeId × Value → H} {W : World} {b0 : Nat} {spare : Nat → Bool} {held : Bool}
theorem bool_cell {T : TypeId} {fuel : Nat} {v : Value} {x : DataW H × List MemPlace} (ht : Tryd.prog.underlying T = some .bool) (h : DataW.trod enc Tryd.prog W b0 spare held fuel T [v] = some x) : ∃ b : Bool, v = .bool b := by
  obtain ⟨k, e1, _⟩ := DataW.trod_bool ht h
  simp at e1
  exact ⟨k, e1⟩
/-- the three cells of a step in memory -/
theorem step_cells4 {fuel : Nat} {cs : List Value} {x : DataW H × List MemPlace} (h : DataW.trod enc Tryd.prog W b0 spare held fuel 46 cs = some x) : ∃ s : St, cs = [K s.1.1, K s.1.2, .bool s.2] := by
  obtain ⟨y0, y1, n, _, hl, h0, h1⟩ := trod_struct2 Tryd.underlying46 h
  rw [cellsT] at hl
  match cs, hl with
  | [u, v, b], _ =>
    simp [cellsP, cellsB] at h0 h1
    obtain ⟨p, hp⟩ := pair_cells h0
    obtain ⟨d, rfl⟩ := bool_cell Tryd.underlying4 h1
    simp only [List.cons.injEq, and_true] at hp
    obtain ⟨rfl, rfl⟩ := hp
    exact ⟨(p, d), rfl⟩
theorem row_of_steps {w : World} {ad : Addr} {n : Nat} (f : Fin n → St) (hb : 0 < n → ad.block < w.heap.size) (h : ∀ i : Fin n, w.cell? (ad.add (i.1 * 3)) = some (K (f i).1.1) ∧ w.cell? (ad.add (i.1 * 3 + 1)) = some (K (f i).1.2) ∧ w.cell? (ad.add (i.1 * 3 + 2)) = some (.bool (f i).2)) : Row w w.heap.size (some ad) (flatS (List.ofFn f)) := by
  intro j u hu
  have hj : j < (flatS (List.ofFn f)).length := by
    rcases Nat.lt_or_ge j (flatS (List.ofFn f)).length with hl | hl
    · exact hl
    · rw [List.getElem?_eq_none hl] at hu; cases hu
  rw [flatS_length, List.length_ofFn] at hj
  obtain ⟨i, hi⟩ : ∃ i, i = j / 3 := ⟨_, rfl⟩
  have hin : i < n := by omega
  have hl : i < (List.ofFn f).length := by rw [List.length_ofFn]; exact hin
  obtain ⟨f0, f1, f2⟩ := flatS_at _ i hl
  obtain ⟨h0, h1, h2⟩ := h ⟨i, hin⟩
  refine ⟨ad, rfl, hb (by omega), ?_⟩
  rcases (by omega : j = i * 3 ∨ j = i * 3 + 1 ∨ j = i * 3 + 2) with rfl | rfl | rfl
  · rw [f0, List.getElem_ofFn] at hu; rw [h0, ← hu]
  · rw [f1, List.getElem_ofFn] at hu; rw [h1, ← hu]
  · rw [f2, List.getElem_ofFn] at hu; rw [h2, ← hu]
/-- a slice of steps that came in -/
theorem open_steps {base : Nat} {v : Value} {d : DataW H} {ps : List MemPlace} (hv : Value.okWide Tryd.prog W .any base 44 v) (h : DataW.Trod enc Tryd.prog W b0 spare held 44 v d ps) :
    ∃ A n c, ∃ l : List St, v = .slice A n c ∧ l.length = n ∧ n ≤ c ∧ c ≤ maxLen ∧ (A = none → c = 0) ∧ Row W W.heap.size A (flatS l) := by
  obtain ⟨A, n, c, rfl⟩ := okWide_slice Tryd.underlying44 hv
  obtain ⟨fuel, hf⟩ := h
  rcases open_slice Tryd.underlying44 hf with ⟨hcs, _⟩ | ⟨x, len, cap, m, k, D, Pl, hcs, _, hl, hm, hmm, _, hi⟩
  · simp [Value.cells] at hcs
    obtain ⟨rfl, rfl, rfl⟩ := hcs
    exact ⟨none, 0, 0, [], rfl, rfl, Nat.le_refl _, Nat.zero_le _, fun _ => rfl, Row.none_ _ _ _⟩
  · simp [Value.cells] at hcs
    obtain ⟨rfl, rfl, rfl⟩ := hcs
    have hnm : n ≤ m := by rw [hmm]; split <;> omega
    rw [cellsT] at hi
    have hex : ∀ i : Fin n, ∃ p : St, W.cell? (x.add (i.1 * 3)) = some (K p.1.1) ∧ W.cell? (x.add (i.1 * 3 + 1)) = some (K p.1.2) ∧ W.cell? (x.add (i.1 * 3 + 2)) = some (.bool p.2) := fun i => by
      obtain ⟨cs', hc, ht⟩ := hi i.1 (by have := i.2; omega)
      obtain ⟨p, rfl⟩ := step_cells4 ht
      obtain ⟨_, _, hat⟩ := World.cells?_some hc
      have e0 := hat 0 (by omega)
      have e1 := hat 1 (by omega)
      have e2 := hat 2 (by omega)
      rw [Go.Proofs.YtekggefokoaidaaDoor.add_add] at e0 e1 e2
      rw [Nat.add_zero] at e0
      exact ⟨p, e0, e1, e2⟩
    obtain ⟨f, hf'⟩ := Classical.axiomOfChoice hex
    refine ⟨some x, n, c, List.ofFn f, rfl, List.length_ofFn, hl, hm, (fun e => by cases e), row_of_steps f (fun h0 => ?_) hf'⟩
    have := block_lt_of_cell (hf' ⟨0, h0⟩).1
    rw [add_block] at this
    exact this
end

/-- what the law keeps of its row: it may be, and the key that is asked has v, or (t false) nothing -/
structure Keep (o : Nat) (key : BitVec 64) (r : List Pr) (v : BitVec 64) (t : Bool) : Prop where
  may : mayB o r = true
  got : Rowm.got r key = if t then some v else none
section
variable {o : Nat} {key k : BitVec 64} {r : List Pr} {v x : BitVec 64} {t : Bool} {i j : Nat}
theorem keep_nil (h1 : 1 ≤ o) (h7 : o ≤ 7) : Keep o key [] v false := ⟨mayB_mk h1 h7 rfl, rfl⟩
theorem Keep.drop_same (h : Keep o key r v t) (ha : At o r key i j) : Keep o key (dropAt r i j) v false :=
  ⟨mayB_mk (mayB_parts h.may).1 (mayB_parts h.may).2.1 (rises_dropAt (mayB_parts h.may).2.2 ha), got_drop_same ha⟩
theorem Keep.drop_other (h : Keep o key r v t) (ha : At o r k i j) (hk : k ≠ key) : Keep o key (dropAt r i j) v t :=
  ⟨mayB_mk (mayB_parts h.may).1 (mayB_parts h.may).2.1 (rises_dropAt (mayB_parts h.may).2.2 ha), (got_drop_other ha hk).trans h.got⟩
theorem sum_is3 (a b : BitVec 64) : Foldm.cmb 3 a b = a + b := rfl
theorem got_sum (ha : At o r k i j) : Rowm.got (putAt 3 r (k, x) i j) k = some (valAt r i j + x) := by
  rw [got_put_same (x := (k, x)) ha, sum_is3]
  unfold valAt
  by_cases h : i < j
  · rw [if_pos h, if_pos h]
  · rw [if_neg h, if_neg h]; simp
theorem keep_put (hm : mayB o r = true) (ha : At o r k i j) : Keep o k (putAt 3 r (k, x) i j) (valAt r i j + x) true :=
  ⟨mayB_mk (mayB_parts hm).1 (mayB_parts hm).2.1 (rises_putAt (x := (k, x)) (mayB_parts hm).2.2 ha), got_sum ha⟩
theorem Keep.put_other (h : Keep o key r v t) (ha : At o r k i j) (hk : k ≠ key) : Keep o key (putAt 3 r (k, x) i j) v t :=
  ⟨mayB_mk (mayB_parts h.may).1 (mayB_parts h.may).2.1 (rises_putAt (x := (k, x)) (mayB_parts h.may).2.2 ha), (got_put_other (x := (k, x)) ha hk).trans h.got⟩
/-- Get of the key that is asked -/
theorem Keep.get_has (h : Keep o key r v true) {A : Option Addr} {n c : Nat} {W : World} (hh : Here W A n c r) :
    Calls Tryd.prog 10 #[.int .u8 o, .slice A n c, K key] W fun e w' => e = .returned (.tuple #[K v, .bool true]) ∧ Below W.heap.size W w' := by
  have ha := at_of (mayB_parts h.may).2.2 key
  generalize pos o key r = i at ha
  generalize upto o key r = j at ha
  have hg := ha.got
  rw [h.got] at hg
  by_cases hij : i < j
  · rw [if_pos hij] at hg
    simp only [if_true, Option.some.injEq] at hg
    rw [hg]
    exact get_yes o A n c r key i j true (decide_eq_true hij) h.may ha hh.len hh.k W hh.pos hh.steps hh.row
  · rw [if_neg hij] at hg
    simp at hg
theorem Keep.get_not (h : Keep o key r v false) {A : Option Addr} {n c : Nat} {W : World} (hh : Here W A n c r) :
    Calls Tryd.prog 10 #[.int .u8 o, .slice A n c, K key] W fun e w' => (∃ g, e = .returned (.tuple #[K g, .bool false])) ∧ Below W.heap.size W w' := by
  have ha := at_of (mayB_parts h.may).2.2 key
  generalize pos o key r = i at ha
  generalize upto o key r = j at ha
  have hg := ha.got
  rw [h.got] at hg
  by_cases hij : i < j
  · rw [if_pos hij] at hg
    simp at hg
  · exact (get_yes o A n c r key i j false (decide_eq_false hij) h.may ha hh.len hh.k W hh.pos hh.steps hh.row).mono fun _ _ ⟨e, b⟩ => ⟨⟨_, e⟩, b⟩
/-- a call that makes a row, under names -/
def MadeH (W : World) (m : Nat) (l : List Pr) (x : Value) (e : Ending) (w' : World) : Prop :=
  ∃ A c, e = .returned (.tuple #[.slice A m c, x]) ∧ Here w' A m c l ∧ Below W.heap.size W w'
theorem made_here {W w' : World} {m : Nat} {l : List Pr} {x : Value} {e : Ending} (hp : 0 < W.heap.size) (hs : Steps W) (hm : l.length = m) (h9 : m ≤ 900) (h : MadeT W l x e w') : MadeH W m l x e w' := by
  obtain ⟨A, c, he, hc, _, hn, hr, hb⟩ := h
  subst hm
  exact ⟨A, c, he, ⟨rfl, h9, hc, hn, Nat.lt_of_lt_of_le hp hb.size, hs.below hp hb, hr⟩, hb⟩
theorem drop_named {s : List Pr} {m : Nat} (hm : mayB o r = true) (ha : At o r k i j) (ht : decide (i < j) = t) (hd : dropAt r i j = s) (hsm : s.length = m) (h9 : m ≤ 900) {A : Option Addr} {n c : Nat} {W : World} (h : Here W A n c r) :
    Calls Tryd.prog 14 #[.int .u8 o, .slice A n c, K k] W (MadeH W m s (.bool t)) := by
  subst hd
  exact (drop_yes o A n c r k i j t ht hm ha h.len h.few h.cap h.nil W h.pos h.steps h.row).mono fun _ _ hh => made_here h.pos h.steps hsm h9 hh
theorem put_named {s : List Pr} {m : Nat} (hm : mayB o r = true) (ha : At o r k i j) (hd : putAt 3 r (k, x) i j = s) (hsm : s.length = m) (h9 : m ≤ 900) {A : Option Addr} {n c : Nat} {W : World} (h : Here W A n c r) :
    Calls Tryd.prog 12 #[.int .u8 o, .int .u8 3, .slice A n c, .agg #[K k, K x]] W (MadeH W m s (.int .i64 0)) := by
  subst hd
  exact (put_yes o 3 (by decide) (by decide) A n c r (k, x) i j hm ha h.len h.few h.cap h.nil W h.pos h.steps h.row).mono fun _ _ hh => made_here h.pos h.steps hsm h9 hh
theorem get_named {g : BitVec 64} (hm : mayB o r = true) (ha : At o r k i j) (ht : decide (i < j) = t) (hg : valAt r i j = g) {A : Option Addr} {n c : Nat} {W : World} (h : Here W A n c r) :
    Calls Tryd.prog 10 #[.int .u8 o, .slice A n c, K k] W fun e w' => e = .returned (.tuple #[K g, .bool t]) ∧ Below W.heap.size W w' :=
  hg ▸ get_yes o A n c r k i j t ht hm ha h.len h.k W h.pos h.steps h.row
end
end Go.Proofs.YtekggefokoaidaaDoor
