/- Layer 12, as landed: Exact. -/
import Derived.LaidEqlPtr
import Derived.WideMake
import Derived.MapKept
import Derived.Laws.EntriesVeiled
import Derived.RangeFuncRecord
import Derived.Test.YtfndaeocdgcaeaaDoorGTurns
import Derived.Test.YtfndaeocdgcaeaaDoorJF
import Derived.Test.YtfndaeocdgcaeaaDoorGApart
import Derived.Test.YtfndaeocdgcaeaaDoorGOwn
import Derived.Test.YtfndaeocdgcaeaaDoorGCut
import Derived.Test.YtfndaeocdgcaeaaDoorGHeldIn
import Derived.Test.YtfndaeocdgcaeaaDoorL9Rules
import Derived.Deep.Cut
import Derived.Laws.OwnMore
import Derived.Test.YtfndaeocdgcaeaaDoorGRound
/- A set of pointers that a call makes (map[*T]bool): its entries, look-up, a new one put in. No program. -/
namespace Go.Proofs.YtfndaeocdgcaeaaDoor
open Go Go.RowKit

/-- a pointer to what is cells, or none -/
def GoodP (W : World) (p : Option Addr) : Prop := ∀ a, p = some a → ∃ cs t, W.heap[a.block]? = some (.cells cs t (0, 0))
theorem GoodP.below {W W' : World} {p : Option Addr} (h : GoodP W p) (hb : Below W.heap.size W W') : GoodP W' p := fun a e => by
  obtain ⟨cs, t, hc⟩ := h a e
  exact ⟨cs, t, (hb.block _ (Array.getElem?_eq_some_iff.1 hc).1).trans hc⟩
/-- the entries of a set, in the order in which they came -/
def ents : List (Option Addr) → Nat → List MapEntry
  | [], _ => []
  | p :: S, i => ⟨.pointer p, .bool true, i⟩ :: ents S (i + 1)
def setO (S : List (Option Addr)) : Obj := .map (ents S 0).toArray S.length
theorem ents_snoc (p : Option Addr) : ∀ (S : List (Option Addr)) (i : Nat), ents (S ++ [p]) i = ents S i ++ [⟨.pointer p, .bool true, i + S.length⟩]
  | [], i => rfl
  | q :: S, i => by simp [ents, ents_snoc p S (i + 1), Nat.add_assoc, Nat.add_comm 1]
section
variable {P : Program} {tm tp te tb : TypeId} {j : TypeInfo}
theorem equal_ptr (W : World) (hp : P.underlying tp = some (.pointer te)) (hte : P.info? te = some j) (hsz : j.size ≠ 0) (p q : Option Addr) (h : GoodP W p) (k : GoodP W q) : (Op.equal tp (.pointer p) (.pointer q)).run P W = .ok (decide (p = q)) W := by
  have e : ∀ d : Nat, (Op.equalIn (d + 1) tp (.pointer p) (.pointer q)).run P W = .ok (decide (p = q)) W := fun d => by
    cases p with
    | none => cases q <;> simp [Op.equalIn, run_underlying hp]
    | some a =>
      cases q with
      | none => simp [Op.equalIn, run_underlying hp]
      | some b =>
        by_cases hab : a = b
        · subst hab
          simp [Op.equalIn, run_underlying hp, sizeOf, typeInfo, hte, run_sameAddr_same]
        · obtain ⟨ca, ta, ha⟩ := h a rfl
          obtain ⟨cb, tb, hb⟩ := k b rfl
          simp [Op.equalIn, run_underlying hp, sizeOf, typeInfo, hte, hsz, run_sameAddr_other W hab ha hb, hab]
  simp only [Op.equal, Op.maxDepth, e 9999]
theorem find_yes (W : World) (hp : P.underlying tp = some (.pointer te)) (hte : P.info? te = some j) (hsz : j.size ≠ 0) (p : Option Addr) (h : GoodP W p) : ∀ (S : List (Option Addr)) (b i : Nat), (∀ q ∈ S, GoodP W q) → p ∈ S →
    ∃ n, (Instr.findAsking tp (.pointer p) (ents S b) i).run P W = .ok (some (n, .bool true)) W
  | [], _, _, _, hm => by cases hm
  | q :: S, b, i, hg, hm => by
    have e := equal_ptr W hp hte hsz p q h (hg q (List.mem_cons_self ..))
    by_cases hpq : p = q
    · subst hpq
      exact ⟨i, by simp [ents, Instr.findAsking, e]⟩
    · obtain ⟨n, hn⟩ := find_yes W hp hte hsz p h S (b + 1) (i + 1) (fun x hx => hg x (List.mem_cons_of_mem _ hx)) ((List.mem_cons.1 hm).resolve_left hpq)
      exact ⟨n, by simp [ents, Instr.findAsking, e, hpq, hn]⟩
theorem find_no (W : World) (hp : P.underlying tp = some (.pointer te)) (hte : P.info? te = some j) (hsz : j.size ≠ 0) (p : Option Addr) (h : GoodP W p) : ∀ (S : List (Option Addr)) (b i : Nat), (∀ q ∈ S, GoodP W q) → p ∉ S →
    (Instr.findAsking tp (.pointer p) (ents S b) i).run P W = .ok none W
  | [], _, _, _, _ => by simp [ents, Instr.findAsking]
  | q :: S, b, i, hg, hm => by
    have e := equal_ptr W hp hte hsz p q h (hg q (List.mem_cons_self ..))
    have hpq : p ≠ q := fun e => hm (e ▸ List.mem_cons_self ..)
    have hn := find_no W hp hte hsz p h S (b + 1) (i + 1) (fun x hx => hg x (List.mem_cons_of_mem _ hx)) (fun hx => hm (List.mem_cons_of_mem _ hx))
    simp [ents, Instr.findAsking, e, hpq, hn]
theorem key_yes (W : World) (hp : P.underlying tp = some (.pointer te)) (hte : P.info? te = some j) (hsz : j.size ≠ 0) (p : Option Addr) (h : GoodP W p) (S : List (Option Addr)) (hg : ∀ q ∈ S, GoodP W q) (hm : p ∈ S) :
    ∃ n, (Instr.findKey tp (.pointer p) (ents S 0)).run P W = .ok (some (n, .bool true)) W := by
  obtain ⟨n, hn⟩ := find_yes W hp hte hsz p h S 0 0 hg hm
  cases S with
  | nil => cases hm
  | cons q S => exact ⟨n, by simp [Instr.findKey, run_underlying hp, ents, Instr.findNow, Instr.sameNow]; exact hn⟩
theorem key_no (W : World) (hp : P.underlying tp = some (.pointer te)) (hte : P.info? te = some j) (hsz : j.size ≠ 0) (p : Option Addr) (h : GoodP W p) (S : List (Option Addr)) (hg : ∀ q ∈ S, GoodP W q) (hm : p ∉ S) :
    (Instr.findKey tp (.pointer p) (ents S 0)).run P W = .ok none W := by
  have hn := find_no W hp hte hsz p h S 0 0 hg hm
  cases S with
  | nil => simp [Instr.findKey, run_underlying hp, ents, Instr.findNow]
  | cons q S => simp [Instr.findKey, run_underlying hp, ents, Instr.findNow, Instr.sameNow]; exact hn
theorem check_ptr (W : World) (hp : P.underlying tp = some (.pointer te)) (b : Bool) (p : Option Addr) : (Instr.checkKey b 10000 tp (.pointer p)).run P W = .ok () W := by
  have e : ∀ d : Nat, (Instr.checkKey b (d + 1) tp (.pointer p)).run P W = .ok () W := fun d => by
    unfold Instr.checkKey
    simp [run_underlying hp]
  exact e 9999
/-- whether a pointer is in the set -/
theorem look_ptr (W : World) (hm : P.underlying tm = some (.map tp tb)) (hp : P.underlying tp = some (.pointer te)) (hte : P.info? te = some j) (hsz : j.size ≠ 0) (hz : (zeroValue tb).run P W = .ok (.bool false) W) (r : Nat) (S : List (Option Addr)) (hr : W.heap[r]? = some (setO S))
    (hg : ∀ q ∈ S, GoodP W q) (p : Option Addr) (h : GoodP W p) (B : Bool) (hB : decide (p ∈ S) = B) : (Instr.lookup tm (.map (some r)) (.pointer p) false).run P W = .ok (.bool B) W := by
  have hc := check_ptr W hp (ents S 0).toArray.isEmpty p
  have ho := MapKept.run_getObj_map (P := P) hr
  subst hB
  by_cases hx : p ∈ S
  · obtain ⟨n, hn⟩ := key_yes W hp hte hsz p h S hg hx
    simp [Instr.lookup, run_underlying hm, ho, Result.andThen, hx] at hc ⊢
    simp [hc, hn]
  · have hn := key_no W hp hte hsz p h S hg hx
    simp [Instr.lookup, run_underlying hm, ho, Result.andThen, hx] at hc ⊢
    simp [hc, hn, hz]
/-- a pointer that is not in it is put in -/
theorem put_ptr (W : World) (hm : P.underlying tm = some (.map tp tb)) (hp : P.underlying tp = some (.pointer te)) (hte : P.info? te = some j) (hsz : j.size ≠ 0) (r : Nat) (S : List (Option Addr)) (hr : W.heap[r]? = some (setO S))
    (hg : ∀ q ∈ S, GoodP W q) (p : Option Addr) (h : GoodP W p) (hx : p ∉ S) : (Instr.mapUpdate tm (.map (some r)) (.pointer p) (.bool true)).run P W = .ok () (W.putObj r (setO (S ++ [p]))) := by
  have hc := check_ptr W hp false p
  have ho := MapKept.run_getObj_map (P := P) hr
  have hn := key_no W hp hte hsz p h S hg hx
  have hs := MapKept.run_setObj_map (P := P) (setO (S ++ [p])) hr
  have e : setO (S ++ [p]) = .map ((ents S 0).toArray.push ⟨.pointer p, .bool true, S.length⟩) (S.length + 1) := by simp [setO, ents_snoc]
  rw [e] at hs ⊢
  simp [Instr.mapUpdate, run_underlying hm, ho, Result.andThen, hn, hc]
  simp at hs
  rw [hs]
  rfl
end
end Go.Proofs.YtfndaeocdgcaeaaDoor
/- Layer 12, as landed: whether a node tells what its sides come to. -/
namespace Go.Proofs.YtfndaeocdgcaeaaDoor
open Go.RowKit Go.Proofs.Treem
set_option maxRecDepth 100000
variable {Nd : NdP} {T : World → Prop}

set_option maxHeartbeats 4000000 in
theorem tells_any (hN : NodeSays Nd) (t : Tr) (a : Addr) (w : World) (hp : TreeAt Nd w w.heap.size t (some a)) : Calls Tryd.prog 29 #[.pointer (some a)] w fun e w' => e = .returned (.bool true) ∧ Below w.heap.size w w' := by
  cases t with
  | e => cases hp
  | n tl k x g tr =>
    obtain ⟨a', pl, pr, ha, hnd, hl, hr⟩ := hp
    cases ha
    obtain ⟨si, hsi⟩ : ∃ b, BitVec.ofNat 64 tl.size = b := ⟨_, rfl⟩
    obtain ⟨sj, hsj⟩ : ∃ b, BitVec.ofNat 64 tr.size = b := ⟨_, rfl⟩
    obtain ⟨mi, hmi⟩ : ∃ b, tl.sum = b := ⟨_, rfl⟩
    obtain ⟨mj, hmj⟩ : ∃ b, tr.sum = b := ⟨_, rfl⟩
    have e0 : BitVec.ofNat 64 (1 + tl.size + tr.size) = si + 1#64 + sj := by rw [← bits_size, hsi, hsj, BitVec.add_assoc, BitVec.add_comm sj, ← BitVec.add_assoc]
    rw [e0, hmi, hmj] at hnd
    have ll := hl.look
    have lr := hr.look
    rw [hsi, hmi] at ll
    rw [hsj, hmj] at lr
    have cS : Hid (∀ U, Below w.heap.size w U → Calls Tryd.prog 37 #[.pointer (some a)] U fun e w' => e = .returned (K (si + 1#64 + sj)) ∧ U = w') := fun U hU => hN.size U U.heap.size a _ (nd_after hN hnd hU)
    have cM : Hid (∀ U, Below w.heap.size w U → Calls Tryd.prog 38 #[.pointer (some a)] U fun e w' => e = .returned (K (mi + x + mj)) ∧ U = w') := fun U hU => hN.sum U U.heap.size a _ (nd_after hN hnd hU)
    have cV : Hid (∀ U, Below w.heap.size w U → Calls Tryd.prog 48 #[.pointer (some a)] U fun e w' => e = .returned (K x) ∧ U = w') := fun U hU => hN.val U U.heap.size a _ (nd_after hN hnd hU)
    have cL : Hid (∀ U, Below w.heap.size w U → Calls Tryd.prog 16 #[.pointer (some a)] U fun e w' => e = .returned (.pointer pl) ∧ U = w') := fun U hU => hN.left U U.heap.size a _ (nd_after hN hnd hU)
    have cR : Hid (∀ U, Below w.heap.size w U → Calls Tryd.prog 17 #[.pointer (some a)] U fun e w' => e = .returned (.pointer pr) ∧ U = w') := fun U hU => hN.right U U.heap.size a _ (nd_after hN hnd hU)
    have lS : Hid (∀ U, Below w.heap.size w U → Calls Tryd.prog 37 #[.pointer pl] U fun e w' => e = .returned (K si) ∧ Below U.heap.size U w') := fun U hU => (hsi ▸ hmi ▸ (hl.after hN hU).look : Look Nd U U.heap.size pl si mi).size hN
    have lM : Hid (∀ U, Below w.heap.size w U → Calls Tryd.prog 38 #[.pointer pl] U fun e w' => e = .returned (K mi) ∧ Below U.heap.size U w') := fun U hU => (hsi ▸ hmi ▸ (hl.after hN hU).look : Look Nd U U.heap.size pl si mi).sum hN
    have rS : Hid (∀ U, Below w.heap.size w U → Calls Tryd.prog 37 #[.pointer pr] U fun e w' => e = .returned (K sj) ∧ Below U.heap.size U w') := fun U hU => (hsj ▸ hmj ▸ (hr.after hN hU).look : Look Nd U U.heap.size pr sj mj).size hN
    have rM : Hid (∀ U, Below w.heap.size w U → Calls Tryd.prog 38 #[.pointer pr] U fun e w' => e = .returned (K mj) ∧ Below U.heap.size U w') := fun U hU => (hsj ▸ hmj ▸ (hr.after hN hU).look : Look Nd U U.heap.size pr sj mj).sum hN
    have q5 : wrap64 (si.toInt + 1) = (si + 1#64).toInt := i_add si 1#64
    have q6 : wrap64 ((si + 1#64).toInt + sj.toInt) = (si + 1#64 + sj).toInt := i_add _ _
    have q7 : wrap64 (mi.toInt + x.toInt) = (mi + x).toInt := i_add _ _
    have q8 : wrap64 ((mi + x).toInt + mj.toInt) = (mi + x + mj).toInt := i_add _ _
    obtain ⟨s2, hs2⟩ : ∃ b, si + 1#64 + sj = b := ⟨_, rfl⟩
    obtain ⟨s1, hs1⟩ : ∃ b, si + 1#64 = b := ⟨_, rfl⟩
    obtain ⟨m2, hm2⟩ : ∃ b, mi + x + mj = b := ⟨_, rfl⟩
    obtain ⟨m1, hm1⟩ : ∃ b, mi + x = b := ⟨_, rfl⟩
    rw [hs2] at cS q6
    rw [hs1] at q5 q6
    rw [hm2] at cM q8
    rw [hm1] at q7 q8
    clear hs1 hs2 hm1 hm2
    have b0 := Lib.hid (Below.refl w.heap.size w)
    clear ll lr hnd hl hr e0 hsi hsj hmi hmj hN
    go_enter Tryd.func29, Tryd.ntmps29
    go_wp2_with fail
    refine (cL.out w b0.out).mono ?_
    rintro e w' ⟨rfl, rfl⟩
    go_wp2_with fail
    refine (cR.out w b0.out).mono ?_
    rintro e w' ⟨rfl, rfl⟩
    go_wp2_with fail
    refine (cS.out w b0.out).mono ?_
    rintro e w' ⟨rfl, rfl⟩
    go_wp2_with fail
    refine (lS.out w b0.out).mono ?_
    rintro e w1 ⟨rfl, hb⟩
    have b1 := Lib.hid (Below.after b0.out hb)
    clear hb b0
    go_wp2_with fail
    refine (rS.out w1 b1.out).mono ?_
    rintro e w2 ⟨rfl, hb⟩
    have b2 := Lib.hid (Below.after b1.out hb)
    clear hb b1
    go_wp2_with fail
    refine (cM.out w2 b2.out).mono ?_
    rintro e w' ⟨rfl, rfl⟩
    go_wp2_with fail
    refine (lM.out w2 b2.out).mono ?_
    rintro e w3 ⟨rfl, hb⟩
    have b3 := Lib.hid (Below.after b2.out hb)
    clear hb b2
    go_wp2_with fail
    refine (cV.out w3 b3.out).mono ?_
    rintro e w' ⟨rfl, rfl⟩
    go_wp2_with fail
    refine (rM.out w3 b3.out).mono ?_
    rintro e w4 ⟨rfl, hb⟩
    have b4 := Lib.hid (Below.after b3.out hb)
    clear hb b3
    go_wp2_with fail
    go_ret
    exact ⟨rfl, b4.out⟩
end Go.Proofs.YtfndaeocdgcaeaaDoor
/- Layer 12, as landed: what goes over a tree's nodes, each once, with a set of those that it has been at. -/
namespace Go.Proofs.YtfndaeocdgcaeaaDoor
open Go.RowKit Go.Shelf Go.Proofs.Treem
attribute [local go_sem] Oper.semAt_some
set_option maxRecDepth 100000
variable {Nd : NdP}

def mineN (t : TypeId) : Bool := t == 25
abbrev none12 (_ : TypeId) : Bool := false
def loadN (us : List (Tr × Option Addr)) : Nat := (us.map fun u => 2 * u.1.size + 1).sum
def ptrsN (us : List (Tr × Option Addr)) : List Value := us.map fun u => .pointer u.2
theorem loadN_len : ∀ us : List (Tr × Option Addr), us.length ≤ loadN us
  | [] => Nat.le_refl _
  | u :: us => by have := loadN_len us; simp only [loadN, List.map_cons, List.sum_cons, List.length_cons] at this ⊢; omega
theorem loadN_cons (u : Tr × Option Addr) (us : List (Tr × Option Addr)) : loadN (u :: us) = 2 * u.1.size + 1 + loadN us := rfl
/-- where the closure stands: those at us are still to be gone by, the last one first -/
structure AtN (Nd : NdP) (w0 : World) (r B' : Nat) (J : List Value → World → Prop) (S : List (Option Addr)) (us : List (Tr × Option Addr)) (pre : List Value) (v : Value) (w : World) : Prop where
  base : Below w0.heap.size w0 w
  been : w.heap[r]? = some (setO S)
  none : Option.none ∈ S
  good : ∀ q ∈ S, GoodP w0 q
  ow : w.ownsRow B' 25 1 v us.length (ptrsN us.reverse)
  ls : ∀ u ∈ us, TreeAt Nd w0 w0.heap.size u.1 u.2
  j : J pre w
  ld : loadN us ≤ 10001
  sz : B' ≤ w.heap.size
  low : w0.heap.size ≤ B'
  rb : B' ≤ r
/-- what is told of a node that is handed over -/
def ToldN (Nd : NdP) (w0 : World) (_ : List Value) (y : Value) (W : World) : Prop := ∃ (t : Tr) (a : Addr), y = .pointer (some a) ∧ TreeAt Nd w0 w0.heap.size t (some a) ∧ Below w0.heap.size w0 W
section
variable {w0 : World} {r B' : Nat} {J : List Value → World → Prop} {S : List (Option Addr)} {us : List (Tr × Option Addr)} {pre : List Value} {v : Value} {w w' : World}
theorem setO_walk (S : List (Option Addr)) : (setO S).isCells = false := rfl
theorem AtN.below (h : AtN Nd w0 r B' J S us pre v w) (hJ : Abide mineN B' J) (hb : Below w.heap.size w w') : AtN Nd w0 r B' J S us pre v w' :=
  ⟨h.base.trans (hb.mono h.base.size), (hb.block r (Array.getElem?_eq_some_iff.1 h.been).1).trans h.been, h.none, h.good, owned_next h.ow hb, h.ls, hJ _ _ _ h.j (.of_below hb), h.ld, Nat.le_trans h.sz hb.size, h.low, h.rb⟩
theorem AtN.goods (h : AtN Nd w0 r B' J S us pre v w) : ∀ q ∈ S, GoodP w q := fun q hq => (h.good q hq).below h.base
/-- the last one is taken off -/
theorem AtN.pop {u : Tr × Option Addr} {A : Option Addr} {m n c : Nat} (h : AtN Nd w0 r B' J S (u :: us) pre (.slice A n c) w) (hm : us.length = m) (hn : m + 1 = n) : AtN Nd w0 r B' J S us pre (.slice A m c) w := by
  subst hm hn
  have ho := h.ow
  rw [List.reverse_cons, ptrsN, List.map_append] at ho
  have ht := owned_take ho us.length (by simp)
  rw [show us.length * 1 = (us.reverse.map fun u => Value.pointer u.2).length by simp, List.take_left] at ht
  exact ⟨h.base, h.been, h.none, h.good, ht, fun x hx => h.ls x (List.mem_cons_of_mem _ hx), h.j, by have := h.ld; rw [loadN_cons] at this; omega, h.sz, h.low, h.rb⟩
/-- the last one, as it lies -/
theorem AtN.top {u : Tr × Option Addr} {A : Option Addr} {n m c : Nat} (h : AtN Nd w0 r B' J S (u :: us) pre (.slice A n c) w) (hm : us.length = m) : ∃ ad, A = some ad ∧ w.cell? (ad.add m) = some (.pointer u.2) := by
  obtain ⟨A', c', e1, -, -, -⟩ := own_slice h.ow
  cases e1
  have ho := h.ow
  rw [List.reverse_cons, ptrsN, List.map_append] at ho
  obtain ⟨ad, e, _, hc⟩ := (Row.of_own ho) m (.pointer u.2) (by rw [List.getElem?_append_right (by simp [hm])]; simp [hm])
  exact ⟨ad, e, hc⟩
/-- a node is put into the set -/
theorem AtN.put {p : Option Addr} (h : AtN Nd w0 r B' J S us pre v w) (hJ : Abide mineN B' J) (hp : GoodP w0 p) : AtN Nd w0 r B' J (S ++ [p]) us pre v (w.putObj r (setO (S ++ [p]))) := by
  have hk : Kf mineN B' w (w.putObj r (setO (S ++ [p]))) := Kf.putObj w r _ _ h.rb h.been rfl
  refine ⟨h.base.trans (hk.below.mono h.low), World.putObj_heap_same (Array.getElem?_eq_some_iff.1 h.been).1, List.mem_append_left _ h.none, fun q hq => ?_, h.ow.kept (grownBy_putObj' w r _) ?_, h.ls, hJ _ _ _ h.j (.of_kf hk), h.ld, Nat.le_trans h.sz hk.size, h.low, h.rb⟩
  · rcases List.mem_append.1 hq with hq | hq
    · exact h.good q hq
    · rw [List.mem_singleton.1 hq]; exact hp
  · by_cases hv : v.ownBlock = some r
    · exfalso
      rcases h.ow.2 with ⟨rfl, _⟩ | ⟨g, cap, cur, rfl, _, hg, _⟩
      · simp [Value.ownBlock] at hv
      · obtain rfl : g = r := by simpa [Value.ownBlock] using hv
        rw [h.been] at hg
        cases hg
    · exact .inr hv
/-- a node has been told -/
theorem AtN.yielded {y : Value} (h : AtN Nd w0 r B' J S us pre v w) (hj : J (pre ++ [y]) w') (hk : Kf none12 w0.heap.size w w') (hf : KeepsFrom B' w w') : AtN Nd w0 r B' J S us (pre ++ [y]) v w' :=
  ⟨h.base.trans hk.below, hf.same r _ h.rb h.been rfl, h.none, h.good, hk.owned h.ow rfl, h.ls, hj, h.ld, Nat.le_trans h.sz hk.size, h.low, h.rb⟩
/-- both sides of a node are put on the row -/
theorem AtN.push {tl tr : Tr} {pl pr : Option Addr} {tmp : Obj} {v1 : Value} {w1 : World} (h : AtN Nd w0 r B' J S us pre v w) (hJ : Abide mineN B' J) (hl : TreeAt Nd w0 w0.heap.size tl pl) (hr : TreeAt Nd w0 w0.heap.size tr pr) (hd : loadN us + (2 * tl.size + 1) + (2 * tr.size + 1) ≤ 10001)
    (ho : w1.ownsRow B' 25 1 v1 (us.length + 2) (ptrsN us.reverse ++ [.pointer pr, .pointer pl])) (hg : (w.alloc tmp).grownBy w1 v.ownBlock) : AtN Nd w0 r B' J S ((tl, pl) :: (tr, pr) :: us) pre v1 w1 := by
  have h1 := h.below hJ ((Below.refl w.heap.size w).alloc (Nat.le_refl _) tmp)
  have hk : Kf mineN B' (w.alloc tmp) w1 := Kf.grown hg h1.ow rfl (Nat.le_refl _) h1.sz
  refine ⟨h1.base.trans (hk.below.mono h.low), ?_, h.none, h.good, ?_, ?_, hJ _ _ _ h1.j (.of_kf hk), by rw [loadN_cons, loadN_cons]; show 2 * tl.size + 1 + (2 * tr.size + 1 + loadN us) ≤ _; omega, Nat.le_trans h1.sz hk.size, h.low, h.rb⟩
  · refine (hg.block r (Array.getElem?_eq_some_iff.1 h1.been).1 (fun e => ?_)).trans h1.been
    rcases h.ow.2 with ⟨rfl, _⟩ | ⟨g, cap, cur, rfl, _, hg', _⟩
    · simp [Value.ownBlock] at e
    · obtain rfl : r = g := by simpa [Value.ownBlock] using e
      rw [h.been] at hg'
      cases hg'
  · simp only [List.reverse_cons, ptrsN, List.map_append, List.length_cons, List.append_assoc, List.map_cons, List.map_nil] at ho ⊢
    exact ho
  · intro u hu
    rcases List.mem_cons.1 hu with rfl | hu
    · exact hl
    · rcases List.mem_cons.1 hu with rfl | hu
      · exact hr
      · exact h.ls u hu
end
theorem GoodP.of_tree (hN : NodeSays Nd) {w : World} {t : Tr} {p : Option Addr} (h : TreeAt Nd w w.heap.size t p) : GoodP w p := fun a e => by
  subst e
  cases t with
  | e => cases h
  | n l k v g r =>
    obtain ⟨a', pl, pr, ha, hnd, -, -⟩ := h
    cases ha
    exact hN.lies hnd
theorem info_ptr12 : (Tryd.prog.info? 25).map (fun i => (i.zero, i.size, i.bytes)) = some (some (.pointer none), 1, 8) := by kernel_rfl
theorem size_ptr12 (W : World) : (sizeOf 25).run Tryd.prog W = .ok 1 W := by kernel_rfl
theorem zero_bool12 (W : World) : (zeroValue 4).run Tryd.prog W = .ok (.bool false) W := by kernel_rfl
theorem look12 (W : World) (r : Nat) (S : List (Option Addr)) (hr : W.heap[r]? = some (setO S)) (hg : ∀ q ∈ S, GoodP W q) (p : Option Addr) (h : GoodP W p) (B : Bool) (hB : decide (p ∈ S) = B) :
    (Instr.lookup 90 (.map (some r)) (.pointer p) false).run Tryd.prog W = .ok (.bool B) W := by
  obtain ⟨j, hj, hs⟩ := node_info
  exact look_ptr W Tryd.underlying90 Tryd.underlying25 hj hs (zero_bool12 W) r S hr hg p h B hB
theorem put12 (W : World) (r : Nat) (S : List (Option Addr)) (hr : W.heap[r]? = some (setO S)) (hg : ∀ q ∈ S, GoodP W q) (p : Option Addr) (h : GoodP W p) (hx : p ∉ S) :
    (Instr.mapUpdate 90 (.map (some r)) (.pointer p) (.bool true)).run Tryd.prog W = .ok () (W.putObj r (setO (S ++ [p]))) := by
  obtain ⟨j, hj, hs⟩ := node_info
  exact put_ptr W Tryd.underlying90 Tryd.underlying25 hj hs r S hr hg p h hx
end Go.Proofs.YtfndaeocdgcaeaaDoor
namespace Go.Proofs.YtfndaeocdgcaeaaDoor
open Go.RowKit Go.Shelf Go.Proofs.Treem
attribute [local go_sem] Oper.semAt_some
set_option maxRecDepth 100000
variable {Nd : NdP}

set_option maxHeartbeats 8000000 in
theorem nodes_turns (hN : NodeSays Nd) (w0 : World) (t : Tr) (p : Option Addr) (ht : TreeAt Nd w0 w0.heap.size t p) (h5 : t.size ≤ 5000) (gT : Nat) (w : World) (hb0 : Below w0.heap.size w0 w) (hP : Boxed w gT 25 (.pointer p)) (n : Nat) :
    SeqTurns mineN Fence.wide n Tryd.prog 47 #[.pointer (some ⟨gT, 0, none⟩)] (fun y => #[y]) (Kf none12 w0.heap.size) (ToldN Nd w0) (fun _ => True) w := fun l J Jx W hbW hJ hJx hY hJ0 => by
  obtain ⟨i0, hin, hz0, hz1, hz2⟩ := info_parts info_ptr12
  obtain ⟨B', hB'⟩ : ∃ b, W.heap.size = b := ⟨_, rfl⟩
  obtain ⟨r, hr⟩ : ∃ b, W.heap.size = b := ⟨_, rfl⟩
  have bw : Below w0.heap.size w0 W := hb0.trans (hbW.mono hb0.size)
  have xP : W.cell? ⟨gT, 0, none⟩ = some (.pointer p) := keep_cell hbW hP.cell
  have hgT : gT < W.heap.size := Nat.lt_of_lt_of_le hP.lt hbW.size
  have gnone : ∀ V, GoodP V none := fun V a e => by cases e
  obtain ⟨W1, hW1⟩ : ∃ W1, (W.alloc (.map #[] 0)).putObj r (setO [none]) = W1 := ⟨_, rfl⟩
  have hm0 : (W.alloc (.map #[] 0)).heap[r]? = some (setO []) := hr ▸ World.alloc_heap_new W _
  have hput : (Instr.mapUpdate 90 (.map (some W.heap.size)) (.pointer none) (.bool true)).run Tryd.prog (W.alloc (.map #[] 0)) = .ok () W1 := by
    rw [hr, ← hW1]
    exact put12 _ r [] hm0 (fun q hq => by cases hq) none (gnone _) (by simp)
  have hmm := @run_makeMap Tryd.prog
  have ha : Below W.heap.size W (W.alloc (.map #[] 0)) := (Below.refl _ W).alloc (Nat.le_refl _) _
  have b1 : Below W.heap.size W W1 := by
    have hk : Kf (fun _ => false) r (W.alloc (.map #[] 0)) ((W.alloc (.map #[] 0)).putObj r (setO [none])) := Kf.putObj _ r _ _ (Nat.le_refl _) hm0 rfl
    rw [hW1] at hk
    exact ha.trans (hr ▸ hk.below)
  have been1 : W1.heap[r]? = some (setO [none]) := hW1 ▸ World.putObj_heap_same (Array.getElem?_eq_some_iff.1 hm0).1
  have xP1 : W1.cell? ⟨gT, 0, none⟩ = some (.pointer p) := keep_cell b1 xP
  obtain ⟨W2, hW2⟩ : ∃ W2, W1.alloc (.cells #[.pointer p] 25) = W2 := ⟨_, rfl⟩
  obtain ⟨gO, hgO⟩ : ∃ g, W1.heap.size = g := ⟨_, rfl⟩
  have b2 : Below W1.heap.size W1 W2 := hW2 ▸ (Below.refl _ W1).alloc (Nat.le_refl _) _
  have ow2 : W2.ownsRow B' 25 1 (.slice (some ⟨gO, 0, none⟩) 1 1) 1 [.pointer p] := hgO ▸ hW2 ▸ World.ownsRow_lit W1 #[.pointer p] 1 (hB' ▸ b1.size) (by decide) rfl
  rw [hB'] at hJ hJx hY
  have h1 : AtN Nd w0 r B' J [none] [(t, p)] [] (.slice (some ⟨gO, 0, none⟩) 1 1) W2 :=
    ⟨bw.trans ((Below.after b1 b2).mono bw.size), (b2.block r (Array.getElem?_eq_some_iff.1 been1).1).trans been1, List.mem_singleton.2 rfl, (fun q hq => by rw [List.mem_singleton.1 hq]; exact gnone _), ow2, (fun u hu => by rw [List.mem_singleton.1 hu]; exact ht), hJ _ _ _ hJ0 (.of_below (Below.after b1 b2)), by show 2 * t.size + 1 + 0 ≤ _; omega, hB' ▸ (Below.after b1 b2).size, hB' ▸ bw.size, by omega⟩
  have H1 := Lib.hid h1
  obtain ⟨mu, hmu⟩ := least_of (α := Value × World) (fun m q => ∃ (S : List (Option Addr)) (us : List (Tr × Option Addr)) (pre : List Value), m = loadN us ∧ AtN Nd w0 r B' J S us pre q.1 q.2)
  have hmu' := Lib.hid hmu
  have HW1 := Lib.hid hW1
  have HW2 := Lib.hid hW2
  have HR := Lib.hid hr
  have HO := Lib.hid hgO
  have hN' := Lib.hid hN
  have hJ' := Lib.hid hJ
  have hY' := Lib.hid hY
  clear hmu hW1 hW2 hr hgO hN hJ hJx hY h1 bw b1 b2 ow2 been1 ha hm0 hJ0 hB' ht h5 hb0 hP hbW gnone hgT
  refine callsIn_of_wp Tryd.func47 rfl trivial ?_ rfl
  simp only [Tryd.ntmps47, List.size_toArray, List.length_cons, List.length_nil, Nat.reduceAdd, Nat.reduceSub, Array.replicate_succ, Array.replicate_zero, List.push_toArray, List.append_toArray, List.nil_append, List.cons_append]
  refine wpIn_wide.2 ?_
  go_upto_region 1 with (fail)
  clear hput hmm xP
  rw [HR.out]
  go_wp2_with fail
  rw [HW2.out, HO.out]
  clear xP1
  go_loopw [4] (fun v wr => ∃ (m : Nat) (S : List (Option Addr)) (us : List (Tr × Option Addr)) (pre : List Value), m = loadN us ∧ AtN Nd w0 r B' J S us pre v wr) (fun v wr => mu (v, wr))
  case atStart => exact ⟨_, _, _, _, rfl, H1.out⟩
  case round =>
    clear H1
    obtain ⟨m, hm⟩ := hrel
    obtain ⟨⟨S, us, pre, em, h3⟩, -⟩ := hmu'.out (_, wr) m hm
    simp only at h3
    obtain ⟨A, c, rfl, hcn, -, -⟩ := own_slice h3.ow
    cases us with
    | nil =>
      have H3 := Lib.hid h3
      clear h3 hm em hcn
      go_wp2_with fail
      go_end0
      exact ⟨⟨_, rfl⟩, .inl ⟨pre, trivial, H3.out.j⟩⟩
    | cons u us =>
      obtain ⟨tn, q⟩ := u
      obtain ⟨mm, hmm⟩ : ∃ n, us.length = n := ⟨_, rfl⟩
      obtain ⟨nn, hnn⟩ : ∃ n, mm + 1 = n := ⟨_, rfl⟩
      have hld := h3.ld
      have hfew := loadN_len us
      rw [hmm] at hfew
      rw [loadN_cons] at hld em
      simp only at hld em
      have d5 : mm ≤ 10001 := by omega
      obtain ⟨ad, rfl, g0⟩ := h3.top hmm
      have htn : TreeAt Nd w0 w0.heap.size tn q := h3.ls _ (List.mem_cons_self ..)
      have gq0 : GoodP w0 q := GoodP.of_tree hN'.out htn
      have gq : GoodP wr q := gq0.below h3.base
      rw [List.length_cons, hmm, hnn] at h3 hcn em ⊢
      have e1 : wrap64 ((nn : Int) - 1) = (mm : Int) := by unfold wrap64; omega
      have d1 : decide ((0 : Int) < (nn : Int)) = true := decide_eq_true (by omega)
      have d2 : 0 < nn := by omega
      have hix : mm < nn := by omega
      have ct : ∀ W, (Instr.slice 91 (.slice (some ad) nn c) none (some (.int .i64 (mm : Int))) none).run Tryd.prog W = .ok (.slice (some ad) mm c) W := cut_to Tryd.underlying91 size_ptr12 (some ad) nn c mm _ rfl (by omega)
      have hnS : none ∈ S := h3.none
      obtain ⟨B, hB⟩ : ∃ b, decide (q ∈ S) = b := ⟨_, rfl⟩
      have lk := look12 wr r S h3.been h3.goods q gq B hB
      have H4 := Lib.hid (h3.pop hmm hnn)
      have hnn' := Lib.hid hnn
      have hmm' := Lib.hid hmm
      have em' := Lib.hid em
      have htn' := Lib.hid htn
      have hld' := Lib.hid hld
      have hB' := Lib.hid hB
      have gq' := Lib.hid gq
      have gq0' := Lib.hid gq0
      have hnS' := Lib.hid hnS
      clear h3 hm em hcn hnn hmm htn hld hfew hB gq gq0 hnS
      cases B with
      | true =>
        have hm := Lib.hid (hmu'.out (.slice (some ad) mm c, wr) _ ⟨_, _, _, rfl, H4.out⟩)
        go_wp2_with fail
        go_roundw
        case rel => exact ⟨_, (hm.out).1⟩
        case measure =>
          have h1 := hm.out.2
          have h2 := em'.out
          omega
      | false =>
        have hq : q ∉ S := of_decide_eq_false hB'.out
        have hp := put12 wr r S H4.out.been H4.out.goods q gq'.out hq
        have H5 := Lib.hid (H4.out.put (p := q) hJ'.out gq0'.out)
        obtain ⟨wb, hwb⟩ : ∃ wb, wr.putObj r (setO (S ++ [q])) = wb := ⟨_, rfl⟩
        rw [hwb] at hp H5
        clear hwb H4
        cases tn with
        | e =>
          obtain rfl : q = none := htn'.out
          exact absurd hnS'.out hq
        | n tl k x g tr =>
          obtain ⟨a, pl, pr, rfl, hnd, hl, hr⟩ := htn'.out
          have hTold : ToldN Nd w0 pre (.pointer (some a)) wb := ⟨.n tl k x g tr, a, rfl, ⟨a, pl, pr, rfl, hnd, hl, hr⟩, H5.out.base⟩
          obtain ⟨fnY, tmY, asY, bdY, hyv, hR⟩ := round_any (m' := 0) (hY'.out pre _ wb H5.out.j hTold)
          have hR' := Lib.hid hR
          have hnd' := Lib.hid hnd
          have hl' := Lib.hid hl
          have hr' := Lib.hid hr
          have hsz : Hid (Tr.size (.n tl k x g tr) = 1 + tl.size + tr.size) := rfl
          rw [hsz.out] at em' hld'
          clear hR hTold hnd hl hr hsz hq
          go_upto_region 8 with (fail)
          refine (wpIn_wide (n := 0)).1 ?_
          gi_wp2
          refine ⟨rfl, ?_⟩
          refine hR'.out.mono ?_
          clear hR' hyv hp lk g0
          rintro e wy ⟨⟨rfl, hj, hk⟩ | ⟨rfl, hx⟩, hf⟩
          · have HY := Lib.hid (H5.out.yielded hj hk hf)
            have bY := HY.out.base
            have cR : Hid (Calls Tryd.prog 17 #[.pointer (some a)] wy fun e w' => e = .returned (.pointer pr) ∧ wy = w') := hN'.out.right wy w0.heap.size a _ (hN'.out.next hnd'.out bY)
            have cL : Hid (Calls Tryd.prog 16 #[.pointer (some a)] wy fun e w' => e = .returned (.pointer pl) ∧ wy = w') := hN'.out.left wy w0.heap.size a _ (hN'.out.next hnd'.out bY)
            have hsl : wy.ownsRow B' 25 1 (.slice (some ad) mm c) mm (ptrsN us.reverse) := hmm'.out ▸ HY.out.ow
            have hby : B' ≤ wy.heap.size := HY.out.sz
            clear hj hk hf bY
            gi_wp2
            go_wp2_with fail
            refine cR.out.mono ?_
            rintro e w' ⟨rfl, rfl⟩
            go_wp2_with fail
            refine cL.out.mono ?_
            rintro e w' ⟨rfl, rfl⟩
            go_wp2_with (
              (at_builtin
               refine wpList_append_own _ rfl _ _ 91 rfl B' 25 i0 (.pointer none) 1 8 Tryd.underlying91 hin hz0 hz1 hz2 rfl (by decide) (.slice (some ad) mm c) mm (ptrsN us.reverse) rfl (hsl.alloc _) ⟨wy.heap.size, 0, none⟩ 2 2 [.pointer pr, .pointer pl] rfl rfl (fun j u hu => ((Has.new wy 25 #[.pointer pr, .pointer pl]).row.at_ hu).2) (by simp [Value.oneCell']) (by unfold maxLen; omega) (by omega) (by simp; omega) ?_
               intro v2 w4 hown' hgrow _
               obtain ⟨g', cap', rfl⟩ := ownsRow_succ hown'
               have H9 := Lib.hid (HY.out.push (tl := tl) (tr := tr) (pl := pl) (pr := pr) hJ'.out hl'.out hr'.out (by have := hld'.out; omega) (by rw [hmm'.out]; exact hown') hgrow)
               have hm := Lib.hid (hmu'.out (_, w4) _ ⟨_, _, _, rfl, H9.out⟩)))
            go_roundw
            case rel => exact ⟨_, (hm.out).1⟩
            case measure =>
              have h1 := hm.out.2
              have h2 := em'.out
              rw [loadN_cons, loadN_cons] at h1
              simp only at h1
              omega
          · have hx' := Lib.hid hx
            clear hx
            gi_wp2
            go_wp2_with fail
            exact bodyPost_ret (results_none rfl _ _ _) rfl ⟨⟨_, rfl⟩, .inr ⟨_, hx'.out⟩⟩
set_option maxHeartbeats 1000000 in
theorem nodes12_any (p : Option Addr) (w : World) : Calls Tryd.prog 28 #[.pointer p] w fun e w' =>
    e = .returned (.func (.func 47) #[] #[.pointer (some ⟨w.heap.size, 0, none⟩)]) ∧ w.alloc (.cells #[.pointer p] 25) = w' := by
  go_enter Tryd.func28, Tryd.ntmps28
  go_wp2
  go_ret
  exact ⟨rfl, rfl⟩
theorem results_one {P : Program} {fn : Func} {p : Tmp} {t : TypeId} (h : fn.results = #[.cell p t]) (tmps : Array Value) (w : World) (gp : Nat) (x : Value)
    (hp : tmps.getD p undef = .pointer (some ⟨gp, 0, none⟩)) (lp : (loadVar t ⟨gp, 0, none⟩).run P w = .ok x w) : (results fn tmps).run P w = .ok x w := by
  have hp' : tmps[p]?.getD undef = .pointer (some ⟨gp, 0, none⟩) := by simpa using hp
  simp [results, h, hp', asAddr, lp]
theorem load_bool12 (w : World) (a : Addr) (x : Value) (h : w.cell? a = some x) : (loadVar 4 a).run Tryd.prog w = .ok x w := by
  simp [loadVar, h]
theorem keeps_belowE {W W' : World} (h : Below W.heap.size W W') : KeepsOthers W W' := ⟨h.size, fun k _ hk _ => (h.block k (Array.getElem?_eq_some_iff.1 hk).1).trans hk⟩
set_option maxHeartbeats 8000000 in
theorem exactS_any (hN : NodeSays Nd) (w : World) (t : Tr) (p : Option Addr) (ht : TreeAt Nd w w.heap.size t p) (h5 : t.size ≤ 5000) : Calls Tryd.prog 11 #[.pointer p] w fun e w' => e = .returned (.bool true) ∧ Below w.heap.size w w' := by
  obtain ⟨gX, hgX⟩ : ∃ g, w.heap.size = g := ⟨_, rfl⟩
  obtain ⟨Wa, hWa⟩ : ∃ W, w.alloc (.cells #[.bool false] 4) = W := ⟨_, rfl⟩
  have bX : Boxed Wa gX 4 (.bool false) := hgX ▸ hWa ▸ Boxed.new w _ _
  have ba : Below w.heap.size w Wa := hWa ▸ (Below.refl _ w).alloc (Nat.le_refl _) _
  have cS : Hid (∀ (gT : Nat) (W : World), Below w.heap.size w W → Boxed W gT 25 (.pointer p) → ∀ n, SeqTurns mineN Fence.wide n Tryd.prog 47 #[.pointer (some ⟨gT, 0, none⟩)] (fun y => #[y]) (Kf none12 w.heap.size) (ToldN Nd w) (fun _ => True) W) :=
    fun gT W hb h2 n => nodes_turns hN w t p ht h5 gT W hb h2 n
  have HWa := Lib.hid hWa
  have HX := Lib.hid hgX
  have ba' := Lib.hid ba
  have bX' := Lib.hid bX
  have hN' := Lib.hid hN
  clear hWa hgX ba bX hN ht h5
  refine (callsIn_wide (n := 9)).1 ?_
  refine callsIn_of_wp_marks Tryd.func11 rfl trivial ?_ rfl
  simp only [Tryd.ntmps11, List.size_toArray, List.length_cons, List.length_nil, Nat.reduceAdd, Nat.reduceSub, Array.replicate_succ, Array.replicate_zero, List.push_toArray, List.append_toArray, List.nil_append, List.cons_append]
  refine wpIn_wide.2 ?_
  go_upto_region 1 with (fail)
  rw [HWa.out, HX.out]
  go_wp2_with fail
  refine (nodes12_any p Wa).mono ?_
  rintro e W3 ⟨rfl, hW3⟩
  obtain ⟨gT, hgT⟩ : ∃ g, Wa.heap.size = g := ⟨_, rfl⟩
  rw [hgT]
  have bN : Below Wa.heap.size Wa W3 := hW3 ▸ (Below.refl _ Wa).alloc (Nat.le_refl _) _
  have bT : Boxed W3 gT 25 (.pointer p) := hgT ▸ hW3 ▸ Boxed.new Wa _ _
  have x3 : Boxed W3 gX 4 (.bool false) := Has.next (show Has _ _ _ _ from bX'.out) bN
  have hB3 : Below w.heap.size w W3 := Below.after ba'.out bN
  have hseq := cS.out gT W3 hB3 bT
  clear hW3 hgT bN bT bX' cS
  go_wp2_with fail
  refine (wpIn_wide (n := 9)).1 ?_
  refine wpIn_rangeFunc_turns (α := Value) rfl (by omega) (gf := 47) (lb := #[.pointer (some ⟨gT, 0, none⟩)]) rfl trivial (enters_of Tryd.func47 (by kernel_rfl) rfl)
    (hseq _) Kf.trans (Kf.put hB3.size) (Below.refl _ _) (fun _ => rfl)
    (fun _ W => Boxed W gX 4 (.bool false) ∧ Below w.heap.size w W)
    (fun _ _ _ => False)
    (Abide.and (Abide.boxed _ _ _ (.inl rfl)) (Abide.below hB3.size (Nat.le_refl _)))
    (fun _ _ _ _ hs _ => hs)
    ⟨x3, hB3⟩
    (fun _ y a' W => ∃ t' a, y = .pointer (some a) ∧ TreeAt Nd w w.heap.size t' (some a) ∧ a' = { tmps := #[.pointer p, undef, .pointer (some ⟨gX, 0, none⟩), .pointer (some a), .pointer p, .func (.func 47) #[] #[.pointer (some ⟨gT, 0, none⟩)], .pointer (some a), undef, undef, undef], defers := [] })
    (fun pre y a' _ X Y row hs hg hr => hs)
    ?assign ?body ?done ?stop
  case assign =>
    rintro L pre y U KK hI ⟨t', a, rfl, ht, hb⟩ hK
    have hK2 := Lib.hid (hK { tmps := #[.pointer p, undef, .pointer (some ⟨gX, 0, none⟩), .pointer (some a), .pointer p, .func (.func 47) #[] #[.pointer (some ⟨gT, 0, none⟩)], .pointer (some a), undef, undef, undef], defers := [] } U ((KeepsOthers.refl _).from _) (Kf.refl _ _ U) hI ⟨t', a, rfl, ht, rfl⟩)
    clear hK hI ht hb
    gi_wp2
    exact hK2.out
  case body =>
    rintro L pre y a' U hL _ ⟨bX, hb⟩ ⟨t', a, rfl, ht, rfl⟩
    have cT := Lib.hid (tells_any hN'.out t' a U (ht.after hN'.out hb))
    have bX' := Lib.hid bX
    have hb' := Lib.hid hb
    clear bX hb ht
    gi_wp2
    refine ⟨trivial, ?_⟩
    refine CallsIn.inRound L (callsIn_wide.2 (cT.out.mono ?_))
    rintro e U1 ⟨rfl, hb1⟩
    have kU := Lib.hid (keeps_belowE hb1)
    have hU1 := Lib.hid (Below.after hb'.out hb1)
    have fU := Lib.hid (Kf.of_below (free := none12) hb1 hb'.out.size)
    have x1 := Lib.hid (Has.next (show Has _ _ _ _ from bX'.out) hb1)
    clear hb1 cT
    gi_wp2
    exact ⟨kU.out.from _, fU.out, x1.out, hU1.out⟩
  case done =>
    rintro D xs U hD - ⟨bX, hb⟩ hK
    have xX := bX.cell
    have fX := bX.frozen
    have hX2 : Has (U.setCell ⟨gX, 0, none⟩ (.bool true)) gX 4 #[.bool true] := bX.set _
    have hb2 : Below w.heap.size w (U.setCell ⟨gX, 0, none⟩ (.bool true)) := hb.setCell (p := ⟨gX, 0, none⟩) (by have := HX.out; show w.heap.size ≤ gX; omega) _
    have hK2 : (U.setCell ⟨gX, 0, none⟩ (.bool true)).heap[D]? = some (.deferred (some [])) := (Below.heap_setCell _ _ _ D (fun e => by
      have e : D = gX := e
      subst e
      rw [show U.heap[D]? = _ from bX] at hK
      cases hK)).trans hK
    have hX3 : Has ((U.setCell ⟨gX, 0, none⟩ (.bool true)).putObj D (.deferred none)) gX 4 #[.bool true] := has_turned (B := 0) hX2 (grownBy_putObj' _ D _) (fun r e => by cases e; exact ⟨Nat.zero_le _, _, hK2, rfl⟩)
    go_wp2_with fail
    refine ⟨by simp, .inl ⟨_, _, rfl, run_takeDeferred hK2, ?_⟩⟩
    exact ⟨_, results_one rfl _ _ gX _ rfl (load_bool12 _ _ _ (hX3.cell 0)), rfl, hb2.trans (belowK_b (w := w) (Nat.le_refl _) _ D _ _ (by have := hB3.size; omega) hK2 rfl rfl)⟩
  case stop =>
    rintro D c pre U _ h _
    exact h.elim
end Go.Proofs.YtfndaeocdgcaeaaDoor
