/- A set of pointers that a call makes (map[*T]bool): its entries, look-up, a new one put in. No program. -/
import Derived.LaidEqlPtr
import Derived.WideMake
import Derived.MapKept
import Derived.Laws.EntriesVeiled
import Derived.RangeFuncRecord
import Derived.Test.YtcnkgddldhkddaaDoorGTurns
namespace Go.Proofs.YtcnkgddldhkddaaDoor
open Go Go.RowKit

/-- a pointer to what is cells, or none -/
def GoodP (W : World) (p : Option Addr) : Prop := ∀ a, p = some a → ∃ cs t, W.heap[a.block]? = some (.cells cs t (0, 0))
theorem GoodP.below {W W' : World} {p : Option Addr} (h : GoodP W p) (hb : Below W.heap.size W W') : GoodP W' p := fun a e => by
  obtain ⟨cs, t, hc⟩ := h a e
  exact ⟨cs, t, (hb.block _ (Array.getElem?_eq_some_iff.1 hc).1).trans hc⟩
/-- the entries of a set, in the order in which they came -/
def ents : List (Option Addr) → Nat → List MapEntry
  | [], _ => []
  | p :: S, i => ⟨.pointer p, .bool true, i⟩ :: ents S (i + 1)
def setO (S : List (Option Addr)) : Obj := .map (ents S 0).toArray S.length
theorem ents_snoc (p : Option Addr) : ∀ (S : List (Option Addr)) (i : Nat), ents (S ++ [p]) i = ents S i ++ [⟨.pointer p, .bool true, i + S.length⟩]
  | [], i => rfl
  | q :: S, i => by simp [ents, ents_snoc p S (i + 1), Nat.add_assoc, Nat.add_comm 1]
section
variable {P : Program} {tm tp te tb : TypeId} {j : TypeInfo}
theorem equal_ptr (W : World) (hp : P.underlying tp = some (.pointer te)) (hte : P.info? te = some j) (hsz : j.size ≠ 0) (p q : Option Addr) (h : GoodP W p) (k : GoodP W q) : (Op.equal tp (.pointer p) (.pointer q)).run P W = .ok (decide (p = q)) W := by
  have e : ∀ d : Nat, (Op.equalIn (d + 1) tp (.pointer p) (.pointer q)).run P W = .ok (decide (p = q)) W := fun d => by
    cases p with
    | none => cases q <;> simp [Op.equalIn, run_underlying hp]
    | some a =>
      cases q with
      | none => simp [Op.equalIn, run_underlying hp]
      | some b =>
        by_cases hab : a = b
        · subst hab
          simp [Op.equalIn, run_underlying hp, sizeOf, typeInfo, hte, run_sameAddr_same]
        · obtain ⟨ca, ta, ha⟩ := h a rfl
          obtain ⟨cb, tb, hb⟩ := k b rfl
          simp [Op.equalIn, run_underlying hp, sizeOf, typeInfo, hte, hsz, run_sameAddr_other W hab ha hb, hab]
  simp only [Op.equal, Op.maxDepth, e 9999]
theorem find_yes (W : World) (hp : P.underlying tp = some (.pointer te)) (hte : P.info? te = some j) (hsz : j.size ≠ 0) (p : Option Addr) (h : GoodP W p) : ∀ (S : List (Option Addr)) (b i : Nat), (∀ q ∈ S, GoodP W q) → p ∈ S →
    ∃ n, (Instr.findAsking tp (.pointer p) (ents S b) i).run P W = .ok (some (n, .bool true)) W
  | [], _, _, _, hm => by cases hm
  | q :: S, b, i, hg, hm => by
    have e := equal_ptr W hp hte hsz p q h (hg q (List.mem_cons_self ..))
    by_cases hpq : p = q
    · subst hpq
      exact ⟨i, by simp [ents, Instr.findAsking, e]⟩
    · obtain ⟨n, hn⟩ := find_yes W hp hte hsz p h S (b + 1) (i + 1) (fun x hx => hg x (List.mem_cons_of_mem _ hx)) ((List.mem_cons.1 hm).resolve_left hpq)
      exact ⟨n, by simp [ents, Instr.findAsking, e, hpq, hn]⟩
theorem find_no (W : World) (hp : P.underlying tp = some (.pointer te)) (hte : P.info? te = some j) (hsz : j.size ≠ 0) (p : Option Addr) (h : GoodP W p) : ∀ (S : List (Option Addr)) (b i : Nat), (∀ q ∈ S, GoodP W q) → p ∉ S →
    (Instr.findAsking tp (.pointer p) (ents S b) i).run P W = .ok none W
  | [], _, _, _, _ => by simp [ents, Instr.findAsking]
  | q :: S, b, i, hg, hm => by
    have e := equal_ptr W hp hte hsz p q h (hg q (List.mem_cons_self ..))
    have hpq : p ≠ q := fun e => hm (e ▸ List.mem_cons_self ..)
    have hn := find_no W hp hte hsz p h S (b + 1) (i + 1) (fun x hx => hg x (List.mem_cons_of_mem _ hx)) (fun hx => hm (List.mem_cons_of_mem _ hx))
    simp [ents, Instr.findAsking, e, hpq, hn]
theorem key_yes (W : World) (hp : P.underlying tp = some (.pointer te)) (hte : P.info? te = some j) (hsz : j.size ≠ 0) (p : Option Addr) (h : GoodP W p) (S : List (Option Addr)) (hg : ∀ q ∈ S, GoodP W q) (hm : p ∈ S) :
    ∃ n, (Instr.findKey tp (.pointer p) (ents S 0)).run P W = .ok (some (n, .bool true)) W := by
  obtain ⟨n, hn⟩ := find_yes W hp hte hsz p h S 0 0 hg hm
  cases S with
  | nil => cases hm
  | cons q S => exact ⟨n, by simp [Instr.findKey, run_underlying hp, ents, Instr.findNow, Instr.sameNow]; exact hn⟩
theorem key_no (W : World) (hp : P.underlying tp = some (.pointer te)) (hte : P.info? te = some j) (hsz : j.size ≠ 0) (p : Option Addr) (h : GoodP W p) (S : List (Option Addr)) (hg : ∀ q ∈ S, GoodP W q) (hm : p ∉ S) :
    (Instr.findKey tp (.pointer p) (ents S 0)).run P W = .ok none W := by
  have hn := find_no W hp hte hsz p h S 0 0 hg hm
  cases S with
  | nil => simp [Instr.findKey, run_underlying hp, ents, Instr.findNow]
  | cons q S => simp [Instr.findKey, run_underlying hp, ents, Instr.findNow, Instr.sameNow]; exact hn
theorem check_ptr (W : World) (hp : P.underlying tp = some (.pointer te)) (b : Bool) (p : Option Addr) : (Instr.checkKey b 10000 tp (.pointer p)).run P W = .ok () W := by
  have e : ∀ d : Nat, (Instr.checkKey b (d + 1) tp (.pointer p)).run P W = .ok () W := fun d => by
    unfold Instr.checkKey
    simp [run_underlying hp]
  exact e 9999
/-- whether a pointer is in the set -/
theorem look_ptr (W : World) (hm : P.underlying tm = some (.map tp tb)) (hp : P.underlying tp = some (.pointer te)) (hte : P.info? te = some j) (hsz : j.size ≠ 0) (hz : (zeroValue tb).run P W = .ok (.bool false) W) (r : Nat) (S : List (Option Addr)) (hr : W.heap[r]? = some (setO S))
    (hg : ∀ q ∈ S, GoodP W q) (p : Option Addr) (h : GoodP W p) (B : Bool) (hB : decide (p ∈ S) = B) : (Instr.lookup tm (.map (some r)) (.pointer p) false).run P W = .ok (.bool B) W := by
  have hc := check_ptr W hp (ents S 0).toArray.isEmpty p
  have ho := MapKept.run_getObj_map (P := P) hr
  subst hB
  by_cases hx : p ∈ S
  · obtain ⟨n, hn⟩ := key_yes W hp hte hsz p h S hg hx
    simp [Instr.lookup, run_underlying hm, ho, Result.andThen, hx] at hc ⊢
    simp [hc, hn]
  · have hn := key_no W hp hte hsz p h S hg hx
    simp [Instr.lookup, run_underlying hm, ho, Result.andThen, hx] at hc ⊢
    simp [hc, hn, hz]
/-- a pointer that is not in it is put in -/
theorem put_ptr (W : World) (hm : P.underlying tm = some (.map tp tb)) (hp : P.underlying tp = some (.pointer te)) (hte : P.info? te = some j) (hsz : j.size ≠ 0) (r : Nat) (S : List (Option Addr)) (hr : W.heap[r]? = some (setO S))
    (hg : ∀ q ∈ S, GoodP W q) (p : Option Addr) (h : GoodP W p) (hx : p ∉ S) : (Instr.mapUpdate tm (.map (some r)) (.pointer p) (.bool true)).run P W = .ok () (W.putObj r (setO (S ++ [p]))) := by
  have hc := check_ptr W hp false p
  have ho := MapKept.run_getObj_map (P := P) hr
  have hn := key_no W hp hte hsz p h S hg hx
  have hs := MapKept.run_setObj_map (P := P) (setO (S ++ [p])) hr
  have e : setO (S ++ [p]) = .map ((ents S 0).toArray.push ⟨.pointer p, .bool true, S.length⟩) (S.length + 1) := by simp [setO, ents_snoc]
  rw [e] at hs ⊢
  simp [Instr.mapUpdate, run_underlying hm, ho, Result.andThen, hn, hc]
  simp at hs
  rw [hs]
  rfl
end
end Go.Proofs.YtcnkgddldhkddaaDoor
