/- A set of pointers that a call makes: one that is in it already is put in again: nothing changes; either way, as one law. No program. -/
import Derived.Test.YtfbmpgffekhmhaaGPtrSet
namespace Go.Proofs.Ytfbmpgffekhmhaa
open Go Go.RowKit

/-- a set, and one more, if it isn't in it -/
def insP (S : List (Option Addr)) (p : Option Addr) : List (Option Addr) := if p ∈ S then S else S ++ [p]
theorem insP_in (S : List (Option Addr)) (p : Option Addr) : p ∈ insP S p := by unfold insP; split <;> simp_all
theorem insP_mem (S : List (Option Addr)) (p q : Option Addr) : q ∈ insP S p ↔ q ∈ S ∨ q = p := by
  unfold insP
  split
  · rename_i h
    exact ⟨.inl, fun h' => h'.elim id (fun e => e ▸ h)⟩
  · simp
theorem insP_nodup {S : List (Option Addr)} (h : S.Nodup) (p : Option Addr) : (insP S p).Nodup := by
  unfold insP
  split
  · exact h
  · rename_i hp
    rw [List.nodup_append]
    refine ⟨h, by simp, fun x hx y hy e => ?_⟩
    rw [List.mem_singleton] at hy
    subst e
    rw [hy] at hx
    exact hp hx
theorem ents_at : ∀ (S : List (Option Addr)) (b n : Nat), (ents S b)[n]? = (S[n]?).map fun p => ⟨.pointer p, .bool true, b + n⟩
  | [], _, _ => by simp [ents]
  | p :: S, b, 0 => by simp [ents]
  | p :: S, b, n + 1 => by
    rw [ents, List.getElem?_cons_succ, List.getElem?_cons_succ, ents_at S (b + 1) n]
    congr 1
    funext q
    congr 1
    omega
section
variable {P : Program} {tm tp te tb : TypeId} {j : TypeInfo}
theorem find_at (W : World) (hp : P.underlying tp = some (.pointer te)) (hte : P.info? te = some j) (hsz : j.size ≠ 0) (p : Option Addr) (h : GoodP W p) : ∀ (S : List (Option Addr)) (b i : Nat), (∀ q ∈ S, GoodP W q) → p ∈ S →
    ∃ n, (Instr.findAsking tp (.pointer p) (ents S b) i).run P W = .ok (some (i + n, .bool true)) W ∧ S[n]? = some p
  | [], _, _, _, hm => by cases hm
  | q :: S, b, i, hg, hm => by
    have e := equal_ptr W hp hte hsz p q h (hg q (List.mem_cons_self ..))
    by_cases hpq : p = q
    · subst hpq
      exact ⟨0, by simp [ents, Instr.findAsking, e], by simp⟩
    · obtain ⟨n, hn, hs⟩ := find_at W hp hte hsz p h S (b + 1) (i + 1) (fun x hx => hg x (List.mem_cons_of_mem _ hx)) ((List.mem_cons.1 hm).resolve_left hpq)
      refine ⟨n + 1, ?_, by simpa using hs⟩
      rw [show i + (n + 1) = i + 1 + n by omega]
      simp [ents, Instr.findAsking, e, hpq, hn]
theorem key_at_ (W : World) (hp : P.underlying tp = some (.pointer te)) (hte : P.info? te = some j) (hsz : j.size ≠ 0) (p : Option Addr) (h : GoodP W p) (S : List (Option Addr)) (hg : ∀ q ∈ S, GoodP W q) (hm : p ∈ S) :
    ∃ n, (Instr.findKey tp (.pointer p) (ents S 0)).run P W = .ok (some (n, .bool true)) W ∧ S[n]? = some p := by
  obtain ⟨n, hn, hs⟩ := find_at W hp hte hsz p h S 0 0 hg hm
  rw [Nat.zero_add] at hn
  cases S with
  | nil => cases hm
  | cons q S => exact ⟨n, by simp [Instr.findKey, run_underlying hp, ents, Instr.findNow, Instr.sameNow]; exact hn, hs⟩
theorem putObj_same (W : World) (r : Nat) (o : Obj) (h : W.heap[r]? = some o) : W.putObj r o = W := by
  obtain ⟨hlt, he⟩ := Array.getElem?_eq_some_iff.1 h
  have e : W.heap.setIfInBounds r o = W.heap := by
    apply Array.ext
    · simp
    · intro i h1 h2
      by_cases hi : i = r
      · subst hi; simp [he]
      · rw [Array.getElem_setIfInBounds_ne h2 (Ne.symm hi)]
  show { W with heap := W.heap.setIfInBounds r o } = W
  rw [e]
/-- a pointer that is in it is put in again -/
theorem put_old (W : World) (hm : P.underlying tm = some (.map tp tb)) (hp : P.underlying tp = some (.pointer te)) (hte : P.info? te = some j) (hsz : j.size ≠ 0) (r : Nat) (S : List (Option Addr)) (hr : W.heap[r]? = some (setO S))
    (hg : ∀ q ∈ S, GoodP W q) (p : Option Addr) (h : GoodP W p) (hx : p ∈ S) : (Instr.mapUpdate tm (.map (some r)) (.pointer p) (.bool true)).run P W = .ok () W := by
  have hc := check_ptr W hp false p
  have ho := MapKept.run_getObj_map (P := P) hr
  obtain ⟨n, hn, hs⟩ := key_at_ W hp hte hsz p h S hg hx
  have hst := MapKept.run_setObj_map (P := P) (setO S) hr
  have hsame := putObj_same W r _ hr
  have hat : (ents S 0)[n]? = some ⟨.pointer p, .bool true, n⟩ := by rw [ents_at, hs]; simp
  have hat' : (ents S 0).toArray[n]? = some ⟨.pointer p, .bool true, n⟩ := by simpa using hat
  have hmod : ((ents S 0).toArray.modify n fun e => { e with key := .pointer p, val := .bool true }) = (ents S 0).toArray := by
    apply Array.ext
    · simp
    · intro i h1 h2
      rw [Array.getElem_modify]
      split
      · rename_i e
        subst e
        have := (Array.getElem?_eq_some_iff.1 hat').2
        rw [this]
      · rfl
  have hk : (Instr.keyThatStays (.pointer p) (.pointer p)).run P W = .ok (.pointer p) W := by simp [Instr.keyThatStays, Instr.sameBits]
  simp [Instr.mapUpdate, run_underlying hm, ho, Result.andThen, hn, hc, hat, hk]
  have e2 : (Obj.map ((ents S 0).toArray.modify n fun e => { e with key := .pointer p, val := .bool true }) S.length) = setO S := by rw [hmod]; rfl
  simp at e2
  rw [e2, hst]
  show Result.ok () (W.putObj r (setO S)) = _
  rw [hsame]
/-- whatever is put in -/
theorem put_any (W : World) (hm : P.underlying tm = some (.map tp tb)) (hp : P.underlying tp = some (.pointer te)) (hte : P.info? te = some j) (hsz : j.size ≠ 0) (r : Nat) (S : List (Option Addr)) (hr : W.heap[r]? = some (setO S))
    (hg : ∀ q ∈ S, GoodP W q) (p : Option Addr) (h : GoodP W p) : (Instr.mapUpdate tm (.map (some r)) (.pointer p) (.bool true)).run P W = .ok () (W.putObj r (setO (insP S p))) := by
  unfold insP
  by_cases hx : p ∈ S
  · rw [if_pos hx, putObj_same W r _ hr]
    exact put_old W hm hp hte hsz r S hr hg p h hx
  · rw [if_neg hx]
    exact put_ptr W hm hp hte hsz r S hr hg p h hx
end
end Go.Proofs.Ytfbmpgffekhmhaa
