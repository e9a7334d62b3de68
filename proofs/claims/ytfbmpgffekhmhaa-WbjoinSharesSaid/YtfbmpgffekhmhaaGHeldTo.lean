/- A region that draws its order, where one operation, m, may break the condition S on the world (a store of what was loaded): up to m, S is shown behind each operation, and what waits for nothing but m's turn may be taken first; behind m nothing is asked of S. -/
import Derived.Test.YtfbmpgffekhmhaaGRound
import Derived.OrdersHeld
import Derived.Lib.Hide
namespace Go.Proofs.Ytfbmpgffekhmhaa
open Go Go.RowKit
section
variable {P : Program} {md : Region.Mode} {ops : Array Oper} {Q : Exit → Act → World → Prop} {S : World → Prop} {m : Nat}

/-- in whatever order what is left comes up; S behind each but m -/
def HeldTo (P : Program) (md : Region.Mode) (ops : Array Oper) (Q : Exit → Act → World → Prop) (m : Nat) (S : World → Prop) : Nat → Array Bool → Act → World → Prop
  | 0, b, a, w => Region.ready md ops b = [] ∧ Q .normal a w
  | k + 1, b, a, w => (Region.ready md ops b = [] → Q .normal a w) ∧ ∀ i ∈ Region.ready md ops b, wpOp P ops Q i (fun a' w' => (i ≠ m → S w') ∧ HeldTo P md ops Q m S k (b.setIfInBounds i true) a' w') a w
theorem HeldTo.any : ∀ (k : Nat) (b : Array Bool) (a : Act) (w : World), HeldTo P md ops Q m S k b a w → wpAny P md ops Q k b a w
  | 0, _, _, _, h => h
  | k + 1, _, _, _, h => ⟨h.1, fun i hi => wpOp_mono (fun a' w' h' => HeldTo.any k _ a' w' h'.2) (h.2 i hi)⟩
/-- operation m waits for operation i -/
def waitsB (md : Region.Mode) (ops : Array Oper) (m i : Nat) : Bool := match ops[m]? with
  | none => false
  | some o => o.after.any fun e => Region.binds md e && e.on == i
theorem waits_spec {i : Nat} (h : waitsB md ops m i = true) {o : Oper} (ho : ops[m]? = some o) : ∃ e ∈ o.after, Region.binds md e = true ∧ e.on = i := by
  unfold waitsB at h
  rw [ho] at h
  rw [Array.any_eq_true'] at h
  obtain ⟨e, he, h1⟩ := h
  rw [Bool.and_eq_true, beq_iff_eq] at h1
  exact ⟨e, he, h1⟩
/-- what may come up, and yields its value in every world that meets S, may be taken first, if m waits for it -/
theorem HeldTo.first {i : Nat} {oi : Oper} {v : Value} (hi : ops[i]? = some oi) (hsel : ∀ (j : Nat) (o : Oper) cs b, ops[j]? = some o → o.op ≠ .select cs b) (hQ : ∀ c a w, Q (.panic c) (a.put oi.dst v) w → Q (.panic c) a w) (hm : waitsB md ops m i = true) :
    ∀ (k : Nat) (b : Array Bool) (a : Act) (w : World), (∀ j oj, ops[j]? = some oj → j ≠ i → b.getD j true = false → (∀ e ∈ oj.after, Region.binds md e = true → e.on ≠ i) → oi.apart ops oj = true) →
      i ∈ Region.ready md ops b → YieldsIf P ops S oi v a → S w → HeldTo P md ops Q m S k (b.setIfInBounds i true) (a.put oi.dst v) w → HeldTo P md ops Q m S (k + 1) b a w
  | 0, b, a, w, _, hr, hy, hS, H => ⟨(fun h => by rw [h] at hr; cases hr), fun j hj => by
      by_cases e : j = i
      · subst e; exact hy.wpOp hi hS ⟨fun _ => hS, H⟩
      · have := ready_mono (i := i) hj e
        rw [H.1] at this; cases this⟩
  | k + 1, b, a, w, hfree, hr, hy, hS, H => ⟨(fun h => by rw [h] at hr; cases hr), fun j hj => by
      by_cases e : j = i
      · subst e; exact hy.wpOp hi hS ⟨fun _ => hS, H⟩
      · obtain ⟨hun, oj, hoj, hall⟩ := mem_ready.1 hj
        have hno : ∀ x ∈ oj.after, Region.binds md x = true → x.on ≠ i := fun x hx hb hxi => by
          have h1 := hall x hx hb
          have h0 := (mem_ready.1 hr).1
          rw [hxi] at h1
          rcases Nat.lt_or_ge i b.size with h' | h'
          · simp [h'] at h0 h1; rw [h0] at h1; cases h1
          · simp [Array.getElem?_eq_none h'] at h1
        have hjm : j ≠ m := fun ejm => by
          subst ejm
          obtain ⟨x, hx, hb, hxi⟩ := waits_spec hm hoj
          exact hno x hx hb hxi
        refine wpOp_mono (fun a' w' h3 => ⟨fun _ => h3.2.1 hjm, HeldTo.first hi hsel hQ hm k (b.setIfInBounds j true) a' w' (fun n on hn hni hnu hnn => hfree n on hn hni ?_ hnn) (ready_mono hr (Ne.symm e)) h3.1 (h3.2.1 hjm) ?_⟩)
          (wpOp_putIf hoj (hfree j oj hoj e hun hno) (fun cs b' => hsel i oi cs b' hi) (fun cs b' => hsel j oj cs b' hoj) hQ hy (H.2 j (ready_mono hj e)))
        · by_cases hjn : j = n
          · subst hjn; exact hun
          · rw [getD_set_ne true hjn] at hnu; exact hnu
        · rw [Array.setIfInBounds_comm _ _ e]; exact h3.2.2⟩
theorem HeldTo.take {i : Nat} {oi : Oper} {v : Value} {k : Nat} {b : Array Bool} {a : Act} {w : World} (hi : ops[i]? = some oi) (hs : Region.noSelect ops = true) (hf : Region.free md ops b i = true) (hr : (Region.ready md ops b).contains i = true) (hm : waitsB md ops m i = true)
    (hQ : ∀ c a w, Q (.panic c) (a.put oi.dst v) w → Q (.panic c) a w) (hy : YieldsIf P ops S oi v a) (hS : S w) (h : HeldTo P md ops Q m S k (b.setIfInBounds i true) (a.put oi.dst v) w) : HeldTo P md ops Q m S (k + 1) b a w :=
  HeldTo.first hi (Region.noSelect_spec hs) hQ hm k b a w (Region.free_spec hi hf) (by simpa using hr) hy hS h
/-- one alone may come up, and is not m -/
theorem HeldTo.one {i : Nat} {o : Oper} {k : Nat} {b : Array Bool} {a : Act} {w : World} (hr : Region.ready md ops b = [i]) (ho : ops[i]? = some o)
    (h : ∀ K' : Act → World → Prop, Hid (∀ a w, S w → (S w → HeldTo P md ops Q m S k (b.setIfInBounds i true) a w) → K' a w) → if Region.wanted o (yielded ops a.tmps) = true then Oper.wp P o a w K' Q else K' (a.put o.dst undef) w) : HeldTo P md ops Q m S (k + 1) b a w :=
  ⟨(fun h0 => by rw [hr] at h0; cases h0), fun j hj => by
    rw [hr, List.mem_singleton] at hj
    subst hj
    exact wpOp_step ho (fun K' hK => h K' (fun a w hS hW => hK a w ⟨fun _ => hS, hW hS⟩))⟩
/-- m alone may come up -/
theorem HeldTo.last {o : Oper} {k : Nat} {b : Array Bool} {a : Act} {w : World} (hr : Region.ready md ops b = [m]) (ho : ops[m]? = some o)
    (h : ∀ K' : Act → World → Prop, Hid (∀ a w, HeldTo P md ops Q m S k (b.setIfInBounds m true) a w → K' a w) → if Region.wanted o (yielded ops a.tmps) = true then Oper.wp P o a w K' Q else K' (a.put o.dst undef) w) : HeldTo P md ops Q m S (k + 1) b a w :=
  ⟨(fun h0 => by rw [hr] at h0; cases h0), fun j hj => by
    rw [hr, List.mem_singleton] at hj
    subst hj
    exact wpOp_step ho (fun K' hK => h K' (fun a w hW => hK a w ⟨fun e => absurd rfl e, hW⟩))⟩
theorem HeldTo.done {b : Array Bool} {a : Act} {w : World} (hr : Region.ready md ops b = []) (h : Q .normal a w) : ∀ k, HeldTo P md ops Q m S k b a w
  | 0 => ⟨hr, h⟩
  | _ + 1 => ⟨fun _ => h, by rw [hr]; simp⟩
theorem wpIn_round_heldTo {id L n : Nat} {a : Act} {w : World} (hp : P.follows .mixedOrders = true) (hd : noDefer ops = true) (hS : S w.drew)
    (h : S w.drew → HeldTo P .any ops (OnlyNormal Q) m S ops.size (Array.replicate ops.size false) a w.drew) : (Code.region id ops true).wpIn (Fence.wide.inRound L) n P Q a w :=
  Code.wpIn_mono only_normal (wpIn_region_draw fun t => by
    refine opsIn_of_ops L n (noDefer_at hd) (by rintro ⟨_, _, h⟩; exact h) _ _ _ ?_
    simp only [Region.schedule, hp, Bool.true_or, if_true]
    exact wpAny_sound ops.size t _ _ _ (HeldTo.any _ _ _ _ (h hS)))
end
end Go.Proofs.Ytfbmpgffekhmhaa
