/- The document's own answer of layer 11: Read. -/
import Derived.Test.YtlhnjgmjkoafpaaDoorL11Ref
namespace Go.Proofs.YtlhnjgmjkoafpaaDoor
open Go.RowKit Go.Proofs.Treem
set_option maxRecDepth 100000

set_option maxHeartbeats 2000000 in
theorem refRead11 {T : World → Prop} (hS : TextSays T) (s : List UInt8) (hs : s.length ≤ 4200) (w : World) (hT : T w) :
    Calls Tryd.prog 21 #[sV s] w (MadeBeads w (readL s)) := by
  obtain ⟨n, hn⟩ : ∃ n, s.length = n := ⟨_, rfl⟩
  have hlen : (⟨s.toArray⟩ : ByteArray).size = n := by rw [← hn]; exact List.size_toArray
  have d1 : decide ((1048576 : Int) < (n : Int)) = false := decide_eq_false (by omega)
  have c0 := Lib.hid (refTake11 hS 4096 s hs (Nat.le_refl _) w 4096 rfl hT)
  obtain ⟨o, ho⟩ : ∃ o, tk 4096 s = o := ⟨_, rfl⟩
  have hsz := tk_size 4096 s
  rw [ho] at c0
  have ho' := Lib.hid ho
  have hn' := Lib.hid hn
  have hS' := Lib.hid hS
  have hT' := Lib.hid hT
  cases o with
  | none =>
    have hr : Hid (readL s = none) := by show readL s = none; unfold readL; rw [ho]
    clear hsz ho hn hS hT
    go_enter Tryd.func21, Tryd.ntmps21
    go_wp2_with fail
    refine c0.out.mono ?_
    rintro e w1 ⟨rfl, hb⟩
    have b1 := Lib.hid hb
    clear hb
    go_wp2
    go_ret2
    exact madeBeads_none hr.out b1.out
  | some p =>
    obtain ⟨t, rest⟩ := p
    have h5 : t.size ≤ 4200 := by have := hsz t rest ho; omega
    obtain ⟨k, hk⟩ : ∃ k, t.size = k := ⟨_, rfl⟩
    have hk' := Lib.hid hk
    have d2 : decide ((65536 : Int) < (k : Int)) = false := decide_eq_false (by omega)
    have c1 := Lib.hid (fun A c W (hb : Below w.heap.size w W) (h : LieB W W.heap.size A k c t.told) => refLine11 hS t A k c W.heap.size t.told (told_strip t) hk (by omega) W (Nat.le_refl _) (hS.next hT hb) h)
    clear hsz ho hn hS hT hk
    cases rest with
    | cons x r =>
      have hr : Hid (readL s = none) := by show readL s = none; unfold readL; rw [ho'.out]
      have he : (x :: r).isEmpty = false := rfl
      go_enter Tryd.func21, Tryd.ntmps21
      go_wp2_with fail
      refine c0.out.mono ?_
      rintro e w1 ⟨A, c, rfl, hl, hb⟩
      rw [hk'.out]
      have b1 := Lib.hid hb
      clear hb hl c1 c0
      go_wp2
      go_ret2
      exact madeBeads_none hr.out b1.out
    | nil =>
      have he : ([] : List UInt8).isEmpty = true := rfl
      by_cases hls : t.line = s
      · have hr : Hid (readL s = some t) := by show readL s = some t; unfold readL; rw [ho'.out]; exact if_pos ⟨by omega, hls⟩
        have hls' := Lib.hid hls
        rw [hls] at c1
        clear hls
        go_enter Tryd.func21, Tryd.ntmps21
        go_wp2_with fail
        refine c0.out.mono ?_
        rintro e w1 ⟨A, c, rfl, hl, hb⟩
        rw [hk'.out]
        rw [hk'.out] at hl
        have b1 := Lib.hid hb
        have l1 := Lib.hid hl
        clear hb hl c0
        go_wp2_with fail
        refine (c1.out A c w1 b1.out l1.out).mono ?_
        rintro e w2 ⟨rfl, hb⟩
        have b2 := Lib.hid (Below.after b1.out hb)
        have l2 := Lib.hid ((l1.out.next hb).more hb.size)
        clear hb c1
        go_wp2
        go_ret2
        rw [hr.out]
        exact ⟨A, c, by rw [hk'.out]; rfl, hk'.out.symm ▸ l2.out, b2.out⟩
      · have hr : Hid (readL s = none) := by show readL s = none; unfold readL; rw [ho'.out]; exact if_neg (fun h => hls h.2)
        obtain ⟨z, hz⟩ : ∃ z, t.line = z := ⟨_, rfl⟩
        rw [hz] at hls c1
        have hne : (z == s) = false := beq_eq_false_iff_ne.2 hls
        clear hls hz
        go_enter Tryd.func21, Tryd.ntmps21
        go_wp2_with fail
        refine c0.out.mono ?_
        rintro e w1 ⟨A, c, rfl, hl, hb⟩
        rw [hk'.out]
        rw [hk'.out] at hl
        have b1 := Lib.hid hb
        have l1 := Lib.hid hl
        clear hb hl c0
        go_wp2_with fail
        refine (c1.out A c w1 b1.out l1.out).mono ?_
        rintro e w2 ⟨rfl, hb⟩
        have b2 := Lib.hid (Below.after b1.out hb)
        clear hb c1
        go_wp2
        go_ret2
        exact madeBeads_none hr.out b2.out
end Go.Proofs.YtlhnjgmjkoafpaaDoor
