/- The statement SiftTells of layer 6, walked. -/
import Derived.Test.YtjjhmenkgcldeaaL6Alive
namespace Go.Proofs.Ytjjhmenkgcldeaa
open Go.RowKit Go.Shelf Go.Proofs.Rowm Go.Proofs.Siftm

theorem s7_next {w x y : World} {a b c d e f : Addr} {u1 u2 u3 u4 u5 u6 : Value} {g : Nat} {t : TypeId} {cs : Array Value} (h : x.cell? a = some u1 ∧ x.cell? b = some u2 ∧ x.cell? c = some u3 ∧ x.cell? d = some u4 ∧ x.cell? e = some u5 ∧ x.cell? f = some u6 ∧ Has x g t cs ∧ Below w.heap.size w x) (hb : Below x.heap.size x y) :
    y.cell? a = some u1 ∧ y.cell? b = some u2 ∧ y.cell? c = some u3 ∧ y.cell? d = some u4 ∧ y.cell? e = some u5 ∧ y.cell? f = some u6 ∧ Has y g t cs ∧ Below w.heap.size w y :=
  ⟨keep_cell hb h.1, keep_cell hb h.2.1, keep_cell hb h.2.2.1, keep_cell hb h.2.2.2.1, keep_cell hb h.2.2.2.2.1, keep_cell hb h.2.2.2.2.2.1, h.2.2.2.2.2.2.1.next hb, Below.after h.2.2.2.2.2.2.2 hb⟩

set_option maxHeartbeats 1000000 in
theorem tells6_many (p : Pd) (x : Pr) (A : Option Addr) (n c : Nat) (h : 300 < n) (hn : n ≤ maxLen) (w : World) : Calls Try.prog 3 #[pdV p, pV x, .slice A n c] w fun e w' => e = .returned (.bool true) ∧ Below w.heap.size w w' := by
  unfold maxLen at hn
  have k0 := Lib.hid (((Below.refl w.heap.size w).alloc (Nat.le_refl _) (.cells (pdC p) 23)).alloc (by simp) (.cells #[K x.1, K x.2] 25))
  go_enter Try.func3, Try.ntmps3
  go_wp2_with (go_at_call 6; refine (alive6_any _).mono ?_; rintro e w1 ⟨rfl, hb⟩; have k1 := Lib.hid (Below.after k0.out hb); clear hb)
  go_ret
  exact ⟨rfl, k1.out⟩

set_option maxHeartbeats 8000000 in
theorem tells6_no (p : Pd) (hm : may p = false) (x : Pr) (A : Option Addr) (n c : Nat) (l : List Pr) (h3 : n ≤ 300) (w : World) (h : Lies w A n c l) : Calls Try.prog 3 #[pdV p, pV x, .slice A n c] w fun e w' => e = .returned (.bool true) ∧ Below w.heap.size w w' := by
  have h9 : n ≤ 900 := by omega
  have h10 : n ≤ 1000 := by omega
  have b0 := Lib.hid (((Below.refl w.heap.size w).alloc (Nat.le_refl _) (.cells (pdC p) 23)).alloc (by simp) (.cells #[K x.1, K x.2] 25))
  have hp := (Has.new w 23 (pdC p)).alloc (.cells #[K x.1, K x.2] 25)
  have hx := Has.new (w.alloc (.cells (pdC p) 23)) 25 #[K x.1, K x.2]
  rw [World.size_alloc] at hx
  have p0 := Lib.hid hp
  have x0 := Lib.hid hx
  have l0 := Lib.hid (h.next b0.out)
  have hl := Lib.hid h.len
  have mayS := Lib.hid (fun W => (hm ▸ may_any p W : Calls Try.prog 10 #[pdV p] W fun e w' => e = .returned (.bool false) ∧ Below W.heap.size W w'))
  have mayR := Lib.hid (fun W => (hm ▸ refMay_any p W : Calls Try.prog 11 #[pdV p] W fun e w' => e = .returned (.bool false) ∧ Below W.heap.size W w'))
  obtain ⟨tk, htk⟩ : ∃ tk, takes p x = tk := ⟨_, rfl⟩
  have takS := Lib.hid (fun W => takes_any p x W)
  have takR := Lib.hid (fun W => refTakes_any p x W)
  rw [htk] at takS takR
  have cK := Lib.hid (fun A c W => keep_no p hm A n c W)
  have cS := Lib.hid (fun A c W => split_no p hm A n c W)
  clear hp hx h htk hm
  go_enter Try.func3, Try.ntmps3
  go_wp2_with fail
  refine (own6_any A n c l _ l0.out).mono ?_
  rintro e w1 ⟨v, rfl, hown, hb⟩
  obtain ⟨A1, c1, rfl, hM, _⟩ := Lies.of_own hl.out h9 hown
  have p1 := Lib.hid (p0.out.next hb)
  have x1 := Lib.hid (x0.out.next hb)
  have l1 := Lib.hid (l0.out.next hb)
  have b1 := Lib.hid (Below.after b0.out hb)
  have m1 := Lib.hid hM
  clear hown hb hM
  obtain ⟨q0, q1, q2, q3⟩ := pd_cells p _ _ p1.out
  go_wp2_with fail
  refine (cK.out A1 c1 _).mono ?_
  rintro e w2 ⟨rfl, hb⟩
  have p2 := Lib.hid (p1.out.next hb)
  have x2 := Lib.hid (x1.out.next hb)
  have l2 := Lib.hid (l1.out.next hb)
  have b2 := Lib.hid (Below.after b1.out hb)
  have m2 := Lib.hid (m1.out.next hb)
  clear hb q0 q1 q2 q3
  obtain ⟨q0, q1, q2, q3⟩ := pd_cells p _ _ p2.out
  go_wp2_with fail
  refine (cS.out A1 c1 _).mono ?_
  rintro e w3 ⟨rfl, hb⟩
  have p3 := p2.out.next hb
  have x3 := x2.out.next hb
  have l3 := Lib.hid (l2.out.next hb)
  have b3 := Lib.hid (Below.after b2.out hb)
  have m3 := Lib.hid (m2.out.next hb)
  clear hb q0 q1 q2 q3 p0 x0 l0 b0 p1 x1 l1 b1 m1 p2 x2 l2 b2 m2
  go_wp2_with fail
  obtain ⟨W0, hW0⟩ : ∃ W, w3 = W := ⟨_, rfl⟩
  rw [hW0] at p3 x3 l3 b3 m3 ⊢
  clear hW0
  obtain ⟨q0, q1, q2, q3⟩ := pd_cells p _ _ p3
  have y0 := x3.c0
  have y1 := x3.c1
  have bq := Lib.hid (Below.refl W0.heap.size W0)
  have same := Lib.hid (fun (y : World) (hy : Below W0.heap.size W0 y) => same4_yes A1 A n c1 c l hl.out h10 y (m3.out.next hy).row (l3.out.next hy).row)
  go_region_held3 (fun w' => w'.cell? ⟨w.heap.size, 0, none⟩ = some (.int .u8 p.k) ∧ w'.cell? ⟨w.heap.size, 1, none⟩ = some (K p.a) ∧ w'.cell? ⟨w.heap.size, 2, none⟩ = some (K p.b) ∧ w'.cell? ⟨w.heap.size, 3, none⟩ = some (.bool p.n) ∧ w'.cell? ⟨w.heap.size + 1, 0, none⟩ = some (K x.1) ∧ w'.cell? ⟨w.heap.size + 1, 1, none⟩ = some (K x.2) ∧ Has w' w.heap.size 23 (pdC p) ∧ Below W0.heap.size W0 w')
    (first | exact ⟨q0, q1, q2, q3, y0, y1, p3, bq.out.drew⟩ | assumption)
    (first | (go_at_call 10; refine (mayS.out _).mono ?_; rintro e w' ⟨rfl, hb⟩; have hS' := s7_next (w := W0) (by assumption) hb; clear hb) | (go_at_call 11; refine (mayR.out _).mono ?_; rintro e w' ⟨rfl, hb⟩; have hS' := s7_next (w := W0) (by assumption) hb; clear hb) | (go_at_call 12; refine (takS.out _).mono ?_; rintro e w' ⟨rfl, hb⟩; have hS' := s7_next (w := W0) (by assumption) hb; clear hb) | (go_at_call 13; refine (takR.out _).mono ?_; rintro e w' ⟨rfl, hb⟩; have hS' := s7_next (w := W0) (by assumption) hb; clear hb) | (go_at_call 14; refine (same.out _ (And.right (And.right (And.right (And.right (And.right (And.right (And.right (by assumption))))))))).mono ?_; rintro e w' ⟨rfl, hb⟩; have hS' := s7_next (w := W0) (by assumption) hb; clear hb))
  clear q0 q1 q2 q3 y0 y1 same
  obtain ⟨_, _, _, _, _, _, hp, hb⟩ := hS'
  have b4 := Lib.hid (b3.out.trans (hb.mono b3.out.size))
  have p4 := Lib.hid hp
  clear hb hp hS' p3 x3 l3 b3 m3 
  obtain ⟨q0, q1, q2, q3⟩ := pd_cells p _ _ p4.out
  go_wp2_with fail
  refine (mayR.out _).mono ?_
  rintro e w5 ⟨rfl, hb⟩
  have p5 := Lib.hid (p4.out.next hb)
  have k5 := Lib.hid (Below.after b4.out hb)
  clear hb  p4 b4
  clear q0 q1 q2 q3
  go_wp2_with fail
  refine (alive6_any _).mono ?_
  rintro e w6 ⟨rfl, hb⟩
  have k6 := Lib.hid (Below.after k5.out hb)
  clear hb  k5
  go_wp2
  go_ret
  exact ⟨rfl, k6.out⟩

set_option maxHeartbeats 8000000 in
theorem tells6_yes (p : Pd) (hm : may p = true) (x : Pr) (A : Option Addr) (n c : Nat) (l : List Pr) (h3 : n ≤ 300) (w : World) (h : Lies w A n c l) : Calls Try.prog 3 #[pdV p, pV x, .slice A n c] w fun e w' => e = .returned (.bool true) ∧ Below w.heap.size w w' := by
  have h9 : n ≤ 900 := by omega
  have h10 : n ≤ 1000 := by omega
  have b0 := Lib.hid (((Below.refl w.heap.size w).alloc (Nat.le_refl _) (.cells (pdC p) 23)).alloc (by simp) (.cells #[K x.1, K x.2] 25))
  have hp := (Has.new w 23 (pdC p)).alloc (.cells #[K x.1, K x.2] 25)
  have hx := Has.new (w.alloc (.cells (pdC p) 23)) 25 #[K x.1, K x.2]
  rw [World.size_alloc] at hx
  have p0 := Lib.hid hp
  have x0 := Lib.hid hx
  have l0 := Lib.hid (h.next b0.out)
  have hl := Lib.hid h.len
  have mayS := Lib.hid (fun W => (hm ▸ may_any p W : Calls Try.prog 10 #[pdV p] W fun e w' => e = .returned (.bool true) ∧ Below W.heap.size W w'))
  have mayR := Lib.hid (fun W => (hm ▸ refMay_any p W : Calls Try.prog 11 #[pdV p] W fun e w' => e = .returned (.bool true) ∧ Below W.heap.size W w'))
  obtain ⟨tk, htk⟩ : ∃ tk, takes p x = tk := ⟨_, rfl⟩
  have takS := Lib.hid (fun W => takes_any p x W)
  have takR := Lib.hid (fun W => refTakes_any p x W)
  rw [htk] at takS takR
  obtain ⟨s, hs⟩ : ∃ s, keep p l = s := ⟨_, rfl⟩
  obtain ⟨m, hsm⟩ : ∃ m, s.length = m := ⟨_, rfl⟩
  obtain ⟨t, ht⟩ : ∃ t, keep (Siftm.flip p) l = t := ⟨_, rfl⟩
  obtain ⟨j, htj⟩ : ∃ j, t.length = j := ⟨_, rfl⟩
  have m9 : m ≤ 1000 := by have h1 := keep_len p l; have h2 := h.len; rw [hs] at h1; omega
  have j9 : j ≤ 1000 := by have h1 := keep_len (Siftm.flip p) l; have h2 := h.len; rw [ht] at h1; omega
  have cK := Lib.hid (fun A c W hW => keep_yes p hm A n c l s m hs hsm W hW)
  have cS := Lib.hid (fun A c W hW => split_yes p hm A n c l s t m j hs hsm ht htj W hW)
  have rK := Lib.hid (fun A c W hW => refKeep_any p A n c l s m hs hsm W hW)
  have rN := Lib.hid (fun A c W hW => refKeep_any (Siftm.flip p) A n c l t j ht htj W hW)
  have nN := Lib.hid (fun W => not_any p W)
  have hsm' := Lib.hid hsm
  have htj' := Lib.hid htj
  clear hs hsm ht htj
  clear hp hx h htk hm
  go_enter Try.func3, Try.ntmps3
  go_wp2_with fail
  refine (own6_any A n c l _ l0.out).mono ?_
  rintro e w1 ⟨v, rfl, hown, hb⟩
  obtain ⟨A1, c1, rfl, hM, _⟩ := Lies.of_own hl.out h9 hown
  have p1 := Lib.hid (p0.out.next hb)
  have x1 := Lib.hid (x0.out.next hb)
  have l1 := Lib.hid (l0.out.next hb)
  have b1 := Lib.hid (Below.after b0.out hb)
  have m1 := Lib.hid hM
  clear hown hb hM
  obtain ⟨q0, q1, q2, q3⟩ := pd_cells p _ _ p1.out
  go_wp2_with fail
  refine (cK.out A1 c1 _ m1.out).mono ?_
  rintro e w2 ⟨A2, c2, rfl, hK, _, hb⟩
  have s2 := Lib.hid hK
  clear hK
  have p2 := Lib.hid (p1.out.next hb)
  have x2 := Lib.hid (x1.out.next hb)
  have l2 := Lib.hid (l1.out.next hb)
  have b2 := Lib.hid (Below.after b1.out hb)
  have m2 := Lib.hid (m1.out.next hb)
  clear hb q0 q1 q2 q3
  obtain ⟨q0, q1, q2, q3⟩ := pd_cells p _ _ p2.out
  go_wp2_with fail
  refine (cS.out A1 c1 _ m2.out).mono ?_
  rintro e w3 ⟨A3, c3, A4, c4, rfl, hI, hO, hb⟩
  have i3 := Lib.hid hI
  have o3 := Lib.hid hO
  have s3 := Lib.hid (s2.out.next hb)
  clear hI hO
  have p3 := p2.out.next hb
  have x3 := x2.out.next hb
  have l3 := Lib.hid (l2.out.next hb)
  have b3 := Lib.hid (Below.after b2.out hb)
  have m3 := Lib.hid (m2.out.next hb)
  clear hb q0 q1 q2 q3 p0 x0 l0 b0 p1 x1 l1 b1 m1 p2 x2 l2 b2 m2
  go_wp2_with fail
  obtain ⟨W0, hW0⟩ : ∃ W, w3 = W := ⟨_, rfl⟩
  rw [hW0] at p3 x3 l3 b3 m3 i3 o3 s3 ⊢
  clear hW0
  obtain ⟨q0, q1, q2, q3⟩ := pd_cells p _ _ p3
  have y0 := x3.c0
  have y1 := x3.c1
  have bq := Lib.hid (Below.refl W0.heap.size W0)
  have same := Lib.hid (fun (y : World) (hy : Below W0.heap.size W0 y) => same4_yes A1 A n c1 c l hl.out h10 y (m3.out.next hy).row (l3.out.next hy).row)
  go_region_held3 (fun w' => w'.cell? ⟨w.heap.size, 0, none⟩ = some (.int .u8 p.k) ∧ w'.cell? ⟨w.heap.size, 1, none⟩ = some (K p.a) ∧ w'.cell? ⟨w.heap.size, 2, none⟩ = some (K p.b) ∧ w'.cell? ⟨w.heap.size, 3, none⟩ = some (.bool p.n) ∧ w'.cell? ⟨w.heap.size + 1, 0, none⟩ = some (K x.1) ∧ w'.cell? ⟨w.heap.size + 1, 1, none⟩ = some (K x.2) ∧ Has w' w.heap.size 23 (pdC p) ∧ Below W0.heap.size W0 w')
    (first | exact ⟨q0, q1, q2, q3, y0, y1, p3, bq.out.drew⟩ | assumption)
    (first | (go_at_call 10; refine (mayS.out _).mono ?_; rintro e w' ⟨rfl, hb⟩; have hS' := s7_next (w := W0) (by assumption) hb; clear hb) | (go_at_call 11; refine (mayR.out _).mono ?_; rintro e w' ⟨rfl, hb⟩; have hS' := s7_next (w := W0) (by assumption) hb; clear hb) | (go_at_call 12; refine (takS.out _).mono ?_; rintro e w' ⟨rfl, hb⟩; have hS' := s7_next (w := W0) (by assumption) hb; clear hb) | (go_at_call 13; refine (takR.out _).mono ?_; rintro e w' ⟨rfl, hb⟩; have hS' := s7_next (w := W0) (by assumption) hb; clear hb) | (go_at_call 14; refine (same.out _ (And.right (And.right (And.right (And.right (And.right (And.right (And.right (by assumption))))))))).mono ?_; rintro e w' ⟨rfl, hb⟩; have hS' := s7_next (w := W0) (by assumption) hb; clear hb))
  clear q0 q1 q2 q3 y0 y1 same
  obtain ⟨_, _, _, _, _, _, hp, hb⟩ := hS'
  have b4 := Lib.hid (b3.out.trans (hb.mono b3.out.size))
  have p4 := Lib.hid hp
  have l4 := Lib.hid (l3.out.next hb)
  have s4 := Lib.hid (s3.out.next hb)
  have i4 := Lib.hid (i3.out.next hb)
  have o4 := Lib.hid (o3.out.next hb)
  clear hb hp hS' p3 x3 l3 b3 m3 i3 o3 s3
  obtain ⟨q0, q1, q2, q3⟩ := pd_cells p _ _ p4.out
  go_wp2_with fail
  refine (mayR.out _).mono ?_
  rintro e w5 ⟨rfl, hb⟩
  have p5 := Lib.hid (p4.out.next hb)
  have l5 := Lib.hid (l4.out.next hb)
  have s5 := Lib.hid (s4.out.next hb)
  have i5 := Lib.hid (i4.out.next hb)
  have o5 := Lib.hid (o4.out.next hb)
  have k5 := Lib.hid (Below.after b4.out hb)
  clear hb  p4 l4 s4 i4 o4 b4
  clear q0 q1 q2 q3
  obtain ⟨q0, q1, q2, q3⟩ := pd_cells p _ _ p5.out
  go_wp2_with fail
  refine (rK.out A c _ l5.out).mono ?_
  rintro e w6 ⟨A5, c5, rfl, hh, hb⟩
  have p6 := Lib.hid (p5.out.next hb)
  have l6 := Lib.hid (l5.out.next hb)
  have s6 := Lib.hid (s5.out.next hb)
  have i6 := Lib.hid (i5.out.next hb)
  have o6 := Lib.hid (o5.out.next hb)
  have k6 := Lib.hid (Below.after k5.out hb)
  have r6 := Lib.hid hh
  clear hb hh p5 l5 s5 i5 o5 k5
  clear q0 q1 q2 q3
  go_wp2_with fail
  refine (same4_yes A2 A5 m c2 c5 s hsm'.out m9 _ s6.out.row r6.out.row).mono ?_
  rintro e w7 ⟨rfl, hb⟩
  have p7 := Lib.hid (p6.out.next hb)
  have l7 := Lib.hid (l6.out.next hb)
  have s7 := Lib.hid (s6.out.next hb)
  have i7 := Lib.hid (i6.out.next hb)
  have o7 := Lib.hid (o6.out.next hb)
  have k7 := Lib.hid (Below.after k6.out hb)
  clear hb  p6 l6 s6 i6 o6 k6
  go_wp2_with fail
  refine (same4_yes A3 A2 m c3 c2 s hsm'.out m9 _ i7.out.row s7.out.row).mono ?_
  rintro e w8 ⟨rfl, hb⟩
  have p8 := Lib.hid (p7.out.next hb)
  have l8 := Lib.hid (l7.out.next hb)
  have o8 := Lib.hid (o7.out.next hb)
  have k8 := Lib.hid (Below.after k7.out hb)
  clear hb  p7 l7 o7 k7
  obtain ⟨q0, q1, q2, q3⟩ := pd_cells p _ _ p8.out
  go_wp2_with fail
  refine (nN.out _).mono ?_
  rintro e w9 ⟨rfl, hb⟩
  have l9 := Lib.hid (l8.out.next hb)
  have o9 := Lib.hid (o8.out.next hb)
  have k9 := Lib.hid (Below.after k8.out hb)
  clear hb  l8 o8 k8
  clear q0 q1 q2 q3
  go_wp2_with fail
  refine (rN.out A c _ l9.out).mono ?_
  rintro e w10 ⟨A6, c6, rfl, hh, hb⟩
  have o10 := Lib.hid (o9.out.next hb)
  have k10 := Lib.hid (Below.after k9.out hb)
  have r10 := Lib.hid hh
  clear hb hh o9 k9
  go_wp2_with fail
  refine (same4_yes A4 A6 j c4 c6 t htj'.out j9 _ o10.out.row r10.out.row).mono ?_
  rintro e w11 ⟨rfl, hb⟩
  have k11 := Lib.hid (Below.after k10.out hb)
  clear hb  k10
  go_wp2_with fail
  refine (alive6_any _).mono ?_
  rintro e w12 ⟨rfl, hb⟩
  have k12 := Lib.hid (Below.after k11.out hb)
  clear hb  k11
  go_wp2
  go_ret
  exact ⟨rfl, k12.out⟩
end Go.Proofs.Ytjjhmenkgcldeaa
