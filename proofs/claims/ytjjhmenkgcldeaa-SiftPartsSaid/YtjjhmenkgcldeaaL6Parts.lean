/- The statement SiftParts of layer 6, walked. -/
import Derived.Test.YtjjhmenkgcldeaaL6Alive
namespace Go.Proofs.Ytjjhmenkgcldeaa
open Go.RowKit Go.Shelf Go.Proofs.Rowm Go.Proofs.Siftm

/-- the cells of a predicate the other way round -/
abbrev pdN (p : Pd) : Array Value := #[.int .u8 p.k, K p.a, K p.b, .bool !p.n]
theorem pdn_cells (p : Pd) (g : Nat) (w : World) (h : Has w g 23 (pdN p)) : w.cell? ⟨g, 0, none⟩ = some (.int .u8 p.k) ∧ w.cell? ⟨g, 1, none⟩ = some (K p.a) ∧ w.cell? ⟨g, 2, none⟩ = some (K p.b) ∧ w.cell? ⟨g, 3, none⟩ = some (.bool !p.n) := ⟨h.cell 0, h.cell 1, h.cell 2, h.cell 3⟩
theorem pdn_val (p : Pd) : pdV (Siftm.flip p) = .agg (pdN p) := rfl

set_option maxHeartbeats 2000000 in
theorem parts6_many1 (p : Pd) (x : Pr) (A B : Option Addr) (n c m d : Nat) (h : 200 < n) (hb : n ≤ maxLen) (w : World) : Calls Try.prog 4 #[pdV p, pV x, .slice A n c, .slice B m d] w fun e w' => e = .returned (.bool true) ∧ Below w.heap.size w w' := by
  unfold maxLen at hb
  have hd : decide ((200 : Int) < (n : Int)) = true := decide_eq_true (by omega)
  have k0 := Lib.hid (((Below.refl w.heap.size w).alloc (Nat.le_refl _) (.cells (pdC p) 23)).alloc (by simp) (.cells #[K x.1, K x.2] 25))
  go_enter Try.func4, Try.ntmps4
  go_wp2_with (go_at_call 6; refine (alive6_any _).mono ?_; rintro e w1 ⟨rfl, hb⟩; have k1 := Lib.hid (Below.after k0.out hb); clear hb)
  go_ret
  exact ⟨rfl, k1.out⟩

set_option maxHeartbeats 2000000 in
theorem parts6_many2 (p : Pd) (x : Pr) (A B : Option Addr) (n c m d : Nat) (h1 : n ≤ 200) (h : 200 < m) (hb : m ≤ maxLen) (w : World) : Calls Try.prog 4 #[pdV p, pV x, .slice A n c, .slice B m d] w fun e w' => e = .returned (.bool true) ∧ Below w.heap.size w w' := by
  unfold maxLen at hb
  have hd : decide ((200 : Int) < (n : Int)) = false := decide_eq_false (by omega)
  have hd2 : decide ((200 : Int) < (m : Int)) = true := decide_eq_true (by omega)
  have k0 := Lib.hid (((Below.refl w.heap.size w).alloc (Nat.le_refl _) (.cells (pdC p) 23)).alloc (by simp) (.cells #[K x.1, K x.2] 25))
  go_enter Try.func4, Try.ntmps4
  go_wp2_with (go_at_call 6; refine (alive6_any _).mono ?_; rintro e w1 ⟨rfl, hb⟩; have k1 := Lib.hid (Below.after k0.out hb); clear hb)
  go_ret
  exact ⟨rfl, k1.out⟩

set_option maxHeartbeats 4000000 in
theorem parts6_no (p : Pd) (hm : may p = false) (x : Pr) (A B : Option Addr) (n c m d : Nat) (hn : n ≤ 200) (hm2 : m ≤ 200) (w : World) : Calls Try.prog 4 #[pdV p, pV x, .slice A n c, .slice B m d] w fun e w' => e = .returned (.bool true) ∧ Below w.heap.size w w' := by
  have d1 : decide ((200 : Int) < (n : Int)) = false := decide_eq_false (by omega)
  have d2 : decide ((200 : Int) < (m : Int)) = false := decide_eq_false (by omega)
  have k0 := Lib.hid ((((Below.refl w.heap.size w).alloc (Nat.le_refl _) (.cells (pdC p) 23)).alloc (by simp) (.cells #[K x.1, K x.2] 25)).alloc (by simp; omega) (.cells (pdN p) 23))
  have hp := ((Has.new w 23 (pdC p)).alloc (.cells #[K x.1, K x.2] 25)).alloc (.cells (pdN p) 23)
  have hx := (Has.new (w.alloc (.cells (pdC p) 23)) 25 #[K x.1, K x.2]).alloc (.cells (pdN p) 23)
  have hq := Has.new ((w.alloc (.cells (pdC p) 23)).alloc (.cells #[K x.1, K x.2] 25)) 23 (pdN p)
  simp only [World.size_alloc] at hx hq
  have p0 := Lib.hid hp
  have x0 := Lib.hid hx
  have nt0 := Lib.hid hq
  clear hp hx hq
  have may1 := Lib.hid (fun W => (hm ▸ may_any p W : Calls Try.prog 10 #[pdV p] W fun e w' => e = .returned (.bool false) ∧ Below W.heap.size W w'))
  have may2 := Lib.hid (fun W => may_l (p := Siftm.flip p) (t := false) hm (pdn_val p) W)
  have tak1 := Lib.hid (fun W => takes_l (p := p) (x := x) (t := false) (takes_not hm x) rfl rfl W)
  have tak2 := Lib.hid (fun W => takes_l (p := Siftm.flip p) (x := x) (t := false) (takes_not (p := Siftm.flip p) hm x) (pdn_val p) rfl W)
  go_enter Try.func4, Try.ntmps4
  obtain ⟨q0, q1, q2, q3⟩ := pd_cells p _ _ p0.out
  have y0 := x0.out.c0
  have y1 := x0.out.c1
  obtain ⟨z0, z1, z2, z3⟩ := pdn_cells p _ _ nt0.out
  go_wp2_with fail
  refine (may1.out _).mono ?_
  rintro e w1 ⟨rfl, hb⟩
  have p1 := Lib.hid (p0.out.next hb)
  have x1 := Lib.hid (x0.out.next hb)
  have nt1 := Lib.hid (nt0.out.next hb)
  have k1 := Lib.hid (Below.after k0.out hb)
  clear hb  p0 x0 nt0 k0
  clear q0 q1 q2 q3 y0 y1 z0 z1 z2 z3
  obtain ⟨q0, q1, q2, q3⟩ := pd_cells p _ _ p1.out
  have y0 := x1.out.c0
  have y1 := x1.out.c1
  obtain ⟨z0, z1, z2, z3⟩ := pdn_cells p _ _ nt1.out
  go_wp2_with fail
  refine (tak1.out _).mono ?_
  rintro e w2 ⟨rfl, hb⟩
  have p2 := Lib.hid (p1.out.next hb)
  have x2 := Lib.hid (x1.out.next hb)
  have nt2 := Lib.hid (nt1.out.next hb)
  have k2 := Lib.hid (Below.after k1.out hb)
  clear hb  p1 x1 nt1 k1
  clear q0 q1 q2 q3 y0 y1 z0 z1 z2 z3
  obtain ⟨q0, q1, q2, q3⟩ := pd_cells p _ _ p2.out
  have y0 := x2.out.c0
  have y1 := x2.out.c1
  obtain ⟨z0, z1, z2, z3⟩ := pdn_cells p _ _ nt2.out
  go_wp2_with fail
  refine (tak2.out _).mono ?_
  rintro e w3 ⟨rfl, hb⟩
  have p3 := Lib.hid (p2.out.next hb)
  have x3 := Lib.hid (x2.out.next hb)
  have nt3 := Lib.hid (nt2.out.next hb)
  have k3 := Lib.hid (Below.after k2.out hb)
  clear hb  p2 x2 nt2 k2
  clear q0 q1 q2 q3 y0 y1 z0 z1 z2 z3
  obtain ⟨q0, q1, q2, q3⟩ := pd_cells p _ _ p3.out
  have y0 := x3.out.c0
  have y1 := x3.out.c1
  obtain ⟨z0, z1, z2, z3⟩ := pdn_cells p _ _ nt3.out
  go_wp2_with fail
  refine (may2.out _).mono ?_
  rintro e w4 ⟨rfl, hb⟩
  have p4 := Lib.hid (p3.out.next hb)
  have x4 := Lib.hid (x3.out.next hb)
  have nt4 := Lib.hid (nt3.out.next hb)
  have k4 := Lib.hid (Below.after k3.out hb)
  clear hb  p3 x3 nt3 k3
  clear q0 q1 q2 q3 y0 y1 z0 z1 z2 z3
  go_wp2_with fail
  refine (alive6_any _).mono ?_
  rintro e w5 ⟨rfl, hb⟩
  have p5 := Lib.hid (p4.out.next hb)
  have x5 := Lib.hid (x4.out.next hb)
  have nt5 := Lib.hid (nt4.out.next hb)
  have k5 := Lib.hid (Below.after k4.out hb)
  clear hb  p4 x4 nt4 k4
  go_wp2
  go_ret
  exact ⟨rfl, k5.out⟩

set_option maxRecDepth 100000 in
set_option maxHeartbeats 16000000 in
theorem parts6_yes (p : Pd) (hm : may p = true) (x : Pr) (A B : Option Addr) (n c m d : Nat) (a b : List Pr) (hn : n ≤ 200) (hm2 : m ≤ 200) (w : World) (hA : Lies w A n c a) (hB : Lies w B m d b) : Calls Try.prog 4 #[pdV p, pV x, .slice A n c, .slice B m d] w fun e w' => e = .returned (.bool true) ∧ Below w.heap.size w w' := by
  obtain ⟨i0, hi, hz0, hz1, hz2⟩ := info_parts info_pair
  have h9 : n + m ≤ 900 := by omega
  have d1 : decide ((200 : Int) < (n : Int)) = false := decide_eq_false (by omega)
  have d2 : decide ((200 : Int) < (m : Int)) = false := decide_eq_false (by omega)
  have k0 := Lib.hid ((((Below.refl w.heap.size w).alloc (Nat.le_refl _) (.cells (pdC p) 23)).alloc (by simp) (.cells #[K x.1, K x.2] 25)).alloc (by simp; omega) (.cells (pdN p) 23))
  have hp := ((Has.new w 23 (pdC p)).alloc (.cells #[K x.1, K x.2] 25)).alloc (.cells (pdN p) 23)
  have hx := (Has.new (w.alloc (.cells (pdC p) 23)) 25 #[K x.1, K x.2]).alloc (.cells (pdN p) 23)
  have hq := Has.new ((w.alloc (.cells (pdC p) 23)).alloc (.cells #[K x.1, K x.2] 25)) 23 (pdN p)
  simp only [World.size_alloc] at hx hq
  have p0 := Lib.hid hp
  have x0 := Lib.hid hx
  have nt0 := Lib.hid hq
  clear hp hx hq
  have lA0 := Lib.hid (hA.next k0.out)
  have lB0 := Lib.hid (hB.next k0.out)
  have al := Lib.hid hA.len
  have bl := Lib.hid hB.len
  obtain ⟨S, hS⟩ : ∃ S, keep p a = S := ⟨_, rfl⟩
  obtain ⟨i, hsi⟩ : ∃ i, S.length = i := ⟨_, rfl⟩
  obtain ⟨T, hT⟩ : ∃ T, keep p b = T := ⟨_, rfl⟩
  obtain ⟨j, htj⟩ : ∃ j, T.length = j := ⟨_, rfl⟩
  obtain ⟨O, hO⟩ : ∃ O, keep (Siftm.flip p) a = O := ⟨_, rfl⟩
  obtain ⟨k, hok⟩ : ∃ k, O.length = k := ⟨_, rfl⟩
  have hik : i + k = n := by have h1 := keep_both hm a; rw [hS, hO, hsi, hok, hA.len] at h1; exact h1
  have hjm : j ≤ m := by have h1 := keep_len p b; rw [hT, htj, hB.len] at h1; exact h1
  have hikI : (i : Int) + (k : Int) = (n : Int) := by omega
  have i9 : i ≤ 1000 := by omega
  have ij9 : i + j ≤ 1000 := by omega
  have ij8 : i + j ≤ 900 := by omega
  have hAll : keep p (a ++ b) = S ++ T := by rw [keep_append, hS, hT]
  have hlAll : (S ++ T).length = i + j := by rw [List.length_append, hsi, htj]
  have hlab : Hid ((a ++ b).length = n + m) := by show (a ++ b).length = n + m; rw [List.length_append, hA.len, hB.len]
  have hKS : keep p S = S := by rw [← hS]; exact keep_keep p a
  have hKN : keep (Siftm.flip p) S = [] := by rw [← hS]; exact keep_none hm a
  obtain ⟨tk, htk⟩ : ∃ tk, takes p x = tk := ⟨_, rfl⟩
  have htn : takes (Siftm.flip p) x = !tk := by rw [takes_flip hm, htk]
  have hbn : (tk == !tk) = false := by cases tk <;> rfl
  have may1 := Lib.hid (fun W => (hm ▸ may_any p W : Calls Try.prog 10 #[pdV p] W fun e w' => e = .returned (.bool true) ∧ Below W.heap.size W w'))
  have tak1 := Lib.hid (fun W => takes_l (p := p) (x := x) (t := tk) htk rfl rfl W)
  have tak2 := Lib.hid (fun W => takes_l (p := Siftm.flip p) (x := x) (t := !tk) htn (pdn_val p) rfl W)
  have kA := Lib.hid (fun W hW => keep_yes p hm A n c a S i hS hsi W hW)
  have kB := Lib.hid (fun W hW => keep_yes p hm B m d b T j hT htj W hW)
  have kAll := Lib.hid (fun A4 c4 W hW => keep_yes p hm A4 (n + m) c4 (a ++ b) (S ++ T) (i + j) hAll hlAll W hW)
  have kS := Lib.hid (fun A4 c4 W hW => keep_yes p hm A4 i c4 S S i hKS hsi W hW)
  have kN : Hid (∀ A4 c4 W, Lies W A4 i c4 S → Calls Try.prog 8 #[.agg (pdN p), .slice A4 i c4] W (KeptH W 0 [])) := fun A4 c4 W hW => keep_yes (Siftm.flip p) hm A4 i c4 S [] 0 hKN rfl W hW
  have sp := Lib.hid (fun W hW => split_yes p hm A n c a S O i k hS hsi hO hok W hW)
  have lAll := Lib.hid hlAll
  have lS := Lib.hid hsi
  clear hA hB hS hsi hT htj hO hok hAll hlAll hKS hKN htk htn hm hik hjm
  go_enter Try.func4, Try.ntmps4
  obtain ⟨q0, q1, q2, q3⟩ := pd_cells p _ _ p0.out
  have y0 := x0.out.c0
  have y1 := x0.out.c1
  obtain ⟨z0, z1, z2, z3⟩ := pdn_cells p _ _ nt0.out
  go_wp2_with fail
  refine (may1.out _).mono ?_
  rintro e w1 ⟨rfl, hb⟩
  have p1 := Lib.hid (p0.out.next hb)
  have x1 := Lib.hid (x0.out.next hb)
  have nt1 := Lib.hid (nt0.out.next hb)
  have lA1 := Lib.hid (lA0.out.next hb)
  have lB1 := Lib.hid (lB0.out.next hb)
  have k1 := Lib.hid (Below.after k0.out hb)
  clear hb  p0 x0 nt0 lA0 lB0 k0
  clear q0 q1 q2 q3 y0 y1 z0 z1 z2 z3
  go_wp2_with fail
  obtain ⟨W1, hW⟩ : ∃ W, w1 = W := ⟨_, rfl⟩
  rw [hW] at p1 x1 nt1 lA1 lB1 k1 ⊢
  clear hW
  obtain ⟨q0, q1, q2, q3⟩ := pd_cells p _ _ p1.out
  have y0 := x1.out.c0
  have y1 := x1.out.c1
  obtain ⟨z0, z1, z2, z3⟩ := pdn_cells p _ _ nt1.out
  have bq := Lib.hid (Below.refl W1.heap.size W1)
  have hof := Lib.hid (fun (y : World) (hy : Below W1.heap.size W1 y) => (⟨keep_cell hy q0, keep_cell hy q1, keep_cell hy q2, keep_cell hy q3, keep_cell hy y0, keep_cell hy y1, keep_cell hy z0, keep_cell hy z1, keep_cell hy z2, keep_cell hy z3, hy⟩ : y.cell? ⟨w.heap.size, 0, none⟩ = some (.int .u8 p.k) ∧ y.cell? ⟨w.heap.size, 1, none⟩ = some (K p.a) ∧ y.cell? ⟨w.heap.size, 2, none⟩ = some (K p.b) ∧ y.cell? ⟨w.heap.size, 3, none⟩ = some (.bool p.n) ∧ y.cell? ⟨w.heap.size + 1, 0, none⟩ = some (K x.1) ∧ y.cell? ⟨w.heap.size + 1, 1, none⟩ = some (K x.2) ∧ y.cell? ⟨w.heap.size + 1 + 1, 0, none⟩ = some (.int .u8 p.k) ∧ y.cell? ⟨w.heap.size + 1 + 1, 1, none⟩ = some (K p.a) ∧ y.cell? ⟨w.heap.size + 1 + 1, 2, none⟩ = some (K p.b) ∧ y.cell? ⟨w.heap.size + 1 + 1, 3, none⟩ = some (.bool !p.n) ∧ Below W1.heap.size W1 y))
  go_region_held3 (fun w' => w'.cell? ⟨w.heap.size, 0, none⟩ = some (.int .u8 p.k) ∧ w'.cell? ⟨w.heap.size, 1, none⟩ = some (K p.a) ∧ w'.cell? ⟨w.heap.size, 2, none⟩ = some (K p.b) ∧ w'.cell? ⟨w.heap.size, 3, none⟩ = some (.bool p.n) ∧ w'.cell? ⟨w.heap.size + 1, 0, none⟩ = some (K x.1) ∧ w'.cell? ⟨w.heap.size + 1, 1, none⟩ = some (K x.2) ∧ w'.cell? ⟨w.heap.size + 1 + 1, 0, none⟩ = some (.int .u8 p.k) ∧ w'.cell? ⟨w.heap.size + 1 + 1, 1, none⟩ = some (K p.a) ∧ w'.cell? ⟨w.heap.size + 1 + 1, 2, none⟩ = some (K p.b) ∧ w'.cell? ⟨w.heap.size + 1 + 1, 3, none⟩ = some (.bool !p.n) ∧ Below W1.heap.size W1 w')
    (first | exact ⟨q0, q1, q2, q3, y0, y1, z0, z1, z2, z3, bq.out.drew⟩ | assumption)
    ((go_at_call 12; (first | (with_reducible refine (tak1.out _).mono ?_) | (with_reducible refine (tak2.out _).mono ?_)); rintro e w' ⟨rfl, hb⟩; have bb := Below.after (And.right (And.right (And.right (And.right (And.right (And.right (And.right (And.right (And.right (And.right (by assumption))))))))))) hb; have hS' := hof.out _ bb; clear bb hb))
  obtain ⟨_, _, _, _, _, _, _, _, _, _, hb⟩ := hS'
  clear q0 q1 q2 q3 y0 y1 z0 z1 z2 z3
  clear hof bq
  obtain ⟨w2, hW⟩ : ∃ W, w' = W := ⟨_, rfl⟩
  rw [hW] at hb ⊢
  clear hW
  have p2 := Lib.hid (p1.out.next hb)
  have x2 := Lib.hid (x1.out.next hb)
  have nt2 := Lib.hid (nt1.out.next hb)
  have lA2 := Lib.hid (lA1.out.next hb)
  have lB2 := Lib.hid (lB1.out.next hb)
  have k2 := Lib.hid (Below.after k1.out hb)
  clear hb  p1 x1 nt1 lA1 lB1 k1
  obtain ⟨q0, q1, q2, q3⟩ := pd_cells p _ _ p2.out
  have y0 := x2.out.c0
  have y1 := x2.out.c1
  obtain ⟨z0, z1, z2, z3⟩ := pdn_cells p _ _ nt2.out
  go_wp2_with fail
  refine (kA.out _ lA2.out).mono ?_
  rintro e w3 ⟨A2, c2, rfl, hh, _, hb⟩
  have p3 := Lib.hid (p2.out.next hb)
  have x3 := Lib.hid (x2.out.next hb)
  have nt3 := Lib.hid (nt2.out.next hb)
  have lA3 := Lib.hid (lA2.out.next hb)
  have lB3 := Lib.hid (lB2.out.next hb)
  have k3 := Lib.hid (Below.after k2.out hb)
  have s3 := Lib.hid hh
  clear hb hh p2 x2 nt2 lA2 lB2 k2
  clear q0 q1 q2 q3 y0 y1 z0 z1 z2 z3
  obtain ⟨q0, q1, q2, q3⟩ := pd_cells p _ _ p3.out
  have y0 := x3.out.c0
  have y1 := x3.out.c1
  obtain ⟨z0, z1, z2, z3⟩ := pdn_cells p _ _ nt3.out
  go_wp2_with fail
  refine (kB.out _ lB3.out).mono ?_
  rintro e w4 ⟨A3, c3, rfl, hh, _, hb⟩
  have p4 := Lib.hid (p3.out.next hb)
  have x4 := Lib.hid (x3.out.next hb)
  have nt4 := Lib.hid (nt3.out.next hb)
  have lA4 := Lib.hid (lA3.out.next hb)
  have lB4 := Lib.hid (lB3.out.next hb)
  have s4 := Lib.hid (s3.out.next hb)
  have k4 := Lib.hid (Below.after k3.out hb)
  have t4 := Lib.hid hh
  clear hb hh p3 x3 nt3 lA3 lB3 s3 k3
  clear q0 q1 q2 q3 y0 y1 z0 z1 z2 z3
  go_wp2_with fail
  obtain ⟨W5, hW⟩ : ∃ W, w4 = W := ⟨_, rfl⟩
  rw [hW] at p4 x4 nt4 lA4 lB4 s4 t4 k4 ⊢
  clear hW
  obtain ⟨q0, q1, q2, q3⟩ := pd_cells p _ _ p4.out
  have bq := Lib.hid (Below.refl W5.heap.size W5)
  have hof := Lib.hid (fun (y : World) (hy : Below W5.heap.size W5 y) => (⟨keep_cell hy q0, keep_cell hy q1, keep_cell hy q2, keep_cell hy q3, hy⟩ : y.cell? ⟨w.heap.size, 0, none⟩ = some (.int .u8 p.k) ∧ y.cell? ⟨w.heap.size, 1, none⟩ = some (K p.a) ∧ y.cell? ⟨w.heap.size, 2, none⟩ = some (K p.b) ∧ y.cell? ⟨w.heap.size, 3, none⟩ = some (.bool p.n) ∧ Below W5.heap.size W5 y))
  have ownA := Lib.hid (fun (y : World) (hy : Below W5.heap.size W5 y) => own6_any A n c a y (lA4.out.next hy))
  go_region_held3 (fun w' => w'.cell? ⟨w.heap.size, 0, none⟩ = some (.int .u8 p.k) ∧ w'.cell? ⟨w.heap.size, 1, none⟩ = some (K p.a) ∧ w'.cell? ⟨w.heap.size, 2, none⟩ = some (K p.b) ∧ w'.cell? ⟨w.heap.size, 3, none⟩ = some (.bool p.n) ∧ Below W5.heap.size W5 w')
    (first | exact ⟨q0, q1, q2, q3, bq.out.drew⟩ | assumption)
    (first
      | (go_at_call 7; refine (ownA.out _ (And.right (And.right (And.right (And.right (by assumption)))))).mono ?_; rintro e u1 ⟨v1, rfl, hown, hb⟩; have ua := Lib.hid (Below.after (And.right (And.right (And.right (And.right (by assumption))))) hb); have o1 : Hid (u1.ownsRow W5.heap.size 25 2 v1 n (flat a)) := hown; have hS' := hof.out _ ua.out; clear hb hown)
      | (refine step_append_row (by rfl) _ _ 26 (by rfl) W5.heap.size 25 i0 (.agg #[.int .i64 0, .int .i64 0]) 2 16 Try.underlying26 hi hz0 hz1 hz2 rfl (by decide) v1 n (flat a) (by rfl) o1.out B m d (flat b) (by rfl) lB4.out.nil lB4.out.cap (by rw [flat_length, bl.out]) _ (lB4.out.row.next ua.out) (flat_one b) (by unfold maxLen; omega) (by omega) ua.out.size ?_; intro v2 u2 hown hgrow; have ub := Lib.hid (ua.out.grown hgrow ua.out.size (fun r e => (o1.out.lt r e).1)); obtain ⟨A4, c4, rfl, hL, _⟩ := Lies.of_own (l := a ++ b) hlab.out h9 (by rw [flat_append]; exact hown); have hL4 := Lib.hid hL; have hS' := hof.out _ ub.out; clear hown hgrow hL)
      | (go_at_call 8; refine (kAll.out A4 c4 _ hL4.out).mono ?_; rintro e w' ⟨A5, c5, rfl, hh, _, hb⟩; have hall := Lib.hid hh; have uc := Below.after ub.out hb; have hS' := hof.out _ uc; clear hh hb uc))
  obtain ⟨_, _, _, _, hb⟩ := hS'
  clear q0 q1 q2 q3
  clear hof bq ownA ua o1 ub hL4
  obtain ⟨w5, hW⟩ : ∃ W, w' = W := ⟨_, rfl⟩
  rw [hW] at hb hall ⊢
  clear hW
  have p5 := Lib.hid (p4.out.next hb)
  have x5 := Lib.hid (x4.out.next hb)
  have nt5 := Lib.hid (nt4.out.next hb)
  have lA5 := Lib.hid (lA4.out.next hb)
  have lB5 := Lib.hid (lB4.out.next hb)
  have s5 := Lib.hid (s4.out.next hb)
  have t5 := Lib.hid (t4.out.next hb)
  have k5 := Lib.hid (Below.after k4.out hb)
  clear hb  p4 x4 nt4 lA4 lB4 s4 t4 k4
  have all5 := hall
  clear hall
  obtain ⟨q0, q1, q2, q3⟩ := pd_cells p _ _ p5.out
  obtain ⟨z0, z1, z2, z3⟩ := pdn_cells p _ _ nt5.out
  go_wp2_with fail
  refine (kS.out A2 c2 _ s5.out).mono ?_
  rintro e w6 ⟨A6, c6, rfl, hh, _, hb⟩
  have p6 := Lib.hid (p5.out.next hb)
  have x6 := Lib.hid (x5.out.next hb)
  have nt6 := Lib.hid (nt5.out.next hb)
  have lA6 := Lib.hid (lA5.out.next hb)
  have lB6 := Lib.hid (lB5.out.next hb)
  have s6 := Lib.hid (s5.out.next hb)
  have t6 := Lib.hid (t5.out.next hb)
  have all6 := Lib.hid (all5.out.next hb)
  have k6 := Lib.hid (Below.after k5.out hb)
  have ag6 := Lib.hid hh
  clear hb hh p5 x5 nt5 lA5 lB5 s5 t5 all5 k5
  clear q0 q1 q2 q3 z0 z1 z2 z3
  obtain ⟨q0, q1, q2, q3⟩ := pd_cells p _ _ p6.out
  obtain ⟨z0, z1, z2, z3⟩ := pdn_cells p _ _ nt6.out
  go_wp2_with fail
  refine (kN.out A2 c2 _ s6.out).mono ?_
  rintro e w7 ⟨A7, c7, rfl, hh, _, hb⟩
  have p7 := Lib.hid (p6.out.next hb)
  have x7 := Lib.hid (x6.out.next hb)
  have nt7 := Lib.hid (nt6.out.next hb)
  have lA7 := Lib.hid (lA6.out.next hb)
  have lB7 := Lib.hid (lB6.out.next hb)
  have s7 := Lib.hid (s6.out.next hb)
  have t7 := Lib.hid (t6.out.next hb)
  have all7 := Lib.hid (all6.out.next hb)
  have ag7 := Lib.hid (ag6.out.next hb)
  have k7 := Lib.hid (Below.after k6.out hb)
  have no7 := Lib.hid hh
  clear hb hh p6 x6 nt6 lA6 lB6 s6 t6 all6 ag6 k6
  clear q0 q1 q2 q3 z0 z1 z2 z3
  obtain ⟨q0, q1, q2, q3⟩ := pd_cells p _ _ p7.out
  go_wp2_with fail
  refine (sp.out _ lA7.out).mono ?_
  rintro e w8 ⟨A8, c8, A9, c9, rfl, hh, _, hb⟩
  have s8 := Lib.hid (s7.out.next hb)
  have t8 := Lib.hid (t7.out.next hb)
  have all8 := Lib.hid (all7.out.next hb)
  have ag8 := Lib.hid (ag7.out.next hb)
  have k8 := Lib.hid (Below.after k7.out hb)
  have ins8 := Lib.hid hh
  clear hb hh s7 t7 all7 ag7 k7
  clear q0 q1 q2 q3
  have base_s := s8
  have base_ag := ag8
  have base_ins := ins8
  have base_all := all8
  have base_k := k8
  go_wp2_with fail
  refine (own6_any A2 i c2 S _ s8.out).mono ?_
  rintro e w9 ⟨v1, rfl, hown, hb⟩
  have o1 := Lib.hid hown
  have ub := Lib.hid hb
  have s9 := Lib.hid (s8.out.next hb)
  have t9 := Lib.hid (t8.out.next hb)
  have all9 := Lib.hid (all8.out.next hb)
  have ag9 := Lib.hid (ag8.out.next hb)
  have ins9 := Lib.hid (ins8.out.next hb)
  have k9 := Lib.hid (Below.after k8.out hb)
  clear hb  s8 t8 all8 ag8 ins8 k8
  clear hown
  go_wp2_with (at_builtin; refine wpList_append_row rfl _ _ 26 rfl w8.heap.size 25 i0 (.agg #[.int .i64 0, .int .i64 0]) 2 16 Try.underlying26 hi hz0 hz1 hz2 rfl (by decide) _ i (flat S) rfl o1.out A3 j c3 (flat T) rfl t9.out.nil t9.out.cap ?k1 _ t9.out.row (flat_one T) (by unfold maxLen; omega) (by omega) ub.out.size ?_)
  case k1 => rw [flat_length, t9.out.len]
  intro v2 w10 hown hgrow
  have uc := Lib.hid (ub.out.grown hgrow ub.out.size (fun r e => (o1.out.lt r e).1))
  obtain ⟨AX, cX, rfl, hL, _⟩ := Lies.of_own (l := S ++ T) lAll.out ij8 (by rw [flat_append]; exact hown)
  clear s9 t9 all9 ag9 ins9 k9
  have s10 := Lib.hid (base_s.out.next uc.out)
  have ag10 := Lib.hid (base_ag.out.next uc.out)
  have ins10 := Lib.hid (base_ins.out.next uc.out)
  have all10 := Lib.hid (base_all.out.next uc.out)
  have k10 := Lib.hid (Below.after base_k.out uc.out)
  have xx10 := Lib.hid hL
  clear hown hgrow hL o1 ub uc base_s base_ag base_ins base_all base_k
  go_wp2_with fail
  refine (same4_yes A5 AX (i + j) c5 cX (S ++ T) lAll.out ij9 _ all10.out.row xx10.out.row).mono ?_
  rintro e w11 ⟨rfl, hb⟩
  have s11 := Lib.hid (s10.out.next hb)
  have ag11 := Lib.hid (ag10.out.next hb)
  have ins11 := Lib.hid (ins10.out.next hb)
  have k11 := Lib.hid (Below.after k10.out hb)
  clear hb  s10 ag10 ins10 k10
  go_wp2_with fail
  refine (same4_yes A6 A2 i c6 c2 S lS.out i9 _ ag11.out.row s11.out.row).mono ?_
  rintro e w12 ⟨rfl, hb⟩
  have s12 := Lib.hid (s11.out.next hb)
  have ins12 := Lib.hid (ins11.out.next hb)
  have k12 := Lib.hid (Below.after k11.out hb)
  clear hb  s11 ins11 k11
  go_wp2_with fail
  refine (same4_yes A8 A2 i c8 c2 S lS.out i9 _ ins12.out.row s12.out.row).mono ?_
  rintro e w13 ⟨rfl, hb⟩
  have k13 := Lib.hid (Below.after k12.out hb)
  clear hb  k12
  go_wp2_with fail
  refine (alive6_any _).mono ?_
  rintro e w14 ⟨rfl, hb⟩
  have k14 := Lib.hid (Below.after k13.out hb)
  clear hb  k13
  go_wp2
  go_ret
  exact ⟨rfl, k14.out⟩
end Go.Proofs.Ytjjhmenkgcldeaa
