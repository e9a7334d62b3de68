/- Proved here: for every order, every policy and every three rows of pairs the law RowsetThree of layer 5 returns true (three rows come to the same, whichever two come together first, by PoSum whichever is the first one, and all sorted at once); it changes nothing that lay. Condition: package mix's table of steps holds what its initialiser lays (tied to the program's text by the card). -/
import Derived.Test.YtjnnfineebabaaaDoorJS
import Derived.Test.YtjnnfineebabaaaDoorL5Math
import Derived.Test.YtjnnfineebabaaaDoorL4Ans
import Derived.Test.YtjnnfineebabaaaDoorJV
import Derived.Test.YtjnnfineebabaaaDoorL5Open
import Derived.Test.YtjnnfineebabaaaDoorRows
import Derived.Below
import Derived.ChangeOld
import Derived.Test.YtjnnfineebabaaaDoorTie
import Derived.Test.YtjnnfineebabaaaDoorCards
/- The contract of the law's own sorting of three rows. -/
namespace Go.Proofs.YtjnnfineebabaaaDoor
open Go.RowKit Go.Shelf Go.Proofs.Rowm

/-- three rows, made -/
def ThreeH (W : World) (n m k : Nat) (x y z : List Pr) (e : Ending) (w' : World) : Prop :=
  ∃ A1 c1 A2 c2 A3 c3, e = .returned (.tuple #[.slice A1 n c1, .slice A2 m c2, .slice A3 k c3, .bool true]) ∧ Here w' A1 n c1 x ∧ Here w' A2 m c2 y ∧ Here w' A3 k c3 z ∧ Below W.heap.size W w'

set_option maxHeartbeats 2000000 in
theorem sorted_yes (o : Nat) (o1 : 1 ≤ o) (o7 : o ≤ 7) (A B D : Option Addr) (n c m d k f : Nat) (a b l x y z : List Pr) (n' m' k' : Nat) (hx : sortL o 2 a = x) (hn : x.length = n') (hy : sortL o 2 b = y) (hm : y.length = m') (hz : sortL o 2 l = z) (hk : z.length = k') (w : World) (hA : Here w A n c a) (hB : Here w B m d b) (hD : Here w D k f l) :
    Calls Tryd.prog 24 #[.int .u8 o, .slice A n c, .slice B m d, .slice D k f] w (ThreeH w n' m' k' x y z) := by
  have c1 := Lib.hid (sort_yes o 2 o1 o7 (by decide) (by decide) A n c a x n' hx hn w hA)
  have c2 := Lib.hid (fun W h => sort_yes o 2 o1 o7 (by decide) (by decide) B m d b y m' hy hm W h)
  have c3 := Lib.hid (fun W h => sort_yes o 2 o1 o7 (by decide) (by decide) D k f l z k' hz hk W h)
  have rb := Lib.hid hB
  have rd := Lib.hid hD
  clear hx hn hy hm hz hk hA hB hD
  go_enter Tryd.func24, Tryd.ntmps24
  go_wp2_with fail
  refine c1.out.mono ?_
  rintro e w1 ⟨A1, d1, rfl, hh, hb⟩
  have x1 := Lib.hid hh
  have b1 := Lib.hid hb
  have rb1 := Lib.hid (rb.out.next hb)
  have rd1 := Lib.hid (rd.out.next hb)
  clear hh hb c1 rb rd
  go_wp2_with fail
  refine (c2.out _ rb1.out).mono ?_
  rintro e w2 ⟨A2, d2, rfl, hh, hb⟩
  have x2 := Lib.hid (x1.out.next hb)
  have y2 := Lib.hid hh
  have b2 := Lib.hid (Below.after b1.out hb)
  have rd2 := Lib.hid (rd1.out.next hb)
  clear hh hb c2 rb1 rd1 x1 b1
  go_wp2_with fail
  refine (c3.out _ rd2.out).mono ?_
  rintro e w3 ⟨A3, d3, rfl, hh, hb⟩
  have x3 := Lib.hid (x2.out.next hb)
  have y3 := Lib.hid (y2.out.next hb)
  have z3 := Lib.hid hh
  have b3 := Lib.hid (Below.after b2.out hb)
  clear hh hb c3 rd2 x2 y2 b2
  go_wp2
  refine bodyPost_ret (v := .tuple #[.slice A1 n' d1, .slice A2 m' d2, .slice A3 k' d3, .bool true]) (by simp [results, Tryd.results24, go_sem]) rfl ?_
  exact ⟨_, _, _, _, _, _, rfl, x3.out, y3.out, z3.out, b3.out⟩
end Go.Proofs.YtjnnfineebabaaaDoor
/- Own of a row of pairs: what it makes is the call's own. -/
namespace Go.Proofs.YtjnnfineebabaaaDoor
open Go.RowKit Go.Shelf Go.Proofs.Rowm

/-- a row of the call's own -/
def OwnH (W : World) (n : Nat) (l : List Pr) (e : Ending) (w' : World) : Prop :=
  ∃ v, e = .returned v ∧ w'.ownsRow W.heap.size 42 2 v n (flat l) ∧ Below W.heap.size W w'

set_option maxHeartbeats 1000000 in
theorem own4_owned (A : Option Addr) (n c : Nat) (l : List Pr) (w : World) (h : Here w A n c l) :
    Calls Tryd.prog 8 #[.slice A n c] w (OwnH w n l) := by
  obtain ⟨i0, hi, hz0, hz1, hz2⟩ := info_parts info_pair
  have h' := Lib.hid h
  have hf := h.few
  clear h
  go_enter Tryd.func8, Tryd.ntmps8
  go_wp2_with (at_builtin; refine wpList_append_row rfl _ _ 22 rfl w.heap.size 42 i0 (.agg #[.int .i64 0, .int .i64 0]) 2 16 Tryd.underlying22 hi hz0 hz1 hz2 rfl (by decide) _ 0 [] rfl (World.ownsRow_nil _ _ _ _) A n c (flat l) rfl h'.out.nil h'.out.cap ?c1 _ h'.out.row (flat_one l) (by unfold maxLen; omega) (by omega) (Nat.le_refl _) ?_)
  case c1 => rw [flat_length, h'.out.len]
  intro v w1 hown hgrow
  have hb := (Below.refl w.heap.size w).grown hgrow (Nat.le_refl _) (fun r e => by simp [Value.ownBlock] at e)
  have o1 : Hid (w1.ownsRow w.heap.size 42 2 v n (flat l)) := by show w1.ownsRow w.heap.size 42 2 v n (flat l); simpa using hown
  have b1 := Lib.hid hb
  clear hown hgrow hb
  go_wp2
  go_ret
  exact ⟨_, rfl, o1.out, b1.out⟩

/-- a row of the call's own lies -/
theorem here_owned {w w' : World} {v : Value} {n : Nat} {l : List Pr} (hl : l.length = n) (h9 : n ≤ 900) (h0 : 0 < w.heap.size) (hs : Steps w) (ho : w'.ownsRow w.heap.size 42 2 v n (flat l)) (hb : Below w.heap.size w w') : ∃ A c, v = .slice A n c ∧ Here w' A n c l := by
  obtain ⟨A', c', rfl, k1, k2, k3⟩ := own_slice ho
  exact ⟨_, _, rfl, Here.mk hl h9 k1 k3 (Nat.lt_of_lt_of_le h0 hb.size) (hs.below h0 hb) (Row.of_own ho)⟩
end Go.Proofs.YtjnnfineebabaaaDoor
/- The statement RowsetThree of layer 5, walked. -/
namespace Go.Proofs.YtjnnfineebabaaaDoor
open Go.RowKit Go.Shelf Go.Proofs.Rowm

set_option maxRecDepth 100000 in
set_option maxHeartbeats 4000000 in
theorem setThree_many (o p : Nat) (A B D : Option Addr) (n c m d k f : Nat) (h : 100 < n ∨ 100 < m ∨ 100 < k) (hn : n ≤ maxLen) (hm : m ≤ maxLen) (hk : k ≤ maxLen) (w : World) (h0 : 0 < w.heap.size) (hs : Steps w) :
    Calls Tryd.prog 5 #[.int .u8 o, .int .u8 p, .slice A n c, .slice B m d, .slice D k f] w fun e w' => e = .returned (.bool true) ∧ Below w.heap.size w w' := by
  unfold maxLen at hn hm hk
  have hc := Lib.hid (alive5_any w h0 hs)
  clear hs
  by_cases h1 : 100 < n
  · have hd : decide ((100 : Int) < (n : Int)) = true := decide_eq_true (by omega)
    clear h
    go_enter Tryd.func5, Tryd.ntmps5
    go_wp2_with fail
    refine hc.out.mono ?_
    rintro e w1 ⟨rfl, hb⟩
    have b1 := Lib.hid hb
    clear hb hc
    go_wp2
    go_ret
    exact ⟨rfl, b1.out⟩
  · have hd : decide ((100 : Int) < (n : Int)) = false := decide_eq_false (by omega)
    by_cases h2 : 100 < m
    · have hd2 : decide ((100 : Int) < (m : Int)) = true := decide_eq_true (by omega)
      clear h
      go_enter Tryd.func5, Tryd.ntmps5
      go_wp2_with fail
      refine hc.out.mono ?_
      rintro e w1 ⟨rfl, hb⟩
      have b1 := Lib.hid hb
      clear hb hc
      go_wp2
      go_ret
      exact ⟨rfl, b1.out⟩
    · have hd2 : decide ((100 : Int) < (m : Int)) = false := decide_eq_false (by omega)
      have hd3 : decide ((100 : Int) < (k : Int)) = true := decide_eq_true (by omega)
      clear h
      go_enter Tryd.func5, Tryd.ntmps5
      go_wp2_with fail
      refine hc.out.mono ?_
      rintro e w1 ⟨rfl, hb⟩
      have b1 := Lib.hid hb
      clear hb hc
      go_wp2
      go_ret
      exact ⟨rfl, b1.out⟩

set_option maxRecDepth 100000 in
set_option maxHeartbeats 40000000 in
theorem setThree_few (o p : Nat) (A B D : Option Addr) (n c m d k f : Nat) (a b l : List Pr) (hn : n ≤ 100) (hm : m ≤ 100) (hk : k ≤ 100) (ho : o ≤ 255) (hp : p ≤ 255) (w : World) (hA : Here w A n c a) (hB : Here w B m d b) (hD : Here w D k f l) :
    Calls Tryd.prog 5 #[.int .u8 o, .int .u8 p, .slice A n c, .slice B m d, .slice D k f] w fun e w' => e = .returned (.bool true) ∧ Below w.heap.size w w' := by
  have hd : decide ((100 : Int) < (n : Int)) = false := decide_eq_false (by omega)
  have hd2 : decide ((100 : Int) < (m : Int)) = false := decide_eq_false (by omega)
  have hd3 : decide ((100 : Int) < (k : Int)) = false := decide_eq_false (by omega)
  obtain ⟨i0, hi, hz0, hz1, hz2⟩ := info_parts info_pair
  obtain ⟨q, hq⟩ : ∃ q : Nat, 1 + o % 7 = q := ⟨_, rfl⟩
  obtain ⟨r, hr⟩ : ∃ r : Nat, 1 + p % 3 = r := ⟨_, rfl⟩
  have q1 : 1 ≤ q := by omega
  have q7 : q ≤ 7 := by omega
  have r1 : 1 ≤ r := by omega
  have r3 : r ≤ 3 := by omega
  have hmq : 1 + (o : Int) % 7 = (q : Int) := by omega
  have hmr : 1 + (p : Int) % 3 = (r : Int) := by omega
  clear hq hr
  obtain ⟨x, hx⟩ : ∃ x, sortL q 2 a = x := ⟨_, rfl⟩
  have ix : incr q x := hx ▸ sortL_incr q 2 a
  obtain ⟨nx, hnx⟩ : ∃ k, x.length = k := ⟨_, rfl⟩
  have lx : nx ≤ 100 := by have := len_sortL q 2 a; rw [hx, hnx, hA.len] at this; omega
  have mx : mayB q x = true := mayB_incr q1 q7 ix
  obtain ⟨y, hy⟩ : ∃ x, sortL q 2 b = x := ⟨_, rfl⟩
  have iy : incr q y := hy ▸ sortL_incr q 2 b
  obtain ⟨ny, hny⟩ : ∃ k, y.length = k := ⟨_, rfl⟩
  have ly : ny ≤ 100 := by have := len_sortL q 2 b; rw [hy, hny, hB.len] at this; omega
  have my : mayB q y = true := mayB_incr q1 q7 iy
  obtain ⟨z, hz⟩ : ∃ x, sortL q 2 l = x := ⟨_, rfl⟩
  have iz : incr q z := hz ▸ sortL_incr q 2 l
  obtain ⟨nz, hnz⟩ : ∃ k, z.length = k := ⟨_, rfl⟩
  have lz : nz ≤ 100 := by have := len_sortL q 2 l; rw [hz, hnz, hD.len] at this; omega
  have mz : mayB q z = true := mayB_incr q1 q7 iz
  obtain ⟨u1, hu1⟩ : ∃ l, unionL q r x y = l := ⟨_, rfl⟩
  have iu1 : incr q u1 := hu1 ▸ unionL_incr ix iy
  obtain ⟨nu1, hnu1⟩ : ∃ k, u1.length = k := ⟨_, rfl⟩
  have lu1 : nu1 ≤ nx + ny := by have := len_union_meet (p := r) ix iy; rw [hu1, hnu1, hnx, hny] at this; omega
  have mu1 : mayB q u1 = true := mayB_incr q1 q7 iu1
  obtain ⟨u, hu⟩ : ∃ l, unionL q r u1 z = l := ⟨_, rfl⟩
  have iu : incr q u := hu ▸ unionL_incr iu1 iz
  obtain ⟨nu, hnu⟩ : ∃ k, u.length = k := ⟨_, rfl⟩
  have lu : nu ≤ nu1 + nz := by have := len_union_meet (p := r) iu1 iz; rw [hu, hnu, hnu1, hnz] at this; omega
  have mu : mayB q u = true := mayB_incr q1 q7 iu
  obtain ⟨v1, hv1⟩ : ∃ l, unionL q r y z = l := ⟨_, rfl⟩
  have iv1 : incr q v1 := hv1 ▸ unionL_incr iy iz
  obtain ⟨nv1, hnv1⟩ : ∃ k, v1.length = k := ⟨_, rfl⟩
  have lv1 : nv1 ≤ ny + nz := by have := len_union_meet (p := r) iy iz; rw [hv1, hnv1, hny, hnz] at this; omega
  have mv1 : mayB q v1 = true := mayB_incr q1 q7 iv1
  obtain ⟨m1, hm1⟩ : ∃ l, meetL q r x y = l := ⟨_, rfl⟩
  have im1 : incr q m1 := hm1 ▸ meetL_incr ix iy
  obtain ⟨nm1, hnm1⟩ : ∃ k, m1.length = k := ⟨_, rfl⟩
  have lm1 : nm1 ≤ nx + ny := by have := len_union_meet (p := r) ix iy; rw [hm1, hnm1, hnx, hny] at this; omega
  have mm1 : mayB q m1 = true := mayB_incr q1 q7 im1
  obtain ⟨g, hg⟩ : ∃ l, meetL q r m1 z = l := ⟨_, rfl⟩
  have ig : incr q g := hg ▸ meetL_incr im1 iz
  obtain ⟨ng, hng⟩ : ∃ k, g.length = k := ⟨_, rfl⟩
  have lg : ng ≤ nm1 + nz := by have := len_union_meet (p := r) im1 iz; rw [hg, hng, hnm1, hnz] at this; omega
  have mg : mayB q g = true := mayB_incr q1 q7 ig
  obtain ⟨n1, hn1⟩ : ∃ l, meetL q r y z = l := ⟨_, rfl⟩
  have in1 : incr q n1 := hn1 ▸ meetL_incr iy iz
  obtain ⟨nn1, hnn1⟩ : ∃ k, n1.length = k := ⟨_, rfl⟩
  have ln1 : nn1 ≤ ny + nz := by have := len_union_meet (p := r) iy iz; rw [hn1, hnn1, hny, hnz] at this; omega
  have mn1 : mayB q n1 = true := mayB_incr q1 q7 in1
  obtain ⟨s, hs⟩ : ∃ l, unionL q 3 x y = l := ⟨_, rfl⟩
  have is : incr q s := hs ▸ unionL_incr ix iy
  obtain ⟨ns, hns⟩ : ∃ k, s.length = k := ⟨_, rfl⟩
  have ls : ns ≤ nx + ny := by have := len_union_meet (p := 3) ix iy; rw [hs, hns, hnx, hny] at this; omega
  have ms : mayB q s = true := mayB_incr q1 q7 is
  have e1 : unionL q r x v1 = u := by rw [← hv1, ← hu, ← hu1]; exact (unionL_assoc ix iy iz).symm
  have e2 : meetL q r x n1 = g := by rw [← hn1, ← hg, ← hm1]; exact (meetL_assoc ix iy iz).symm
  have e3 : unionL q 3 y x = s := by rw [← hs]; exact unionL_comm iy ix
  have e4 : sortL q r (x ++ y ++ z) = u := by rw [sort_three ix iy iz, hu1, hu]
  have e5 : Hid ((x ++ y ++ z).length = nx + ny + nz) := by show (x ++ y ++ z).length = _; simp [hnx, hny, hnz]; try omega
  have e6 : Hid (flat (x ++ y ++ z) = flat x ++ (flat y ++ flat z)) := by show flat (x ++ y ++ z) = _; rw [flat_append, flat_append, List.append_assoc]
  have Cu1 := Lib.hid (fun A B c d W h1 h2 => union_yes q r r1 r3 A B nx c ny d x y u1 nu1 mx my hu1 hnu1 (by omega) W h1 h2)
  have Cu := Lib.hid (fun A B c d W h1 h2 => union_yes q r r1 r3 A B nu1 c nz d u1 z u nu mu1 mz hu hnu (by omega) W h1 h2)
  have Cv1 := Lib.hid (fun A B c d W h1 h2 => union_yes q r r1 r3 A B ny c nz d y z v1 nv1 my mz hv1 hnv1 (by omega) W h1 h2)
  have Cv := Lib.hid (fun A B c d W h1 h2 => union_yes q r r1 r3 A B nx c nv1 d x v1 u nu mx mv1 e1 hnu (by omega) W h1 h2)
  have Cm1 := Lib.hid (fun A B c d W h1 h2 => meet_yes q r r1 r3 A B nx c ny d x y m1 nm1 mx my hm1 hnm1 (by omega) W h1 h2)
  have Cm := Lib.hid (fun A B c d W h1 h2 => meet_yes q r r1 r3 A B nm1 c nz d m1 z g ng mm1 mz hg hng (by omega) W h1 h2)
  have Cn1 := Lib.hid (fun A B c d W h1 h2 => meet_yes q r r1 r3 A B ny c nz d y z n1 nn1 my mz hn1 hnn1 (by omega) W h1 h2)
  have Cn := Lib.hid (fun A B c d W h1 h2 => meet_yes q r r1 r3 A B nx c nn1 d x n1 g ng mx mn1 e2 hng (by omega) W h1 h2)
  have Cs := Lib.hid (fun A B c d W h1 h2 => union_yes q 3 (by decide) (by decide) A B nx c ny d x y s ns mx my hs hns (by omega) W h1 h2)
  have Ct := Lib.hid (fun A B c d W h1 h2 => union_yes q 3 (by decide) (by decide) A B ny c nx d y x s ns my mx e3 hns (by omega) W h1 h2)
  have Co := Lib.hid (fun A c W h1 => sort_yes q r q1 q7 r1 r3 A (nx + ny + nz) c (x ++ y ++ z) u nu e4 hnu W h1)
  have C0 := Lib.hid (fun W h1 h2 h3 => sorted_yes q q1 q7 A B D n c m d k f a b l x y z nx ny nz hx hnx hy hny hz hnz W h1 h2 h3)
  have HU := Lib.hid hnu
  have HG := Lib.hid hng
  have HS := Lib.hid hns
  have HX := Lib.hid hnx
  have HY := Lib.hid hny
  have HZ := Lib.hid hnz
  have nu9 : nu ≤ 1000 := by omega
  have ng9 : ng ≤ 1000 := by omega
  have ns9 : ns ≤ 1000 := by omega
  have RA := Lib.hid hA
  have RB := Lib.hid hB
  have RD := Lib.hid hD
  have h0 := Lib.hid hA.pos
  have hst := Lib.hid hA.steps
  have k0 := Lib.hid (Below.refl w.heap.size w)
  clear e1 e2 e3 e4 hA hB hD hx ix hnx mx hy iy hny my hz iz hnz mz hu1 iu1 hnu1 mu1 hu iu hnu mu hv1 iv1 hnv1 mv1 hm1 im1 hnm1 mm1 hg ig hng mg hn1 in1 hnn1 mn1 hs is hns ms
  go_enter Tryd.func5, Tryd.ntmps5
  go_wp2_with fail
  refine (C0.out _ RA.out RB.out RD.out).mono ?_
  rintro e w1 ⟨Ax, cx, Ay, cy, Az, cz, rfl, hh1, hh2, hh3, hb⟩
  have k1 := Lib.hid (Below.after k0.out hb)
  have rx1 := Lib.hid hh1
  have ry1 := Lib.hid hh2
  have rz1 := Lib.hid hh3
  clear hb hh1 hh2 hh3 k0
  go_wp2_with fail
  refine (Cu1.out _ _ _ _ _ rx1.out ry1.out).mono ?_
  rintro e w2 ⟨Au1, cu1, rfl, hh, hb⟩
  have rx2 := Lib.hid (rx1.out.next hb)
  have ry2 := Lib.hid (ry1.out.next hb)
  have rz2 := Lib.hid (rz1.out.next hb)
  have k2 := Lib.hid (Below.after k1.out hb)
  have ru1_2 := Lib.hid hh
  clear hb hh rx1 ry1 rz1 k1
  go_wp2_with fail
  refine (Cu.out _ _ _ _ _ ru1_2.out rz2.out).mono ?_
  rintro e w3 ⟨Au, cu, rfl, hh, hb⟩
  have rx3 := Lib.hid (rx2.out.next hb)
  have ry3 := Lib.hid (ry2.out.next hb)
  have rz3 := Lib.hid (rz2.out.next hb)
  have k3 := Lib.hid (Below.after k2.out hb)
  have ru_3 := Lib.hid hh
  clear hb hh rx2 ry2 rz2 k2
  go_wp2_with fail
  refine (Cv1.out _ _ _ _ _ ry3.out rz3.out).mono ?_
  rintro e w4 ⟨Av1, cv1, rfl, hh, hb⟩
  have rx4 := Lib.hid (rx3.out.next hb)
  have ry4 := Lib.hid (ry3.out.next hb)
  have rz4 := Lib.hid (rz3.out.next hb)
  have ru_4 := Lib.hid (ru_3.out.next hb)
  have k4 := Lib.hid (Below.after k3.out hb)
  have rv1_4 := Lib.hid hh
  clear hb hh rx3 ry3 rz3 ru_3 k3
  go_wp2_with fail
  refine (Cv.out _ _ _ _ _ rx4.out rv1_4.out).mono ?_
  rintro e w5 ⟨Av, cv, rfl, hh, hb⟩
  have rx5 := Lib.hid (rx4.out.next hb)
  have ry5 := Lib.hid (ry4.out.next hb)
  have rz5 := Lib.hid (rz4.out.next hb)
  have ru_5 := Lib.hid (ru_4.out.next hb)
  have k5 := Lib.hid (Below.after k4.out hb)
  have rv_5 := Lib.hid hh
  clear hb hh rx4 ry4 rz4 ru_4 k4
  go_wp2_with fail
  refine (Cm1.out _ _ _ _ _ rx5.out ry5.out).mono ?_
  rintro e w6 ⟨Am1, cm1, rfl, hh, hb⟩
  have rx6 := Lib.hid (rx5.out.next hb)
  have ry6 := Lib.hid (ry5.out.next hb)
  have rz6 := Lib.hid (rz5.out.next hb)
  have ru_6 := Lib.hid (ru_5.out.next hb)
  have rv_6 := Lib.hid (rv_5.out.next hb)
  have k6 := Lib.hid (Below.after k5.out hb)
  have rm1_6 := Lib.hid hh
  clear hb hh rx5 ry5 rz5 ru_5 rv_5 k5
  go_wp2_with fail
  refine (Cm.out _ _ _ _ _ rm1_6.out rz6.out).mono ?_
  rintro e w7 ⟨Ag, cg, rfl, hh, hb⟩
  have rx7 := Lib.hid (rx6.out.next hb)
  have ry7 := Lib.hid (ry6.out.next hb)
  have rz7 := Lib.hid (rz6.out.next hb)
  have ru_7 := Lib.hid (ru_6.out.next hb)
  have rv_7 := Lib.hid (rv_6.out.next hb)
  have k7 := Lib.hid (Below.after k6.out hb)
  have rg_7 := Lib.hid hh
  clear hb hh rx6 ry6 rz6 ru_6 rv_6 k6
  go_wp2_with fail
  refine (Cn1.out _ _ _ _ _ ry7.out rz7.out).mono ?_
  rintro e w8 ⟨An1, cn1, rfl, hh, hb⟩
  have rx8 := Lib.hid (rx7.out.next hb)
  have ry8 := Lib.hid (ry7.out.next hb)
  have rz8 := Lib.hid (rz7.out.next hb)
  have ru_8 := Lib.hid (ru_7.out.next hb)
  have rv_8 := Lib.hid (rv_7.out.next hb)
  have rg_8 := Lib.hid (rg_7.out.next hb)
  have k8 := Lib.hid (Below.after k7.out hb)
  have rn1_8 := Lib.hid hh
  clear hb hh rx7 ry7 rz7 ru_7 rv_7 rg_7 k7
  go_wp2_with fail
  refine (Cn.out _ _ _ _ _ rx8.out rn1_8.out).mono ?_
  rintro e w9 ⟨Ah, ch, rfl, hh, hb⟩
  have rx9 := Lib.hid (rx8.out.next hb)
  have ry9 := Lib.hid (ry8.out.next hb)
  have rz9 := Lib.hid (rz8.out.next hb)
  have ru_9 := Lib.hid (ru_8.out.next hb)
  have rv_9 := Lib.hid (rv_8.out.next hb)
  have rg_9 := Lib.hid (rg_8.out.next hb)
  have k9 := Lib.hid (Below.after k8.out hb)
  have rh_9 := Lib.hid hh
  clear hb hh rx8 ry8 rz8 ru_8 rv_8 rg_8 k8
  go_wp2_with fail
  refine (Cs.out _ _ _ _ _ rx9.out ry9.out).mono ?_
  rintro e w10 ⟨As, cs, rfl, hh, hb⟩
  have rx10 := Lib.hid (rx9.out.next hb)
  have ry10 := Lib.hid (ry9.out.next hb)
  have rz10 := Lib.hid (rz9.out.next hb)
  have ru_10 := Lib.hid (ru_9.out.next hb)
  have rv_10 := Lib.hid (rv_9.out.next hb)
  have rg_10 := Lib.hid (rg_9.out.next hb)
  have rh_10 := Lib.hid (rh_9.out.next hb)
  have k10 := Lib.hid (Below.after k9.out hb)
  have rs_10 := Lib.hid hh
  clear hb hh rx9 ry9 rz9 ru_9 rv_9 rg_9 rh_9 k9
  go_wp2_with fail
  refine (Ct.out _ _ _ _ _ ry10.out rx10.out).mono ?_
  rintro e w11 ⟨At, ct, rfl, hh, hb⟩
  have rx11 := Lib.hid (rx10.out.next hb)
  have ry11 := Lib.hid (ry10.out.next hb)
  have rz11 := Lib.hid (rz10.out.next hb)
  have ru_11 := Lib.hid (ru_10.out.next hb)
  have rv_11 := Lib.hid (rv_10.out.next hb)
  have rg_11 := Lib.hid (rg_10.out.next hb)
  have rh_11 := Lib.hid (rh_10.out.next hb)
  have rs_11 := Lib.hid (rs_10.out.next hb)
  have k11 := Lib.hid (Below.after k10.out hb)
  have rt_11 := Lib.hid hh
  clear hb hh rx10 ry10 rz10 ru_10 rv_10 rg_10 rh_10 rs_10 k10
  go_wp2_with fail
  refine (own4_owned _ _ _ _ _ rx11.out).mono ?_
  rintro e v1 ⟨val1, rfl, hown, hb⟩
  have oy := Lib.hid (ry11.out.next hb)
  have oz := Lib.hid (rz11.out.next hb)
  have o1 := Lib.hid hown
  have g1 := Lib.hid hb
  have p1 := Lib.hid hb.size
  clear hown hb
  go_wp2_with (at_builtin; refine wpList_append_row rfl _ _ 22 rfl w11.heap.size 42 i0 (.agg #[.int .i64 0, .int .i64 0]) 2 16 Tryd.underlying22 hi hz0 hz1 hz2 rfl (by decide) _ nx (flat x) rfl o1.out Ay ny cy (flat y) rfl oy.out.nil oy.out.cap ?k1 _ oy.out.row (flat_one y) (by unfold maxLen; omega) (by omega) p1.out ?_)
  case k1 => rw [flat_length, HY.out]
  intro val2 v2 hown hgrow
  have g2 := Lib.hid (g1.out.grown hgrow p1.out (fun r e => (o1.out.lt r e).1))
  have o2 := Lib.hid hown
  have oz2 := Lib.hid (rz11.out.next g2.out)
  have p2 := Lib.hid g2.out.size
  clear hown hgrow
  go_wp2_with (at_builtin; refine wpList_append_row rfl _ _ 22 rfl w11.heap.size 42 i0 (.agg #[.int .i64 0, .int .i64 0]) 2 16 Tryd.underlying22 hi hz0 hz1 hz2 rfl (by decide) _ (nx + ny) (flat x ++ flat y) rfl o2.out Az nz cz (flat z) rfl oz2.out.nil oz2.out.cap ?k1 _ oz2.out.row (flat_one z) (by unfold maxLen; omega) (by omega) p2.out ?_)
  case k1 => rw [flat_length, HZ.out]
  intro val3 v3 hown hgrow
  have g3 := Lib.hid (g2.out.grown hgrow p2.out (fun r e => (o2.out.lt r e).1))
  rw [← e6.out] at hown
  obtain ⟨Ak, ck, rfl, hh⟩ := here_owned e5.out (by omega) (Nat.lt_of_lt_of_le h0.out k11.out.size) (hst.out.below h0.out k11.out) hown g3.out
  have hb := g3.out
  clear hown hgrow
  have ru_12 := Lib.hid (ru_11.out.next hb)
  have rv_12 := Lib.hid (rv_11.out.next hb)
  have rg_12 := Lib.hid (rg_11.out.next hb)
  have rh_12 := Lib.hid (rh_11.out.next hb)
  have rs_12 := Lib.hid (rs_11.out.next hb)
  have rt_12 := Lib.hid (rt_11.out.next hb)
  have k12 := Lib.hid (Below.after k11.out hb)
  have rk_12 := Lib.hid hh
  clear hb hh ru_11 rv_11 rg_11 rh_11 rs_11 rt_11 k11
  clear oy oz o1 g1 p1 g2 o2 oz2 p2 g3
  go_wp2_with fail
  refine (Co.out _ _ _ rk_12.out).mono ?_
  rintro e w13 ⟨Al, cl, rfl, hh, hb⟩
  have ru_13 := Lib.hid (ru_12.out.next hb)
  have rv_13 := Lib.hid (rv_12.out.next hb)
  have rg_13 := Lib.hid (rg_12.out.next hb)
  have rh_13 := Lib.hid (rh_12.out.next hb)
  have rs_13 := Lib.hid (rs_12.out.next hb)
  have rt_13 := Lib.hid (rt_12.out.next hb)
  have k13 := Lib.hid (Below.after k12.out hb)
  have rl_13 := Lib.hid hh
  clear hb hh ru_12 rv_12 rg_12 rh_12 rs_12 rt_12 k12
  go_wp2_with fail
  refine (same4_yes Au Av nu cu cv u HU.out nu9 _ ru_13.out.row rv_13.out.row).mono ?_
  rintro e w14 ⟨rfl, hb⟩
  have ru_14 := Lib.hid (ru_13.out.next hb)
  have rg_14 := Lib.hid (rg_13.out.next hb)
  have rh_14 := Lib.hid (rh_13.out.next hb)
  have rs_14 := Lib.hid (rs_13.out.next hb)
  have rt_14 := Lib.hid (rt_13.out.next hb)
  have rl_14 := Lib.hid (rl_13.out.next hb)
  have k14 := Lib.hid (Below.after k13.out hb)
  clear hb  ru_13 rg_13 rh_13 rs_13 rt_13 rl_13 k13
  go_wp2_with fail
  refine (same4_yes Ag Ah ng cg ch g HG.out ng9 _ rg_14.out.row rh_14.out.row).mono ?_
  rintro e w15 ⟨rfl, hb⟩
  have ru_15 := Lib.hid (ru_14.out.next hb)
  have rs_15 := Lib.hid (rs_14.out.next hb)
  have rt_15 := Lib.hid (rt_14.out.next hb)
  have rl_15 := Lib.hid (rl_14.out.next hb)
  have k15 := Lib.hid (Below.after k14.out hb)
  clear hb  ru_14 rs_14 rt_14 rl_14 k14
  go_wp2_with fail
  refine (same4_yes As At ns cs ct s HS.out ns9 _ rs_15.out.row rt_15.out.row).mono ?_
  rintro e w16 ⟨rfl, hb⟩
  have ru_16 := Lib.hid (ru_15.out.next hb)
  have rl_16 := Lib.hid (rl_15.out.next hb)
  have k16 := Lib.hid (Below.after k15.out hb)
  clear hb  ru_15 rl_15 k15
  go_wp2_with fail
  refine (same4_yes Al Au nu cl cu u HU.out nu9 _ rl_16.out.row ru_16.out.row).mono ?_
  rintro e w17 ⟨rfl, hb⟩
  have k17 := Lib.hid (Below.after k16.out hb)
  clear hb  k16
  go_wp2_with fail
  refine (alive5_any _ (Nat.lt_of_lt_of_le h0.out k17.out.size) (hst.out.below h0.out k17.out)).mono ?_
  rintro e w18 ⟨rfl, hb⟩
  have k18 := Lib.hid (Below.after k17.out hb)
  clear hb  k17
  go_wp2
  go_ret
  exact ⟨rfl, k18.out⟩
end Go.Proofs.YtjnnfineebabaaaDoor
namespace Go.Proofs.YtjnnfineebabaaaDoor
open Go.ChangeShapes Go.WideShapes Go.ChangeAt Go.RowKit
open Go.Proofs.Rowm
theorem setThree_any (o p : Nat) (ho : o ≤ 255) (hp : p ≤ 255) (A B D : Option Addr) (n c m d k f : Nat) (a b l : List Pr) (hl : a.length = n) (hn : n ≤ c) (hc : c ≤ maxLen) (hA : A = none → c = 0) (hl2 : b.length = m) (hn2 : m ≤ d) (hc2 : d ≤ maxLen) (hB : B = none → d = 0) (hl3 : l.length = k) (hn3 : k ≤ f) (hc3 : f ≤ maxLen) (hD : D = none → f = 0) (w : World) (hr : Row w w.heap.size A (flat a)) (hr2 : Row w w.heap.size B (flat b)) (hr3 : Row w w.heap.size D (flat l)) (h0 : 0 < w.heap.size) (hs : Steps w) :
    Calls Tryd.prog 5 #[.int .u8 o, .int .u8 p, .slice A n c, .slice B m d, .slice D k f] w fun e w' => e = .returned (.bool true) ∧ Below w.heap.size w w' := by
  rcases Nat.lt_or_ge 100 n with h | h
  · exact setThree_many o p A B D n c m d k f (.inl h) (Nat.le_trans hn hc) (Nat.le_trans hn2 hc2) (Nat.le_trans hn3 hc3) w h0 hs
  · rcases Nat.lt_or_ge 100 m with h2 | h2
    · exact setThree_many o p A B D n c m d k f (.inr (.inl h2)) (Nat.le_trans hn hc) (Nat.le_trans hn2 hc2) (Nat.le_trans hn3 hc3) w h0 hs
    · rcases Nat.lt_or_ge 100 k with h3 | h3
      · exact setThree_many o p A B D n c m d k f (.inr (.inr h3)) (Nat.le_trans hn hc) (Nat.le_trans hn2 hc2) (Nat.le_trans hn3 hc3) w h0 hs
      · exact setThree_few o p A B D n c m d k f a b l h h2 h3 ho hp w ⟨hl, by omega, hn, hA, h0, hs, hr⟩ ⟨hl2, by omega, hn2, hB, h0, hs, hr2⟩ ⟨hl3, by omega, hn3, hD, h0, hs, hr3⟩

set_option maxRecDepth 100000 in
theorem rowsetThree_lifted (os : Os) (started : os.Started) (H : Type) (enc : TypeId × Value → H) :
    ReturnsInHanded {} Tryd.checked os 5 .any (fun w args => (Rows.rowsetThreeSpec.pre enc Tryd.prog Tryd.f5 [] false w args ∧ laidMetH Tryd.prog laid4 w) ∧ sizedMet enc Tryd.prog Tryd.f5 (OpenSpec.ofChange Rows.rowsetThreeSpec) false w args)
      (Rows.rowsetThreeSpec.post enc Tryd.prog Tryd.f5 false true false false) := by
  refine returnsInHanded_of_change_and (C := Tryd.checked) (X := fun w _ => laidMetH Tryd.prog laid4 w) (fun _ _ _ hh h => h.of_heap hh) own started (by kernel_rfl) Tryd.func5
    (ChangeSpec.witness_shaped (enc := enc) (C := Tryd.checked) (os := os) (X := fun w _ => laidMetH Tryd.prog laid4 w) false (World.doorLaid Tryd.prog 400 os) #[.int .u8 0, .int .u8 0, .slice none 0 0, .slice none 0 0, .slice none 0 0] 8 rfl (World.shaped_of_RefB (by kernel_rfl) (by kernel_rfl)) (by kernel_rfl) (by kernel_rfl) (by kernel_rfl) (door_met os _)) ?_
  intro W base args ds gs before hval0 hW _ _ hL _
  have hval : ∀ (j : Nat) t v, Tryd.f5.params[j]? = some t → args[j]? = some v → Value.okWide Tryd.prog W .any base t v := hval0
  have hW' := hW
  obtain ⟨p, q, hA0, hV, rfl, hfz, hnd⟩ := hW
  have hA : DataW.TrodAll enc Tryd.prog W 0 (fun _ => true) true Tryd.f5.params.toList args.toList ds p := hA0
  rw [Tryd.params5] at hA hval
  obtain ⟨v0, vs0, d0, ds0, p0, q0, hargs, rfl, rfl, h0, r0⟩ := trodAll_cons hA
  obtain ⟨v1, vs1, d1, ds1, p1, q1, rfl, rfl, rfl, h1, r1⟩ := trodAll_cons r0
  obtain ⟨v2, vs2, d2, ds2, p2, q2, rfl, rfl, rfl, h2, r2⟩ := trodAll_cons r1
  obtain ⟨v3, vs3, d3, ds3, p3, q3, rfl, rfl, rfl, h3, r3⟩ := trodAll_cons r2
  obtain ⟨v4, vs4, d4, ds4, p4, q4, rfl, rfl, rfl, h4, r4⟩ := trodAll_cons r3
  obtain ⟨rfl, rfl, rfl⟩ := trodAll_nil r4
  obtain rfl : args = #[v0, v1, v2, v3, v4] := by cases args; simp_all
  obtain ⟨rfl, rfl⟩ := trodVars_none hV
  obtain ⟨a0, rfl, rfl, rfl, w0⟩ := open_int Tryd.underlying5 (hval 0 5 v0 rfl rfl) h0
  obtain ⟨b0, rfl, u0⟩ := byte_of a0 w0
  obtain ⟨a1, rfl, rfl, rfl, w1⟩ := open_int Tryd.underlying5 (hval 1 5 v1 rfl rfl) h1
  obtain ⟨b1, rfl, u1⟩ := byte_of a1 w1
  have k2 := h2
  have lt2 : ∀ x ∈ p2, x.block < W.heap.size := by obtain ⟨m, hm⟩ := k2; exact DataW.trod_lt m _ _ _ hm
  obtain ⟨A2, n2, c2, l2, rfl, hl2, hn2, hc2, hz2, hr2⟩ := open_pairs (hval 2 22 v2 rfl rfl) h2
  have k3 := h3
  have lt3 : ∀ x ∈ p3, x.block < W.heap.size := by obtain ⟨m, hm⟩ := k3; exact DataW.trod_lt m _ _ _ hm
  obtain ⟨A3, n3, c3, l3, rfl, hl3, hn3, hc3, hz3, hr3⟩ := open_pairs (hval 3 22 v3 rfl rfl) h3
  have k4 := h4
  have lt4 : ∀ x ∈ p4, x.block < W.heap.size := by obtain ⟨m, hm⟩ := k4; exact DataW.trod_lt m _ _ _ hm
  obtain ⟨A4, n4, c4, l4, rfl, hl4, hn4, hc4, hz4, hr4⟩ := open_pairs (hval 4 22 v4 rfl rfl) h4
  obtain ⟨hz, hst⟩ := steps_of hL
  clear hA0 hval0
  refine (setThree_any b0 b1 u0 u1 A2 A3 A4 n2 c2 n3 c3 n4 c4 l2 l3 l4 hl2 hn2 hc2 hz2 hl3 hn3 hc3 hz3 hl4 hn4 hc4 hz4 W hr2 hr3 hr4 hz hst).mono fun e W' ⟨he, bel⟩ => ?_
  subst he
  exact ⟨_, rfl, _, _, _, [], _, [], hW', trodAll_mk1 (shut_bool Tryd.underlying4 _), trodAll_cons_mk (shut_int Tryd.underlying5 w0) (trodAll_cons_mk (shut_int Tryd.underlying5 w1) (trodAll_cons_mk (Below.trod laidOut (by kernel_rfl) (of_decide_eq_true (by kernel_rfl)) k2 bel lt2) (trodAll_cons_mk (Below.trod laidOut (by kernel_rfl) (of_decide_eq_true (by kernel_rfl)) k3 bel lt3) (trodAll_cons_mk (Below.trod laidOut (by kernel_rfl) (of_decide_eq_true (by kernel_rfl)) k4 bel lt4) trodAll_mk0)))), rfl, bel.frame _, fun h => by cases h⟩

theorem rowsetThree_row : Rows.RowsetThreeSaid :=
  OpenClaim.holds_of_wide 5 Tryd.f5 rfl rfl rfl rfl rfl rfl rfl ⟨rfl, rfl, rfl, rfl, rfl⟩ rfl rfl rfl rfl rfl (by kernel_rfl) Tryd.func5 (by kernel_rfl)
    (of_decide_eq_true (by kernel_rfl)) (by unfold Func.isWrapper; first | (rw [if_pos (by decide +kernel)]; kernel_rfl) | (rw [if_neg (by decide +kernel)]; exact ⟨rfl, rfl⟩))
    (fun os started H enc _ => rowsetThree_lifted os started H enc)

theorem rowsetThree_holds : Rows.RowsetThreeCardSaid :=
  Claim7.holds_tied_plain_at .later [] [.data] true Rows.rowsetThreeCard.stood.harness false
    rowsetThree_row (fun _ h => by cases h) (by kernel_rfl) (fun _ h => by cases h) rowsetThree_row_tie rfl ⟨rfl, rfl⟩ (by kernel_rfl) rfl
    (fun f fn hf hfn => by
      obtain rfl : f = 5 := Option.some.inj ((show Tryd.prog.funcNamed Rows.rowsetThreeRow.func = some 5 by kernel_rfl).symm.trans hf) |>.symm
      obtain rfl : fn = Tryd.f5 := (Option.some.inj (Tryd.func5.symm.trans hfn)).symm
      exact ⟨by kernel_rfl, fun j t ht => by
        rw [Tryd.params5] at ht
        have hm : t ∈ [5, 5, 22, 22, 22] := by simpa using Array.mem_of_getElem? ht
        have hall : ([5, 5, 22, 22, 22].all fun u => !Tryd.prog.wantsStandIn u) = true := by kernel_rfl
        exact (show Tryd.prog.wantsStandIn t = false by simpa using List.all_eq_true.1 hall t hm)⟩)
    (by kernel_rfl)
#print axioms rowsetThree_holds
end Go.Proofs.YtjnnfineebabaaaDoor
