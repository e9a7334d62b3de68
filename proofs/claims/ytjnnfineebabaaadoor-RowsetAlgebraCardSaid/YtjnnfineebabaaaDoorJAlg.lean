/- Proved here: for every order, every policy and every two rows of pairs the law RowsetAlgebra of layer 5 returns true (what is together, in both, in one alone, apart, have as many keys as the document says, are rows that may be, and make one another up); it changes nothing that lay. Condition: package mix's table of steps holds what its initialiser lays (tied to the program's text by the card). -/
import Derived.Test.YtjnnfineebabaaaDoorJS
import Derived.Test.YtjnnfineebabaaaDoorL5Math
import Derived.Test.YtjnnfineebabaaaDoorJV
import Derived.Test.YtjnnfineebabaaaDoorL5Open
import Derived.Test.YtjnnfineebabaaaDoorRows
import Derived.Below
import Derived.ChangeOld
import Derived.Test.YtjnnfineebabaaaDoorTie
import Derived.Test.YtjnnfineebabaaaDoorCards
/- The contract of the law's own sorting of three rows. -/
namespace Go.Proofs.YtjnnfineebabaaaDoor
open Go.RowKit Go.Shelf Go.Proofs.Rowm

/-- three rows, made -/
def ThreeH (W : World) (n m k : Nat) (x y z : List Pr) (e : Ending) (w' : World) : Prop :=
  ∃ A1 c1 A2 c2 A3 c3, e = .returned (.tuple #[.slice A1 n c1, .slice A2 m c2, .slice A3 k c3, .bool true]) ∧ Here w' A1 n c1 x ∧ Here w' A2 m c2 y ∧ Here w' A3 k c3 z ∧ Below W.heap.size W w'

set_option maxHeartbeats 2000000 in
theorem sorted_yes (o : Nat) (o1 : 1 ≤ o) (o7 : o ≤ 7) (A B D : Option Addr) (n c m d k f : Nat) (a b l x y z : List Pr) (n' m' k' : Nat) (hx : sortL o 2 a = x) (hn : x.length = n') (hy : sortL o 2 b = y) (hm : y.length = m') (hz : sortL o 2 l = z) (hk : z.length = k') (w : World) (hA : Here w A n c a) (hB : Here w B m d b) (hD : Here w D k f l) :
    Calls Tryd.prog 24 #[.int .u8 o, .slice A n c, .slice B m d, .slice D k f] w (ThreeH w n' m' k' x y z) := by
  have c1 := Lib.hid (sort_yes o 2 o1 o7 (by decide) (by decide) A n c a x n' hx hn w hA)
  have c2 := Lib.hid (fun W h => sort_yes o 2 o1 o7 (by decide) (by decide) B m d b y m' hy hm W h)
  have c3 := Lib.hid (fun W h => sort_yes o 2 o1 o7 (by decide) (by decide) D k f l z k' hz hk W h)
  have rb := Lib.hid hB
  have rd := Lib.hid hD
  clear hx hn hy hm hz hk hA hB hD
  go_enter Tryd.func24, Tryd.ntmps24
  go_wp2_with fail
  refine c1.out.mono ?_
  rintro e w1 ⟨A1, d1, rfl, hh, hb⟩
  have x1 := Lib.hid hh
  have b1 := Lib.hid hb
  have rb1 := Lib.hid (rb.out.next hb)
  have rd1 := Lib.hid (rd.out.next hb)
  clear hh hb c1 rb rd
  go_wp2_with fail
  refine (c2.out _ rb1.out).mono ?_
  rintro e w2 ⟨A2, d2, rfl, hh, hb⟩
  have x2 := Lib.hid (x1.out.next hb)
  have y2 := Lib.hid hh
  have b2 := Lib.hid (Below.after b1.out hb)
  have rd2 := Lib.hid (rd1.out.next hb)
  clear hh hb c2 rb1 rd1 x1 b1
  go_wp2_with fail
  refine (c3.out _ rd2.out).mono ?_
  rintro e w3 ⟨A3, d3, rfl, hh, hb⟩
  have x3 := Lib.hid (x2.out.next hb)
  have y3 := Lib.hid (y2.out.next hb)
  have z3 := Lib.hid hh
  have b3 := Lib.hid (Below.after b2.out hb)
  clear hh hb c3 rd2 x2 y2 b2
  go_wp2
  refine bodyPost_ret (v := .tuple #[.slice A1 n' d1, .slice A2 m' d2, .slice A3 k' d3, .bool true]) (by simp [results, Tryd.results24, go_sem]) rfl ?_
  exact ⟨_, _, _, _, _, _, rfl, x3.out, y3.out, z3.out, b3.out⟩
end Go.Proofs.YtjnnfineebabaaaDoor
/- The statement RowsetAlgebra of layer 5, walked. -/
namespace Go.Proofs.YtjnnfineebabaaaDoor
open Go.RowKit Go.Shelf Go.Proofs.Rowm

set_option maxRecDepth 100000 in
set_option maxHeartbeats 4000000 in
theorem setAlgebra_many (o p : Nat) (A B : Option Addr) (n c m d : Nat) (h : 100 < n ∨ 100 < m) (hn : n ≤ maxLen) (hm : m ≤ maxLen) (w : World) (h0 : 0 < w.heap.size) (hs : Steps w) :
    Calls Tryd.prog 4 #[.int .u8 o, .int .u8 p, .slice A n c, .slice B m d] w fun e w' => e = .returned (.bool true) ∧ Below w.heap.size w w' := by
  unfold maxLen at hn hm
  have hc := Lib.hid (alive5_any w h0 hs)
  clear hs
  by_cases h1 : 100 < n
  · have hd : decide ((100 : Int) < (n : Int)) = true := decide_eq_true (by omega)
    clear h
    go_enter Tryd.func4, Tryd.ntmps4
    go_wp2_with fail
    refine hc.out.mono ?_
    rintro e w1 ⟨rfl, hb⟩
    have b1 := Lib.hid hb
    clear hb hc
    go_wp2
    go_ret
    exact ⟨rfl, b1.out⟩
  · have hd : decide ((100 : Int) < (n : Int)) = false := decide_eq_false (by omega)
    have hd2 : decide ((100 : Int) < (m : Int)) = true := decide_eq_true (by omega)
    clear h
    go_enter Tryd.func4, Tryd.ntmps4
    go_wp2_with fail
    refine hc.out.mono ?_
    rintro e w1 ⟨rfl, hb⟩
    have b1 := Lib.hid hb
    clear hb hc
    go_wp2
    go_ret
    exact ⟨rfl, b1.out⟩

set_option maxRecDepth 100000 in
set_option maxHeartbeats 40000000 in
theorem setAlgebra_few (o p : Nat) (A B : Option Addr) (n c m d : Nat) (a b : List Pr) (hn : n ≤ 100) (hm : m ≤ 100) (ho : o ≤ 255) (hp : p ≤ 255) (w : World) (hA : Here w A n c a) (hB : Here w B m d b) :
    Calls Tryd.prog 4 #[.int .u8 o, .int .u8 p, .slice A n c, .slice B m d] w fun e w' => e = .returned (.bool true) ∧ Below w.heap.size w w' := by
  have hd : decide ((100 : Int) < (n : Int)) = false := decide_eq_false (by omega)
  have hd2 : decide ((100 : Int) < (m : Int)) = false := decide_eq_false (by omega)
  obtain ⟨q, hq⟩ : ∃ q : Nat, 1 + o % 7 = q := ⟨_, rfl⟩
  obtain ⟨r, hr⟩ : ∃ r : Nat, 1 + p % 3 = r := ⟨_, rfl⟩
  have q1 : 1 ≤ q := by omega
  have q7 : q ≤ 7 := by omega
  have r1 : 1 ≤ r := by omega
  have r3 : r ≤ 3 := by omega
  have hmq : 1 + (o : Int) % 7 = (q : Int) := by omega
  have hmr : 1 + (p : Int) % 3 = (r : Int) := by omega
  clear hq hr
  obtain ⟨x, hx⟩ : ∃ x, sortL q 2 a = x := ⟨_, rfl⟩
  obtain ⟨y, hy⟩ : ∃ y, sortL q 2 b = y := ⟨_, rfl⟩
  have ix : incr q x := hx ▸ sortL_incr q 2 a
  have iy : incr q y := hy ▸ sortL_incr q 2 b
  obtain ⟨nx, hnx⟩ : ∃ k, x.length = k := ⟨_, rfl⟩
  obtain ⟨ny, hny⟩ : ∃ k, y.length = k := ⟨_, rfl⟩
  obtain ⟨u, hu⟩ : ∃ l, unionL q r x y = l := ⟨_, rfl⟩
  obtain ⟨v, hv⟩ : ∃ l, meetL q r x y = l := ⟨_, rfl⟩
  obtain ⟨s, hs⟩ : ∃ l, lessL q x y = l := ⟨_, rfl⟩
  obtain ⟨t, ht⟩ : ∃ l, lessL q y x = l := ⟨_, rfl⟩
  obtain ⟨f, hf⟩ : ∃ l, apartL q x y = l := ⟨_, rfl⟩
  have iu : incr q u := hu ▸ unionL_incr ix iy
  have iv : incr q v := hv ▸ meetL_incr ix iy
  have is : incr q s := hs ▸ lessL_incr ix iy
  have it : incr q t := ht ▸ lessL_incr iy ix
  have jf : incr q f := hf ▸ apartL_incr ix iy
  obtain ⟨nu, hnu⟩ : ∃ k, u.length = k := ⟨_, rfl⟩
  obtain ⟨nv, hnv⟩ : ∃ k, v.length = k := ⟨_, rfl⟩
  obtain ⟨ns, hns⟩ : ∃ k, s.length = k := ⟨_, rfl⟩
  obtain ⟨nt, hnt⟩ : ∃ k, t.length = k := ⟨_, rfl⟩
  obtain ⟨nf, hnf⟩ : ∃ k, f.length = k := ⟨_, rfl⟩
  have lx : nx ≤ 100 := by have := len_sortL q 2 a; rw [hx, hnx, hA.len] at this; omega
  have ly : ny ≤ 100 := by have := len_sortL q 2 b; rw [hy, hny, hB.len] at this; omega
  have z1 : nu + nv = nx + ny := by have := len_union_meet (p := r) ix iy; rw [hu, hv, hnu, hnv, hnx, hny] at this; exact this
  have z2 : nf + nv = nu := by have := len_apart_meet (o := q) (p := r) x y; rw [hf, hv, hu, hnf, hnv, hnu] at this; exact this
  have z3 : ns + nv = nx := by have := len_less_meet (p := r) ix iy; rw [hs, hv, hns, hnv, hnx] at this; exact this
  have z4 : nt ≤ ny := by have := len_less_meet (p := r) iy ix; rw [ht, hnt, hny] at this; omega
  have Z1 : (nu : Int) + (nv : Int) = (nx : Int) + (ny : Int) := by omega
  have Z2 : (nf : Int) + (nv : Int) = (nu : Int) := by omega
  have Z3 : (ns : Int) + (nv : Int) = (nx : Int) := by omega
  have e1 : unionL q r s t = f := by rw [← hs, ← ht, ← hf]; exact less_less ix iy
  have e2 : unionL q r v f = u := by rw [← hv, ← hf, ← hu]; exact meet_apart ix iy
  have e3 : lessL q u v = f := by rw [← hu, ← hv, ← hf]; exact union_less_meet ix iy
  have mx : mayB q x = true := mayB_incr q1 q7 ix
  have my : mayB q y = true := mayB_incr q1 q7 iy
  have mu : mayB q u = true := mayB_incr q1 q7 iu
  have mv : mayB q v = true := mayB_incr q1 q7 iv
  have ms : mayB q s = true := mayB_incr q1 q7 is
  have mt : mayB q t = true := mayB_incr q1 q7 it
  have mf : mayB q f = true := mayB_incr q1 q7 jf
  have b1 : nx + ny ≤ 900 := by omega
  have b2 : ny + nx ≤ 900 := by omega
  have b3 : ns + nt ≤ 900 := by omega
  have b4 : nv + nf ≤ 900 := by omega
  have b5 : nu + nv ≤ 900 := by omega
  have nf9 : nf ≤ 1000 := by omega
  have nu9 : nu ≤ 1000 := by omega
  have nv9 : nv ≤ 1000 := by omega
  have Cs := Lib.hid (fun W h1 h2 h3 => sorted_yes q q1 q7 A B none n c m d 0 0 a b [] x y [] nx ny 0 hx hnx hy hny rfl rfl W h1 h2 h3)
  have Cu := Lib.hid (fun A B c d W h1 h2 => union_yes q r r1 r3 A B nx c ny d x y u nu mx my hu hnu b1 W h1 h2)
  have Cm := Lib.hid (fun A B c d W h1 h2 => meet_yes q r r1 r3 A B nx c ny d x y v nv mx my hv hnv b1 W h1 h2)
  have Cl := Lib.hid (fun A B c d W h1 h2 => less_yes q A B nx c ny d x y s ns mx my hs hns b1 W h1 h2)
  have Ck := Lib.hid (fun A B c d W h1 h2 => less_yes q A B ny c nx d y x t nt my mx ht hnt b2 W h1 h2)
  have Ca := Lib.hid (fun A B c d W h1 h2 => apart_yes q A B nx c ny d x y f nf mx my hf hnf b1 W h1 h2)
  have Du := Lib.hid (fun A B c d W h1 h2 => union_yes q r r1 r3 A B ns c nt d s t f nf ms mt e1 hnf b3 W h1 h2)
  have Dv := Lib.hid (fun A B c d W h1 h2 => union_yes q r r1 r3 A B nv c nf d v f u nu mv mf e2 hnu b4 W h1 h2)
  have Dl := Lib.hid (fun A B c d W h1 h2 => less_yes q A B nu c nv d u v f nf mu mv e3 hnf b5 W h1 h2)
  have ZZ1 := Lib.hid Z1
  have ZZ2 := Lib.hid Z2
  have ZZ3 := Lib.hid Z3
  have MU := Lib.hid mu
  have MV := Lib.hid mv
  have MF := Lib.hid mf
  have HU := Lib.hid hnu
  have HV := Lib.hid hnv
  have HF := Lib.hid hnf
  have HMQ := Lib.hid hmq
  have HMR := Lib.hid hmr
  have RA := Lib.hid hA
  have RB := Lib.hid hB
  have h0 := Lib.hid hA.pos
  have hst := Lib.hid hA.steps
  have k0 := Lib.hid (Below.refl w.heap.size w)
  have l1 : nu ≤ 200 := by omega
  have l2 : nv ≤ 200 := by omega
  have l3 : nf ≤ 200 := by omega
  have l4 : ns ≤ 200 := by omega
  have E1 : ((nu : Int) + (nv : Int) == (nx : Int) + (ny : Int)) = true := by simp [Z1]
  have E2 : ((nf : Int) + (nv : Int) == (nu : Int)) = true := by simp [Z2]
  have E3 : ((ns : Int) + (nv : Int) == (nx : Int)) = true := by simp [Z3]
  clear z1 z2 z3 z4 Z1 Z2 Z3 e1 e2 e3 mx my mu mv ms mt mf hx hy hu hv hs ht hf ix iy iu iv is it jf hnx hny hnu hnv hns hnt hnf b1 b2 b3 b4 b5 hA hB
  go_enter Tryd.func4, Tryd.ntmps4
  go_wp2_with fail
  refine (Cs.out _ RA.out RB.out (here_nil h0.out hst.out)).mono ?_
  rintro e w1 ⟨Ax, cx, Ay, cy, Az, cz, rfl, hh1, hh2, -, hb⟩
  have k1 := Lib.hid (Below.after k0.out hb)
  have rx1 := Lib.hid hh1
  have ry1 := Lib.hid hh2
  clear hb hh1 hh2 k0
  go_wp2_with fail
  refine (Cu.out _ _ _ _ _ rx1.out ry1.out).mono ?_
  rintro e w2 ⟨Au, cu, rfl, hh, hb⟩
  have rx2 := Lib.hid (rx1.out.next hb)
  have ry2 := Lib.hid (ry1.out.next hb)
  have k2 := Lib.hid (Below.after k1.out hb)
  have ru2 := Lib.hid hh
  clear hb hh rx1 ry1 k1
  go_wp2_with fail
  refine (Cm.out _ _ _ _ _ rx2.out ry2.out).mono ?_
  rintro e w3 ⟨Av, cv, rfl, hh, hb⟩
  have rx3 := Lib.hid (rx2.out.next hb)
  have ry3 := Lib.hid (ry2.out.next hb)
  have ru3 := Lib.hid (ru2.out.next hb)
  have k3 := Lib.hid (Below.after k2.out hb)
  have rv3 := Lib.hid hh
  clear hb hh rx2 ry2 ru2 k2
  go_wp2_with fail
  refine (Cl.out _ _ _ _ _ rx3.out ry3.out).mono ?_
  rintro e w4 ⟨As, cs, rfl, hh, hb⟩
  have rx4 := Lib.hid (rx3.out.next hb)
  have ry4 := Lib.hid (ry3.out.next hb)
  have ru4 := Lib.hid (ru3.out.next hb)
  have rv4 := Lib.hid (rv3.out.next hb)
  have k4 := Lib.hid (Below.after k3.out hb)
  have rs4 := Lib.hid hh
  clear hb hh rx3 ry3 ru3 rv3 k3
  go_wp2_with fail
  refine (Ck.out _ _ _ _ _ ry4.out rx4.out).mono ?_
  rintro e w5 ⟨At, ct, rfl, hh, hb⟩
  have rx5 := Lib.hid (rx4.out.next hb)
  have ry5 := Lib.hid (ry4.out.next hb)
  have ru5 := Lib.hid (ru4.out.next hb)
  have rv5 := Lib.hid (rv4.out.next hb)
  have rs5 := Lib.hid (rs4.out.next hb)
  have k5 := Lib.hid (Below.after k4.out hb)
  have rt5 := Lib.hid hh
  clear hb hh rx4 ry4 ru4 rv4 rs4 k4
  go_wp2_with fail
  refine (Ca.out _ _ _ _ _ rx5.out ry5.out).mono ?_
  rintro e w6 ⟨Af, cf, rfl, hh, hb⟩
  have ru6 := Lib.hid (ru5.out.next hb)
  have rv6 := Lib.hid (rv5.out.next hb)
  have rs6 := Lib.hid (rs5.out.next hb)
  have rt6 := Lib.hid (rt5.out.next hb)
  have k6 := Lib.hid (Below.after k5.out hb)
  have rf6 := Lib.hid hh
  clear hb hh ru5 rv5 rs5 rt5 k5
  go_wp2_with fail
  refine (rowMay_is MU.out HU.out nu9 ru6.out.pos ru6.out.steps ru6.out.row).mono ?_
  rintro e w7 ⟨rfl, hb⟩
  have ru7 := Lib.hid (ru6.out.next hb)
  have rv7 := Lib.hid (rv6.out.next hb)
  have rs7 := Lib.hid (rs6.out.next hb)
  have rt7 := Lib.hid (rt6.out.next hb)
  have rf7 := Lib.hid (rf6.out.next hb)
  have k7 := Lib.hid (Below.after k6.out hb)
  clear hb  ru6 rv6 rs6 rt6 rf6 k6
  go_wp2_with fail
  refine (rowMay_is MV.out HV.out nv9 rv7.out.pos rv7.out.steps rv7.out.row).mono ?_
  rintro e w8 ⟨rfl, hb⟩
  have ru8 := Lib.hid (ru7.out.next hb)
  have rv8 := Lib.hid (rv7.out.next hb)
  have rs8 := Lib.hid (rs7.out.next hb)
  have rt8 := Lib.hid (rt7.out.next hb)
  have rf8 := Lib.hid (rf7.out.next hb)
  have k8 := Lib.hid (Below.after k7.out hb)
  clear hb  ru7 rv7 rs7 rt7 rf7 k7
  go_wp2_with fail
  refine (rowMay_is MF.out HF.out nf9 rf8.out.pos rf8.out.steps rf8.out.row).mono ?_
  rintro e w9 ⟨rfl, hb⟩
  have ru9 := Lib.hid (ru8.out.next hb)
  have rv9 := Lib.hid (rv8.out.next hb)
  have rs9 := Lib.hid (rs8.out.next hb)
  have rt9 := Lib.hid (rt8.out.next hb)
  have rf9 := Lib.hid (rf8.out.next hb)
  have k9 := Lib.hid (Below.after k8.out hb)
  clear hb  ru8 rv8 rs8 rt8 rf8 k8
  go_wp2_with fail
  refine (Du.out _ _ _ _ _ rs9.out rt9.out).mono ?_
  rintro e w10 ⟨Ag, cg, rfl, hh, hb⟩
  have ru10 := Lib.hid (ru9.out.next hb)
  have rv10 := Lib.hid (rv9.out.next hb)
  have rf10 := Lib.hid (rf9.out.next hb)
  have k10 := Lib.hid (Below.after k9.out hb)
  have rg10 := Lib.hid hh
  clear hb hh ru9 rv9 rf9 k9
  go_wp2_with fail
  refine (Dv.out _ _ _ _ _ rv10.out rf10.out).mono ?_
  rintro e w11 ⟨Ah, ch, rfl, hh, hb⟩
  have ru11 := Lib.hid (ru10.out.next hb)
  have rv11 := Lib.hid (rv10.out.next hb)
  have rf11 := Lib.hid (rf10.out.next hb)
  have rg11 := Lib.hid (rg10.out.next hb)
  have k11 := Lib.hid (Below.after k10.out hb)
  have rh11 := Lib.hid hh
  clear hb hh ru10 rv10 rf10 rg10 k10
  go_wp2_with fail
  refine (Dl.out _ _ _ _ _ ru11.out rv11.out).mono ?_
  rintro e w12 ⟨Al, cl, rfl, hh, hb⟩
  have ru12 := Lib.hid (ru11.out.next hb)
  have rf12 := Lib.hid (rf11.out.next hb)
  have rg12 := Lib.hid (rg11.out.next hb)
  have rh12 := Lib.hid (rh11.out.next hb)
  have k12 := Lib.hid (Below.after k11.out hb)
  have rl12 := Lib.hid hh
  clear hb hh ru11 rf11 rg11 rh11 k11
  go_wp2_with fail
  refine (same4_yes Ag Af nf cg cf f HF.out nf9 _ rg12.out.row rf12.out.row).mono ?_
  rintro e w13 ⟨rfl, hb⟩
  have ru13 := Lib.hid (ru12.out.next hb)
  have rf13 := Lib.hid (rf12.out.next hb)
  have rh13 := Lib.hid (rh12.out.next hb)
  have rl13 := Lib.hid (rl12.out.next hb)
  have k13 := Lib.hid (Below.after k12.out hb)
  clear hb  ru12 rf12 rh12 rl12 k12
  go_wp2_with fail
  refine (same4_yes Ah Au nu ch cu u HU.out nu9 _ rh13.out.row ru13.out.row).mono ?_
  rintro e w14 ⟨rfl, hb⟩
  have rf14 := Lib.hid (rf13.out.next hb)
  have rl14 := Lib.hid (rl13.out.next hb)
  have k14 := Lib.hid (Below.after k13.out hb)
  clear hb  rf13 rl13 k13
  go_wp2_with fail
  refine (same4_yes Al Af nf cl cf f HF.out nf9 _ rl14.out.row rf14.out.row).mono ?_
  rintro e w15 ⟨rfl, hb⟩
  have k15 := Lib.hid (Below.after k14.out hb)
  clear hb  k14
  go_wp2_with fail
  refine (alive5_any _ (Nat.lt_of_lt_of_le h0.out k15.out.size) (hst.out.below h0.out k15.out)).mono ?_
  rintro e w16 ⟨rfl, hb⟩
  have k16 := Lib.hid (Below.after k15.out hb)
  clear hb  k15
  go_wp2
  go_ret
  exact ⟨rfl, k16.out⟩
end Go.Proofs.YtjnnfineebabaaaDoor
namespace Go.Proofs.YtjnnfineebabaaaDoor
open Go.ChangeShapes Go.WideShapes Go.ChangeAt Go.RowKit
open Go.Proofs.Rowm
theorem setAlgebra_any (o p : Nat) (ho : o ≤ 255) (hp : p ≤ 255) (A B : Option Addr) (n c m d : Nat) (a b : List Pr) (hl : a.length = n) (hn : n ≤ c) (hc : c ≤ maxLen) (hA : A = none → c = 0) (hl2 : b.length = m) (hn2 : m ≤ d) (hc2 : d ≤ maxLen) (hB : B = none → d = 0) (w : World) (hr : Row w w.heap.size A (flat a)) (hr2 : Row w w.heap.size B (flat b)) (h0 : 0 < w.heap.size) (hs : Steps w) :
    Calls Tryd.prog 4 #[.int .u8 o, .int .u8 p, .slice A n c, .slice B m d] w fun e w' => e = .returned (.bool true) ∧ Below w.heap.size w w' := by
  rcases Nat.lt_or_ge 100 n with h | h
  · exact setAlgebra_many o p A B n c m d (.inl h) (Nat.le_trans hn hc) (Nat.le_trans hn2 hc2) w h0 hs
  · rcases Nat.lt_or_ge 100 m with h2 | h2
    · exact setAlgebra_many o p A B n c m d (.inr h2) (Nat.le_trans hn hc) (Nat.le_trans hn2 hc2) w h0 hs
    · exact setAlgebra_few o p A B n c m d a b h h2 ho hp w ⟨hl, by omega, hn, hA, h0, hs, hr⟩ ⟨hl2, by omega, hn2, hB, h0, hs, hr2⟩

set_option maxRecDepth 100000 in
theorem rowsetAlgebra_lifted (os : Os) (started : os.Started) (H : Type) (enc : TypeId × Value → H) :
    ReturnsInHanded {} Tryd.checked os 4 .any (fun w args => (Rows.rowsetAlgebraSpec.pre enc Tryd.prog Tryd.f4 [] false w args ∧ laidMetH Tryd.prog laid4 w) ∧ sizedMet enc Tryd.prog Tryd.f4 (OpenSpec.ofChange Rows.rowsetAlgebraSpec) false w args)
      (Rows.rowsetAlgebraSpec.post enc Tryd.prog Tryd.f4 false true false false) := by
  refine returnsInHanded_of_change_and (C := Tryd.checked) (X := fun w _ => laidMetH Tryd.prog laid4 w) (fun _ _ _ hh h => h.of_heap hh) own started (by kernel_rfl) Tryd.func4
    (ChangeSpec.witness_shaped (enc := enc) (C := Tryd.checked) (os := os) (X := fun w _ => laidMetH Tryd.prog laid4 w) false (World.doorLaid Tryd.prog 400 os) #[.int .u8 0, .int .u8 0, .slice none 0 0, .slice none 0 0] 8 rfl (World.shaped_of_RefB (by kernel_rfl) (by kernel_rfl)) (by kernel_rfl) (by kernel_rfl) (by kernel_rfl) (door_met os _)) ?_
  intro W base args ds gs before hval0 hW _ _ hL _
  have hval : ∀ (j : Nat) t v, Tryd.f4.params[j]? = some t → args[j]? = some v → Value.okWide Tryd.prog W .any base t v := hval0
  have hW' := hW
  obtain ⟨p, q, hA0, hV, rfl, hfz, hnd⟩ := hW
  have hA : DataW.TrodAll enc Tryd.prog W 0 (fun _ => true) true Tryd.f4.params.toList args.toList ds p := hA0
  rw [Tryd.params4] at hA hval
  obtain ⟨v0, vs0, d0, ds0, p0, q0, hargs, rfl, rfl, h0, r0⟩ := trodAll_cons hA
  obtain ⟨v1, vs1, d1, ds1, p1, q1, rfl, rfl, rfl, h1, r1⟩ := trodAll_cons r0
  obtain ⟨v2, vs2, d2, ds2, p2, q2, rfl, rfl, rfl, h2, r2⟩ := trodAll_cons r1
  obtain ⟨v3, vs3, d3, ds3, p3, q3, rfl, rfl, rfl, h3, r3⟩ := trodAll_cons r2
  obtain ⟨rfl, rfl, rfl⟩ := trodAll_nil r3
  obtain rfl : args = #[v0, v1, v2, v3] := by cases args; simp_all
  obtain ⟨rfl, rfl⟩ := trodVars_none hV
  obtain ⟨a0, rfl, rfl, rfl, w0⟩ := open_int Tryd.underlying5 (hval 0 5 v0 rfl rfl) h0
  obtain ⟨b0, rfl, u0⟩ := byte_of a0 w0
  obtain ⟨a1, rfl, rfl, rfl, w1⟩ := open_int Tryd.underlying5 (hval 1 5 v1 rfl rfl) h1
  obtain ⟨b1, rfl, u1⟩ := byte_of a1 w1
  have k2 := h2
  have lt2 : ∀ x ∈ p2, x.block < W.heap.size := by obtain ⟨m, hm⟩ := k2; exact DataW.trod_lt m _ _ _ hm
  obtain ⟨A2, n2, c2, l2, rfl, hl2, hn2, hc2, hz2, hr2⟩ := open_pairs (hval 2 22 v2 rfl rfl) h2
  have k3 := h3
  have lt3 : ∀ x ∈ p3, x.block < W.heap.size := by obtain ⟨m, hm⟩ := k3; exact DataW.trod_lt m _ _ _ hm
  obtain ⟨A3, n3, c3, l3, rfl, hl3, hn3, hc3, hz3, hr3⟩ := open_pairs (hval 3 22 v3 rfl rfl) h3
  obtain ⟨hz, hst⟩ := steps_of hL
  clear hA0 hval0
  refine (setAlgebra_any b0 b1 u0 u1 A2 A3 n2 c2 n3 c3 l2 l3 hl2 hn2 hc2 hz2 hl3 hn3 hc3 hz3 W hr2 hr3 hz hst).mono fun e W' ⟨he, bel⟩ => ?_
  subst he
  exact ⟨_, rfl, _, _, _, [], _, [], hW', trodAll_mk1 (shut_bool Tryd.underlying4 _), trodAll_cons_mk (shut_int Tryd.underlying5 w0) (trodAll_cons_mk (shut_int Tryd.underlying5 w1) (trodAll_cons_mk (Below.trod laidOut (by kernel_rfl) (of_decide_eq_true (by kernel_rfl)) k2 bel lt2) (trodAll_cons_mk (Below.trod laidOut (by kernel_rfl) (of_decide_eq_true (by kernel_rfl)) k3 bel lt3) trodAll_mk0))), rfl, bel.frame _, fun h => by cases h⟩

theorem rowsetAlgebra_row : Rows.RowsetAlgebraSaid :=
  OpenClaim.holds_of_wide 4 Tryd.f4 rfl rfl rfl rfl rfl rfl rfl ⟨rfl, rfl, rfl, rfl, rfl⟩ rfl rfl rfl rfl rfl (by kernel_rfl) Tryd.func4 (by kernel_rfl)
    (of_decide_eq_true (by kernel_rfl)) (by unfold Func.isWrapper; first | (rw [if_pos (by decide +kernel)]; kernel_rfl) | (rw [if_neg (by decide +kernel)]; exact ⟨rfl, rfl⟩))
    (fun os started H enc _ => rowsetAlgebra_lifted os started H enc)

theorem rowsetAlgebra_holds : Rows.RowsetAlgebraCardSaid :=
  Claim7.holds_tied_plain_at .later [] [.data] true Rows.rowsetAlgebraCard.stood.harness false
    rowsetAlgebra_row (fun _ h => by cases h) (by kernel_rfl) (fun _ h => by cases h) rowsetAlgebra_row_tie rfl ⟨rfl, rfl⟩ (by kernel_rfl) rfl
    (fun f fn hf hfn => by
      obtain rfl : f = 4 := Option.some.inj ((show Tryd.prog.funcNamed Rows.rowsetAlgebraRow.func = some 4 by kernel_rfl).symm.trans hf) |>.symm
      obtain rfl : fn = Tryd.f4 := (Option.some.inj (Tryd.func4.symm.trans hfn)).symm
      exact ⟨by kernel_rfl, fun j t ht => by
        rw [Tryd.params4] at ht
        have hm : t ∈ [5, 5, 22, 22] := by simpa using Array.mem_of_getElem? ht
        have hall : ([5, 5, 22, 22].all fun u => !Tryd.prog.wantsStandIn u) = true := by kernel_rfl
        exact (show Tryd.prog.wantsStandIn t = false by simpa using List.all_eq_true.1 hall t hm)⟩)
    (by kernel_rfl)
#print axioms rowsetAlgebra_holds
end Go.Proofs.YtjnnfineebabaaaDoor
