/- Proved here: for every order, every row of pairs and every two keys the law RowsetCut of layer 5 returns true (a row that is cut, and put together again, is the row, and a range of it is what is left of two cuts); it changes nothing that lay. Condition: package mix's table of steps holds what its initialiser lays (tied to the program's text by the card). -/
import Derived.Test.YtjnnfineebabaaaDoorJS
import Derived.Test.YtjnnfineebabaaaDoorL5Math
import Derived.Test.YtjnnfineebabaaaDoorL4Ans
import Derived.Test.YtjnnfineebabaaaDoorJV
import Derived.Test.YtjnnfineebabaaaDoorJT
import Derived.Test.YtjnnfineebabaaaDoorL5Open
import Derived.Test.YtjnnfineebabaaaDoorRows
import Derived.Below
import Derived.ChangeOld
import Derived.Test.YtjnnfineebabaaaDoorTie
import Derived.Test.YtjnnfineebabaaaDoorCards
/- The contract of the law's own sorting of three rows. -/
namespace Go.Proofs.YtjnnfineebabaaaDoor
open Go.RowKit Go.Shelf Go.Proofs.Rowm

/-- three rows, made -/
def ThreeH (W : World) (n m k : Nat) (x y z : List Pr) (e : Ending) (w' : World) : Prop :=
  ∃ A1 c1 A2 c2 A3 c3, e = .returned (.tuple #[.slice A1 n c1, .slice A2 m c2, .slice A3 k c3, .bool true]) ∧ Here w' A1 n c1 x ∧ Here w' A2 m c2 y ∧ Here w' A3 k c3 z ∧ Below W.heap.size W w'

set_option maxHeartbeats 2000000 in
theorem sorted_yes (o : Nat) (o1 : 1 ≤ o) (o7 : o ≤ 7) (A B D : Option Addr) (n c m d k f : Nat) (a b l x y z : List Pr) (n' m' k' : Nat) (hx : sortL o 2 a = x) (hn : x.length = n') (hy : sortL o 2 b = y) (hm : y.length = m') (hz : sortL o 2 l = z) (hk : z.length = k') (w : World) (hA : Here w A n c a) (hB : Here w B m d b) (hD : Here w D k f l) :
    Calls Tryd.prog 24 #[.int .u8 o, .slice A n c, .slice B m d, .slice D k f] w (ThreeH w n' m' k' x y z) := by
  have c1 := Lib.hid (sort_yes o 2 o1 o7 (by decide) (by decide) A n c a x n' hx hn w hA)
  have c2 := Lib.hid (fun W h => sort_yes o 2 o1 o7 (by decide) (by decide) B m d b y m' hy hm W h)
  have c3 := Lib.hid (fun W h => sort_yes o 2 o1 o7 (by decide) (by decide) D k f l z k' hz hk W h)
  have rb := Lib.hid hB
  have rd := Lib.hid hD
  clear hx hn hy hm hz hk hA hB hD
  go_enter Tryd.func24, Tryd.ntmps24
  go_wp2_with fail
  refine c1.out.mono ?_
  rintro e w1 ⟨A1, d1, rfl, hh, hb⟩
  have x1 := Lib.hid hh
  have b1 := Lib.hid hb
  have rb1 := Lib.hid (rb.out.next hb)
  have rd1 := Lib.hid (rd.out.next hb)
  clear hh hb c1 rb rd
  go_wp2_with fail
  refine (c2.out _ rb1.out).mono ?_
  rintro e w2 ⟨A2, d2, rfl, hh, hb⟩
  have x2 := Lib.hid (x1.out.next hb)
  have y2 := Lib.hid hh
  have b2 := Lib.hid (Below.after b1.out hb)
  have rd2 := Lib.hid (rd1.out.next hb)
  clear hh hb c2 rb1 rd1 x1 b1
  go_wp2_with fail
  refine (c3.out _ rd2.out).mono ?_
  rintro e w3 ⟨A3, d3, rfl, hh, hb⟩
  have x3 := Lib.hid (x2.out.next hb)
  have y3 := Lib.hid (y2.out.next hb)
  have z3 := Lib.hid hh
  have b3 := Lib.hid (Below.after b2.out hb)
  clear hh hb c3 rd2 x2 y2 b2
  go_wp2
  refine bodyPost_ret (v := .tuple #[.slice A1 n' d1, .slice A2 m' d2, .slice A3 k' d3, .bool true]) (by simp [results, Tryd.results24, go_sem]) rfl ?_
  exact ⟨_, _, _, _, _, _, rfl, x3.out, y3.out, z3.out, b3.out⟩
end Go.Proofs.YtjnnfineebabaaaDoor
/- Own of a row of pairs: what it makes is the call's own. -/
namespace Go.Proofs.YtjnnfineebabaaaDoor
open Go.RowKit Go.Shelf Go.Proofs.Rowm

/-- a row of the call's own -/
def OwnH (W : World) (n : Nat) (l : List Pr) (e : Ending) (w' : World) : Prop :=
  ∃ v, e = .returned v ∧ w'.ownsRow W.heap.size 42 2 v n (flat l) ∧ Below W.heap.size W w'

set_option maxHeartbeats 1000000 in
theorem own4_owned (A : Option Addr) (n c : Nat) (l : List Pr) (w : World) (h : Here w A n c l) :
    Calls Tryd.prog 8 #[.slice A n c] w (OwnH w n l) := by
  obtain ⟨i0, hi, hz0, hz1, hz2⟩ := info_parts info_pair
  have h' := Lib.hid h
  have hf := h.few
  clear h
  go_enter Tryd.func8, Tryd.ntmps8
  go_wp2_with (at_builtin; refine wpList_append_row rfl _ _ 22 rfl w.heap.size 42 i0 (.agg #[.int .i64 0, .int .i64 0]) 2 16 Tryd.underlying22 hi hz0 hz1 hz2 rfl (by decide) _ 0 [] rfl (World.ownsRow_nil _ _ _ _) A n c (flat l) rfl h'.out.nil h'.out.cap ?c1 _ h'.out.row (flat_one l) (by unfold maxLen; omega) (by omega) (Nat.le_refl _) ?_)
  case c1 => rw [flat_length, h'.out.len]
  intro v w1 hown hgrow
  have hb := (Below.refl w.heap.size w).grown hgrow (Nat.le_refl _) (fun r e => by simp [Value.ownBlock] at e)
  have o1 : Hid (w1.ownsRow w.heap.size 42 2 v n (flat l)) := by show w1.ownsRow w.heap.size 42 2 v n (flat l); simpa using hown
  have b1 := Lib.hid hb
  clear hown hgrow hb
  go_wp2
  go_ret
  exact ⟨_, rfl, o1.out, b1.out⟩

/-- a row of the call's own lies -/
theorem here_owned {w w' : World} {v : Value} {n : Nat} {l : List Pr} (hl : l.length = n) (h9 : n ≤ 900) (h0 : 0 < w.heap.size) (hs : Steps w) (ho : w'.ownsRow w.heap.size 42 2 v n (flat l)) (hb : Below w.heap.size w w') : ∃ A c, v = .slice A n c ∧ Here w' A n c l := by
  obtain ⟨A', c', rfl, k1, k2, k3⟩ := own_slice ho
  exact ⟨_, _, rfl, Here.mk hl h9 k1 k3 (Nat.lt_of_lt_of_le h0 hb.size) (hs.below h0 hb) (Row.of_own ho)⟩
end Go.Proofs.YtjnnfineebabaaaDoor
/- The statement RowsetCut of layer 5, walked. -/
namespace Go.Proofs.YtjnnfineebabaaaDoor
open Go.RowKit Go.Shelf Go.Proofs.Rowm

theorem owned_next {w w' : World} {base n : Nat} {e : TypeId} {size : Nat} {v : Value} {xs : List Value} (h : w.ownsRow base e size v n xs) (hb : Below w.heap.size w w') : w'.ownsRow base e size v n xs :=
  h.kept (row := none) ⟨hb.os, hb.tape, hb.output, hb.size, fun k hk _ => hb.block k hk⟩ (by cases v.ownBlock <;> simp)
theorem owned_apart {w w' : World} {base n m : Nat} {e f : TypeId} {size size' : Nat} {v u : Value} {xs ys : List Value} (h : w.ownsRow base e size v n xs) (k : w'.ownsRow w.heap.size f size' u m ys) : u.ownBlock = none ∨ u.ownBlock ≠ v.ownBlock := by
  cases hu : u.ownBlock with
  | none => exact .inl rfl
  | some b =>
    refine .inr fun e => ?_
    have h1 := (k.lt b hu).1
    have h2 := (h.lt b e.symm).2
    omega
theorem here_own {W w' : World} {v : Value} {base n : Nat} {l : List Pr} (hl : l.length = n) (h9 : n ≤ 900) (h0 : 0 < W.heap.size) (hs : Steps W) (ho : w'.ownsRow base 42 2 v n (flat l)) (hb : Below W.heap.size W w') : ∃ A c, v = .slice A n c ∧ Here w' A n c l := by
  obtain ⟨A', c', rfl, k1, k2, k3⟩ := own_slice ho
  exact ⟨_, _, rfl, Here.mk hl h9 k1 k3 (Nat.lt_of_lt_of_le h0 hb.size) (hs.below h0 hb) (Row.of_own ho)⟩

set_option maxRecDepth 100000 in
set_option maxHeartbeats 4000000 in
theorem setCut_many (o : Nat) (A : Option Addr) (n c : Nat) (lo hi : BitVec 64) (h : 150 < n) (hn : n ≤ maxLen) (w : World) (h0 : 0 < w.heap.size) (hs : Steps w) :
    Calls Tryd.prog 6 #[.int .u8 o, .slice A n c, K lo, K hi] w fun e w' => e = .returned (.bool true) ∧ Below w.heap.size w w' := by
  unfold maxLen at hn
  have hc := Lib.hid (alive5_any w h0 hs)
  clear hs
  have hd : decide ((150 : Int) < (n : Int)) = true := decide_eq_true (by omega)
  clear h
  go_enter Tryd.func6, Tryd.ntmps6
  go_wp2_with fail
  refine hc.out.mono ?_
  rintro e w1 ⟨rfl, hb⟩
  have b1 := Lib.hid hb
  clear hb hc
  go_wp2
  go_ret
  exact ⟨rfl, b1.out⟩

set_option maxRecDepth 100000 in
set_option maxHeartbeats 40000000 in
theorem setCut_core (o q : Nat) (hmq : 1 + (o : Int) % 7 = (q : Int)) (q1 : 1 ≤ q) (q7 : q ≤ 7) (A : Option Addr) (n c : Nat) (a : List Pr) (lo hi : BitVec 64) (hn : n ≤ 150)
    (x la lb L PR r la2 lb2 s : List Pr) (nx i m nl np nr i2 m2 ns : Nat) (v v2 : BitVec 64) (t t2 : Bool)
    (hx : sortL q 2 a = x) (hnx : x.length = nx) (lx : nx ≤ 150) (hm : lb.length = m) (hnl0 : L.length = nl) (hnr : r.length = nr) (hns : s.length = ns)
    (C1 : ∀ A c W, Here W A nx c x → Calls Tryd.prog 22 #[.int .u8 q, .slice A nx c, K lo] W (CutH W i m la lb v t))
    (C2 : ∀ A c W, Here W A nr c r → Calls Tryd.prog 22 #[.int .u8 q, .slice A nr c, K hi] W (CutH W i2 m2 la2 lb2 v2 t2))
    (C3 : ∀ A c W, Here W A nx c x → Calls Tryd.prog 20 #[.int .u8 q, .slice A nx c, K lo, K hi] W (MadeH W ns s (.int .i64 0)))
    (H1 : (t = false ∧ L = la ∧ nl = i) ∨ (t = true ∧ L = la ++ [(lo, v)] ∧ nl = i + 1))
    (H2 : (t2 = false ∧ s = la2 ∧ ns = i2) ∨ (t2 = true ∧ s = la2 ++ [(hi, v2)] ∧ ns = i2 + 1))
    (E0 : L.drop i = PR) (e0 : nl - i = np) (E1 : L ++ lb = x) (e1 : nl + m = nx) (E2 : PR ++ lb = r) (e2 : np + m = nr) (lr : nr ≤ 150) (li2 : i2 ≤ 150) (lns : ns ≤ 150)
    (w : World) (hA : Here w A n c a) :
    Calls Tryd.prog 6 #[.int .u8 o, .slice A n c, K lo, K hi] w fun e w' => e = .returned (.bool true) ∧ Below w.heap.size w w' := by
  have hd : decide ((150 : Int) < (n : Int)) = false := decide_eq_false (by omega)
  obtain ⟨i0, hi0, hz0, hz1, hz2⟩ := info_parts info_pair
  have i9 : i ≤ nl := by rcases H1 with ⟨_, _, h⟩ | ⟨_, _, h⟩ <;> omega
  have l1 : nl ≤ 150 := by omega
  have l2 : m ≤ 150 := by omega
  have l3 : np ≤ 150 := by omega
  have l4 : i ≤ 150 := by omega
  have C0 := Lib.hid (fun W h1 h2 h3 => sorted_yes q q1 q7 A none none n c 0 0 0 0 a [] [] x [] [] nx 0 0 hx hnx rfl rfl rfl rfl W h1 h2 h3)
  have c1 := Lib.hid C1
  have c2 := Lib.hid C2
  have c3 := Lib.hid C3
  have J1 := Lib.hid H1
  have J2 := Lib.hid H2
  have D0 := Lib.hid E0
  have d0 := Lib.hid e0
  have D1 : Hid (flat L ++ flat lb = flat x) := by show flat L ++ flat lb = flat x; rw [← flat_append, E1]
  have D2 : Hid (flat PR ++ flat lb = flat r) := by show flat PR ++ flat lb = flat r; rw [← flat_append, E2]
  have d1 := Lib.hid e1
  have d2 := Lib.hid e2
  have HX := Lib.hid hnx
  have HB := Lib.hid hm
  have HL := Lib.hid hnl0
  have HR := Lib.hid hnr
  have HS := Lib.hid hns
  have RA := Lib.hid hA
  have h0 := Lib.hid hA.pos
  have hst := Lib.hid hA.steps
  have k0 := Lib.hid (Below.refl w.heap.size w)
  clear hx hnx hm hnl0 hnr hns C1 C2 C3 H1 H2 E0 e0 E1 e1 E2 e2 hA
  go_enter Tryd.func6, Tryd.ntmps6
  go_wp2_with fail
  refine (C0.out _ RA.out (here_nil h0.out hst.out) (here_nil h0.out hst.out)).mono ?_
  rintro e w1 ⟨Ax, cx, Ay, cy, Az, cz, rfl, hh1, -, -, hb⟩
  have k1 := Lib.hid (Below.after k0.out hb)
  have rx1 := Lib.hid hh1
  clear hb hh1 k0
  go_wp2_with fail
  refine (c1.out _ _ _ rx1.out).mono ?_
  rintro e w2 ⟨Aa, ca, Ab, cb, rfl, hh1, hh2, hb⟩
  have rx2 := Lib.hid (rx1.out.next hb)
  have k2 := Lib.hid (Below.after k1.out hb)
  have ra_2 := Lib.hid hh1
  have rb_2 := Lib.hid hh2
  clear hb hh1 hh2 rx1 k1
  go_wp2_with fail
  refine (own4_owned _ _ _ _ _ ra_2.out).mono ?_
  rintro e v1 ⟨val1, rfl, hown, hb⟩
  have o1 := Lib.hid hown
  have g1 := Lib.hid hb
  clear hown hb
  rcases J1.out with ⟨rfl, hL, hnl⟩ | ⟨rfl, hL, hnl⟩
  · have LL := Lib.hid hL
    have NL := Lib.hid hnl
    clear hL hnl
    have o2 : Hid (v1.ownsRow w2.heap.size 42 2 val1 nl (flat L)) := by show v1.ownsRow _ _ _ _ _ _; rw [LL.out, NL.out]; exact o1.out
    obtain ⟨Aw, cw, rfl, hw⟩ := here_own HL.out (by omega) (Nat.lt_of_lt_of_le h0.out k2.out.size) (hst.out.below h0.out k2.out) o2.out g1.out
    obtain ⟨Ap, run, hp⟩ := here_from hw i9
    rw [d0.out] at run hp
    rw [D0.out] at hp
    have rp := Lib.hid hp
    clear hw hp
    go_wp2_with fail
    refine (own4_owned _ _ _ _ _ rp.out).mono ?_
    rintro e v3 ⟨val3, rfl, hown, hb⟩
    have o3 := Lib.hid hown
    have g3 := Lib.hid hb
    have G3 := Lib.hid (Below.after g1.out hb)
    have o2n := Lib.hid (owned_next o2.out hb)
    have ap := Lib.hid (owned_apart o2.out hown)
    have rb3 := Lib.hid (rb_2.out.next G3.out)
    have p3 := Lib.hid G3.out.size
    clear run rp hown hb
    go_wp2_with (at_builtin; refine wpList_append_row rfl _ _ 22 rfl w2.heap.size 42 i0 (.agg #[.int .i64 0, .int .i64 0]) 2 16 Tryd.underlying22 hi0 hz0 hz1 hz2 rfl (by decide) _ nl (flat L) rfl o2n.out Ab m cb (flat lb) rfl rb3.out.nil rb3.out.cap ?k1 _ rb3.out.row (flat_one lb) (by unfold maxLen; omega) (by omega) p3.out ?_)
    case k1 => rw [flat_length, HB.out]
    intro val4 v4 hown hgrow
    have G4 := Lib.hid (G3.out.grown hgrow p3.out (fun r e => (o2n.out.lt r e).1))
    have o4 := Lib.hid (o3.out.kept hgrow ap.out)
    have z4 := hgrow.size
    rw [D1.out, d1.out] at hown
    obtain ⟨A4, c4, rfl, hw⟩ := here_own HX.out (by omega) (Nat.lt_of_lt_of_le h0.out k2.out.size) (hst.out.below h0.out k2.out) hown G4.out
    have r4 := Lib.hid hw
    have rx4 := Lib.hid (rx2.out.next G4.out)
    have Z4 := Lib.hid z4
    clear hown hgrow hw z4 ap o2n rb3 p3
    go_wp2_with fail
    refine (same4_yes A4 Ax nx c4 cx x HX.out (by omega) _ r4.out.row rx4.out.row).mono ?_
    rintro e v5 ⟨rfl, hb⟩
    have G5 := Lib.hid (Below.after G4.out hb)
    have o5 := Lib.hid (owned_next o4.out hb)
    have rb5 := Lib.hid (rb_2.out.next G5.out)
    have p5 : Hid (v1.heap.size ≤ v5.heap.size) := Nat.le_trans (Nat.le_trans g3.out.size Z4.out) hb.size
    clear hb r4 rx4 o4 Z4 G4 G3
    go_wp2_with (at_builtin; refine wpList_append_row rfl _ _ 22 rfl v1.heap.size 42 i0 (.agg #[.int .i64 0, .int .i64 0]) 2 16 Tryd.underlying22 hi0 hz0 hz1 hz2 rfl (by decide) _ np (flat PR) rfl o5.out Ab m cb (flat lb) rfl rb5.out.nil rb5.out.cap ?k1 _ rb5.out.row (flat_one lb) (by unfold maxLen; omega) (by omega) p5.out ?_)
    case k1 => rw [flat_length, HB.out]
    intro val6 w3 hown hgrow
    have G6 := Lib.hid (G5.out.grown hgrow G5.out.size (fun r e => Nat.le_trans g1.out.size (o5.out.lt r e).1))
    rw [D2.out, d2.out] at hown
    obtain ⟨Ar, cr, rfl, hh⟩ := here_own HR.out (by omega) (Nat.lt_of_lt_of_le h0.out k2.out.size) (hst.out.below h0.out k2.out) hown G6.out
    have hb := G6.out
    clear hown hgrow
    have rx3 := Lib.hid (rx2.out.next hb)
    have k3 := Lib.hid (Below.after k2.out hb)
    have rr3 := Lib.hid hh
    clear hb hh rx2 k2
    clear g3 G5 G6 o3 o5 rb5 p5
    go_wp2_with fail
    refine (c2.out _ _ _ rr3.out).mono ?_
    rintro e w4 ⟨Ac, cc, Ad, cd, rfl, hh1, -, hb⟩
    have rx4 := Lib.hid (rx3.out.next hb)
    have k4 := Lib.hid (Below.after k3.out hb)
    have rc4 := Lib.hid hh1
    clear hb hh1 rx3 k3
    rcases J2.out with ⟨rfl, hS, hN⟩ | ⟨rfl, hS, hN⟩
    · subst hS
      subst hN
      go_wp2_with fail
      refine (c3.out _ _ _ rx4.out).mono ?_
      rintro e w5 ⟨As, cs, rfl, hh, hb⟩
      have rx5 := Lib.hid (rx4.out.next hb)
      have rc5 := Lib.hid (rc4.out.next hb)
      have k5 := Lib.hid (Below.after k4.out hb)
      have rs5 := Lib.hid hh
      clear hb hh rx4 rc4 k4
      go_wp2_with fail
      refine (same4_yes _ _ _ _ _ _ HS.out (by omega) _ rs5.out.row rc5.out.row).mono ?_
      rintro e w6 ⟨rfl, hb⟩
      have rx6 := Lib.hid (rx5.out.next hb)
      have rc6 := Lib.hid (rc5.out.next hb)
      have rs6 := Lib.hid (rs5.out.next hb)
      have k6 := Lib.hid (Below.after k5.out hb)
      clear hb  rx5 rc5 rs5 k5
      go_wp2_with fail
      refine (alive5_any _ (Nat.lt_of_lt_of_le h0.out k6.out.size) (hst.out.below h0.out k6.out)).mono ?_
      rintro e w7 ⟨rfl, hb⟩
      have rx7 := Lib.hid (rx6.out.next hb)
      have rc7 := Lib.hid (rc6.out.next hb)
      have rs7 := Lib.hid (rs6.out.next hb)
      have k7 := Lib.hid (Below.after k6.out hb)
      clear hb  rx6 rc6 rs6 k6
      go_wp2
      go_ret
      exact ⟨rfl, k7.out⟩
    · have SS := Lib.hid hS
      have NN := Lib.hid hN
      clear hS hN
      go_wp2_with fail
      refine (own4_owned _ _ _ _ _ rc4.out).mono ?_
      rintro e u1 ⟨vau1, rfl, hown, hb⟩
      have q1_ := Lib.hid hown
      have gg1 := Lib.hid hb
      clear hown hb
      go_wp2_with (at_builtin; refine wpList_append_row rfl _ _ 22 rfl w4.heap.size 42 i0 (.agg #[.int .i64 0, .int .i64 0]) 2 16 Tryd.underlying22 hi0 hz0 hz1 hz2 rfl (by decide) _ i2 (flat la2) rfl (q1_.out.alloc _) (some ⟨u1.heap.size, 0, none⟩) 1 1 (flat [(hi, v2)]) rfl (by simp) (Nat.le_refl _) rfl _ (Has.new u1 42 #[K hi, K v2]).row (flat_one [(hi, v2)]) (by unfold maxLen; omega) (by omega) (by have := gg1.out.size; simp; omega) ?_)
      intro vau2 w5 hown hgrow
      have GG2 := Lib.hid ((gg1.out.alloc gg1.out.size (.cells #[K hi, K v2] 42)).grown hgrow (by have := gg1.out.size; simp; omega) (fun r e => (q1_.out.lt r e).1))
      have q2_ : w5.ownsRow w4.heap.size 42 2 vau2 ns (flat s) := by rw [NN.out, SS.out, flat_append]; exact hown
      obtain ⟨Ae, ce, rfl, hh⟩ := here_own HS.out (by omega) (Nat.lt_of_lt_of_le h0.out k4.out.size) (hst.out.below h0.out k4.out) q2_ GG2.out
      have hb := GG2.out
      clear hown hgrow q2_
      have rx5 := Lib.hid (rx4.out.next hb)
      have k5 := Lib.hid (Below.after k4.out hb)
      have re5 := Lib.hid hh
      clear hb hh rx4 k4
      clear q1_ gg1 GG2
      go_wp2_with fail
      refine (c3.out _ _ _ rx5.out).mono ?_
      rintro e w6 ⟨As, cs, rfl, hh, hb⟩
      have rx6 := Lib.hid (rx5.out.next hb)
      have re6 := Lib.hid (re5.out.next hb)
      have k6 := Lib.hid (Below.after k5.out hb)
      have rs6 := Lib.hid hh
      clear hb hh rx5 re5 k5
      go_wp2_with fail
      refine (same4_yes _ _ _ _ _ _ HS.out (by omega) _ rs6.out.row re6.out.row).mono ?_
      rintro e w7 ⟨rfl, hb⟩
      have rx7 := Lib.hid (rx6.out.next hb)
      have re7 := Lib.hid (re6.out.next hb)
      have rs7 := Lib.hid (rs6.out.next hb)
      have k7 := Lib.hid (Below.after k6.out hb)
      clear hb  rx6 re6 rs6 k6
      go_wp2_with fail
      refine (alive5_any _ (Nat.lt_of_lt_of_le h0.out k7.out.size) (hst.out.below h0.out k7.out)).mono ?_
      rintro e w8 ⟨rfl, hb⟩
      have rx8 := Lib.hid (rx7.out.next hb)
      have re8 := Lib.hid (re7.out.next hb)
      have rs8 := Lib.hid (rs7.out.next hb)
      have k8 := Lib.hid (Below.after k7.out hb)
      clear hb  rx7 re7 rs7 k7
      go_wp2
      go_ret
      exact ⟨rfl, k8.out⟩
  · have LL := Lib.hid hL
    have NL := Lib.hid hnl
    clear hL hnl
    go_wp2_with (at_builtin; refine wpList_append_row rfl _ _ 22 rfl w2.heap.size 42 i0 (.agg #[.int .i64 0, .int .i64 0]) 2 16 Tryd.underlying22 hi0 hz0 hz1 hz2 rfl (by decide) _ i (flat la) rfl (o1.out.alloc _) (some ⟨v1.heap.size, 0, none⟩) 1 1 (flat [(lo, v)]) rfl (by simp) (Nat.le_refl _) rfl _ (Has.new v1 42 #[K lo, K v]).row (flat_one [(lo, v)]) (by unfold maxLen; omega) (by omega) (by have := g1.out.size; simp; omega) ?_)
    intro val2 v2_ hown hgrow
    have g2 := Lib.hid ((g1.out.alloc g1.out.size (.cells #[K lo, K v] 42)).grown hgrow (by have := g1.out.size; simp; omega) (fun r e => (o1.out.lt r e).1))
    have o2 : Hid (v2_.ownsRow w2.heap.size 42 2 val2 nl (flat L)) := by show v2_.ownsRow _ _ _ _ _ _; rw [LL.out, NL.out, flat_append]; exact hown
    clear hown hgrow
    obtain ⟨Aw, cw, rfl, hw⟩ := here_own HL.out (by omega) (Nat.lt_of_lt_of_le h0.out k2.out.size) (hst.out.below h0.out k2.out) o2.out g2.out
    obtain ⟨Ap, run, hp⟩ := here_from hw i9
    rw [d0.out] at run hp
    rw [D0.out] at hp
    have rp := Lib.hid hp
    clear hw hp
    go_wp2_with fail
    refine (own4_owned _ _ _ _ _ rp.out).mono ?_
    rintro e v3 ⟨val3, rfl, hown, hb⟩
    have o3 := Lib.hid hown
    have g3 := Lib.hid hb
    have G3 := Lib.hid (Below.after g2.out hb)
    have o2n := Lib.hid (owned_next o2.out hb)
    have ap := Lib.hid (owned_apart o2.out hown)
    have rb3 := Lib.hid (rb_2.out.next G3.out)
    have p3 := Lib.hid G3.out.size
    clear run rp hown hb
    go_wp2_with (at_builtin; refine wpList_append_row rfl _ _ 22 rfl w2.heap.size 42 i0 (.agg #[.int .i64 0, .int .i64 0]) 2 16 Tryd.underlying22 hi0 hz0 hz1 hz2 rfl (by decide) _ nl (flat L) rfl o2n.out Ab m cb (flat lb) rfl rb3.out.nil rb3.out.cap ?k1 _ rb3.out.row (flat_one lb) (by unfold maxLen; omega) (by omega) p3.out ?_)
    case k1 => rw [flat_length, HB.out]
    intro val4 v4 hown hgrow
    have G4 := Lib.hid (G3.out.grown hgrow p3.out (fun r e => (o2n.out.lt r e).1))
    have o4 := Lib.hid (o3.out.kept hgrow ap.out)
    have z4 := hgrow.size
    rw [D1.out, d1.out] at hown
    obtain ⟨A4, c4, rfl, hw⟩ := here_own HX.out (by omega) (Nat.lt_of_lt_of_le h0.out k2.out.size) (hst.out.below h0.out k2.out) hown G4.out
    have r4 := Lib.hid hw
    have rx4 := Lib.hid (rx2.out.next G4.out)
    have Z4 := Lib.hid z4
    clear hown hgrow hw z4 ap o2n rb3 p3
    go_wp2_with fail
    refine (same4_yes A4 Ax nx c4 cx x HX.out (by omega) _ r4.out.row rx4.out.row).mono ?_
    rintro e v5 ⟨rfl, hb⟩
    have G5 := Lib.hid (Below.after G4.out hb)
    have o5 := Lib.hid (owned_next o4.out hb)
    have rb5 := Lib.hid (rb_2.out.next G5.out)
    have p5 : Hid (v2_.heap.size ≤ v5.heap.size) := Nat.le_trans (Nat.le_trans g3.out.size Z4.out) hb.size
    clear hb r4 rx4 o4 Z4 G4 G3
    go_wp2_with (at_builtin; refine wpList_append_row rfl _ _ 22 rfl v2_.heap.size 42 i0 (.agg #[.int .i64 0, .int .i64 0]) 2 16 Tryd.underlying22 hi0 hz0 hz1 hz2 rfl (by decide) _ np (flat PR) rfl o5.out Ab m cb (flat lb) rfl rb5.out.nil rb5.out.cap ?k1 _ rb5.out.row (flat_one lb) (by unfold maxLen; omega) (by omega) p5.out ?_)
    case k1 => rw [flat_length, HB.out]
    intro val6 w3 hown hgrow
    have G6 := Lib.hid (G5.out.grown hgrow G5.out.size (fun r e => Nat.le_trans g2.out.size (o5.out.lt r e).1))
    rw [D2.out, d2.out] at hown
    obtain ⟨Ar, cr, rfl, hh⟩ := here_own HR.out (by omega) (Nat.lt_of_lt_of_le h0.out k2.out.size) (hst.out.below h0.out k2.out) hown G6.out
    have hb := G6.out
    clear hown hgrow
    have rx3 := Lib.hid (rx2.out.next hb)
    have k3 := Lib.hid (Below.after k2.out hb)
    have rr3 := Lib.hid hh
    clear hb hh rx2 k2
    clear g3 G5 G6 o3 o5 rb5 p5
    go_wp2_with fail
    refine (c2.out _ _ _ rr3.out).mono ?_
    rintro e w4 ⟨Ac, cc, Ad, cd, rfl, hh1, -, hb⟩
    have rx4 := Lib.hid (rx3.out.next hb)
    have k4 := Lib.hid (Below.after k3.out hb)
    have rc4 := Lib.hid hh1
    clear hb hh1 rx3 k3
    rcases J2.out with ⟨rfl, hS, hN⟩ | ⟨rfl, hS, hN⟩
    · subst hS
      subst hN
      go_wp2_with fail
      refine (c3.out _ _ _ rx4.out).mono ?_
      rintro e w5 ⟨As, cs, rfl, hh, hb⟩
      have rx5 := Lib.hid (rx4.out.next hb)
      have rc5 := Lib.hid (rc4.out.next hb)
      have k5 := Lib.hid (Below.after k4.out hb)
      have rs5 := Lib.hid hh
      clear hb hh rx4 rc4 k4
      go_wp2_with fail
      refine (same4_yes _ _ _ _ _ _ HS.out (by omega) _ rs5.out.row rc5.out.row).mono ?_
      rintro e w6 ⟨rfl, hb⟩
      have rx6 := Lib.hid (rx5.out.next hb)
      have rc6 := Lib.hid (rc5.out.next hb)
      have rs6 := Lib.hid (rs5.out.next hb)
      have k6 := Lib.hid (Below.after k5.out hb)
      clear hb  rx5 rc5 rs5 k5
      go_wp2_with fail
      refine (alive5_any _ (Nat.lt_of_lt_of_le h0.out k6.out.size) (hst.out.below h0.out k6.out)).mono ?_
      rintro e w7 ⟨rfl, hb⟩
      have rx7 := Lib.hid (rx6.out.next hb)
      have rc7 := Lib.hid (rc6.out.next hb)
      have rs7 := Lib.hid (rs6.out.next hb)
      have k7 := Lib.hid (Below.after k6.out hb)
      clear hb  rx6 rc6 rs6 k6
      go_wp2
      go_ret
      exact ⟨rfl, k7.out⟩
    · have SS := Lib.hid hS
      have NN := Lib.hid hN
      clear hS hN
      go_wp2_with fail
      refine (own4_owned _ _ _ _ _ rc4.out).mono ?_
      rintro e u1 ⟨vau1, rfl, hown, hb⟩
      have q1_ := Lib.hid hown
      have gg1 := Lib.hid hb
      clear hown hb
      go_wp2_with (at_builtin; refine wpList_append_row rfl _ _ 22 rfl w4.heap.size 42 i0 (.agg #[.int .i64 0, .int .i64 0]) 2 16 Tryd.underlying22 hi0 hz0 hz1 hz2 rfl (by decide) _ i2 (flat la2) rfl (q1_.out.alloc _) (some ⟨u1.heap.size, 0, none⟩) 1 1 (flat [(hi, v2)]) rfl (by simp) (Nat.le_refl _) rfl _ (Has.new u1 42 #[K hi, K v2]).row (flat_one [(hi, v2)]) (by unfold maxLen; omega) (by omega) (by have := gg1.out.size; simp; omega) ?_)
      intro vau2 w5 hown hgrow
      have GG2 := Lib.hid ((gg1.out.alloc gg1.out.size (.cells #[K hi, K v2] 42)).grown hgrow (by have := gg1.out.size; simp; omega) (fun r e => (q1_.out.lt r e).1))
      have q2_ : w5.ownsRow w4.heap.size 42 2 vau2 ns (flat s) := by rw [NN.out, SS.out, flat_append]; exact hown
      obtain ⟨Ae, ce, rfl, hh⟩ := here_own HS.out (by omega) (Nat.lt_of_lt_of_le h0.out k4.out.size) (hst.out.below h0.out k4.out) q2_ GG2.out
      have hb := GG2.out
      clear hown hgrow q2_
      have rx5 := Lib.hid (rx4.out.next hb)
      have k5 := Lib.hid (Below.after k4.out hb)
      have re5 := Lib.hid hh
      clear hb hh rx4 k4
      clear q1_ gg1 GG2
      go_wp2_with fail
      refine (c3.out _ _ _ rx5.out).mono ?_
      rintro e w6 ⟨As, cs, rfl, hh, hb⟩
      have rx6 := Lib.hid (rx5.out.next hb)
      have re6 := Lib.hid (re5.out.next hb)
      have k6 := Lib.hid (Below.after k5.out hb)
      have rs6 := Lib.hid hh
      clear hb hh rx5 re5 k5
      go_wp2_with fail
      refine (same4_yes _ _ _ _ _ _ HS.out (by omega) _ rs6.out.row re6.out.row).mono ?_
      rintro e w7 ⟨rfl, hb⟩
      have rx7 := Lib.hid (rx6.out.next hb)
      have re7 := Lib.hid (re6.out.next hb)
      have rs7 := Lib.hid (rs6.out.next hb)
      have k7 := Lib.hid (Below.after k6.out hb)
      clear hb  rx6 re6 rs6 k6
      go_wp2_with fail
      refine (alive5_any _ (Nat.lt_of_lt_of_le h0.out k7.out.size) (hst.out.below h0.out k7.out)).mono ?_
      rintro e w8 ⟨rfl, hb⟩
      have rx8 := Lib.hid (rx7.out.next hb)
      have re8 := Lib.hid (re7.out.next hb)
      have rs8 := Lib.hid (rs7.out.next hb)
      have k8 := Lib.hid (Below.after k7.out hb)
      clear hb  rx7 re7 rs7 k7
      go_wp2
      go_ret
      exact ⟨rfl, k8.out⟩

set_option maxHeartbeats 4000000 in
theorem setCut_few (o : Nat) (A : Option Addr) (n c : Nat) (a : List Pr) (lo hi : BitVec 64) (hn : n ≤ 150) (w : World) (hA : Here w A n c a) :
    Calls Tryd.prog 6 #[.int .u8 o, .slice A n c, K lo, K hi] w fun e w' => e = .returned (.bool true) ∧ Below w.heap.size w w' := by
  obtain ⟨q, hq⟩ : ∃ q : Nat, 1 + o % 7 = q := ⟨_, rfl⟩
  have q1 : 1 ≤ q := by omega
  have q7 : q ≤ 7 := by omega
  have hmq : 1 + (o : Int) % 7 = (q : Int) := by omega
  clear hq
  obtain ⟨x, hx⟩ : ∃ x, sortL q 2 a = x := ⟨_, rfl⟩
  have ix : incr q x := hx ▸ sortL_incr q 2 a
  have lx : x.length ≤ 150 := by have := len_sortL q 2 a; rw [hx, hA.len] at this; omega
  have mx : mayB q x = true := mayB_incr q1 q7 ix
  obtain ⟨i, j, ha⟩ : ∃ i j, At q x lo i j := ⟨_, _, at_of (rises_of_incr ix) lo⟩
  have ir : incr q (x.drop i) := List.Pairwise.sublist (List.drop_sublist i x) ix
  have mr : mayB q (x.drop i) = true := mayB_incr q1 q7 ir
  obtain ⟨i2, j2, ha2⟩ : ∃ i2 j2, At q (x.drop i) hi i2 j2 := ⟨_, _, at_of (rises_of_incr ir) hi⟩
  have a1 := ha.le
  have a2 := ha.len
  have a3 := ha.one
  have b1 := ha2.le
  have b2 := ha2.len
  have b3 := ha2.one
  have lr : (x.drop i).length = x.length - i := List.length_drop
  have hs : rangeL q lo hi x = (x.drop i).take j2 := by rw [range_cuts, ha.fromOn, ha2.upTo]
  refine setCut_core o q hmq q1 q7 A n c a lo hi hn x (x.take i) (x.drop j) (x.take j) ((x.take j).drop i) (x.drop i) ((x.drop i).take i2) ((x.drop i).drop j2) ((x.drop i).take j2) x.length i (x.length - j) j (j - i) (x.length - i) i2 (x.length - i - j2) j2 (valAt x i j) (valAt (x.drop i) i2 j2) (decide (i < j)) (decide (i2 < j2))
    hx rfl lx List.length_drop (by rw [List.length_take]; omega) lr (by rw [List.length_take]; omega)
    (fun A c W h => cut_yes q A x.length c x lo i j _ _ _ rfl rfl mx ha rfl W h)
    (fun A c W h => cut_yes q A (x.length - i) c (x.drop i) hi i2 j2 _ _ _ rfl rfl mr ha2 rfl W h)
    (fun A c W h => range_yes q A x.length c x _ _ lo hi mx hs (by rw [List.length_take]; omega) W h)
    ?_ ?_ rfl rfl (List.take_append_drop j x) (by omega) (by rw [ha.pair_of]; exact ha.pair_drop) (by omega) (by omega) (by omega) (by omega) w hA
  · rcases Nat.lt_or_ge i j with h | h
    · refine .inr ⟨decide_eq_true h, ?_, by omega⟩
      rw [← ha.take_pair]; unfold pairOf; rw [if_pos h]
    · refine .inl ⟨decide_eq_false (by omega), by rw [show j = i by omega], by omega⟩
  · rcases Nat.lt_or_ge i2 j2 with h | h
    · refine .inr ⟨decide_eq_true h, ?_, by omega⟩
      rw [← ha2.take_pair]; unfold pairOf; rw [if_pos h]
    · refine .inl ⟨decide_eq_false (by omega), by rw [show j2 = i2 by omega], by omega⟩
end Go.Proofs.YtjnnfineebabaaaDoor
namespace Go.Proofs.YtjnnfineebabaaaDoor
open Go.ChangeShapes Go.WideShapes Go.ChangeAt Go.RowKit
open Go.Proofs.Rowm
theorem setCut_any (o : Nat) (A : Option Addr) (n c : Nat) (a : List Pr) (lo hi : BitVec 64) (hl : a.length = n) (hn : n ≤ c) (hc : c ≤ maxLen) (hA : A = none → c = 0) (w : World) (hr : Row w w.heap.size A (flat a)) (h0 : 0 < w.heap.size) (hs : Steps w) :
    Calls Tryd.prog 6 #[.int .u8 o, .slice A n c, K lo, K hi] w fun e w' => e = .returned (.bool true) ∧ Below w.heap.size w w' := by
  rcases Nat.lt_or_ge 150 n with h | h
  · exact setCut_many o A n c lo hi h (Nat.le_trans hn hc) w h0 hs
  · exact setCut_few o A n c a lo hi h w ⟨hl, by omega, hn, hA, h0, hs, hr⟩

set_option maxRecDepth 100000 in
theorem rowsetCut_lifted (os : Os) (started : os.Started) (H : Type) (enc : TypeId × Value → H) :
    ReturnsInHanded {} Tryd.checked os 6 .any (fun w args => (Rows.rowsetCutSpec.pre enc Tryd.prog Tryd.f6 [] false w args ∧ laidMetH Tryd.prog laid4 w) ∧ sizedMet enc Tryd.prog Tryd.f6 (OpenSpec.ofChange Rows.rowsetCutSpec) false w args)
      (Rows.rowsetCutSpec.post enc Tryd.prog Tryd.f6 false true false false) := by
  refine returnsInHanded_of_change_and (C := Tryd.checked) (X := fun w _ => laidMetH Tryd.prog laid4 w) (fun _ _ _ hh h => h.of_heap hh) own started (by kernel_rfl) Tryd.func6
    (ChangeSpec.witness_shaped (enc := enc) (C := Tryd.checked) (os := os) (X := fun w _ => laidMetH Tryd.prog laid4 w) false (World.doorLaid Tryd.prog 400 os) #[.int .u8 0, .slice none 0 0, .int .i64 0, .int .i64 0] 8 rfl (World.shaped_of_RefB (by kernel_rfl) (by kernel_rfl)) (by kernel_rfl) (by kernel_rfl) (by kernel_rfl) (door_met os _)) ?_
  intro W base args ds gs before hval0 hW _ _ hL _
  have hval : ∀ (j : Nat) t v, Tryd.f6.params[j]? = some t → args[j]? = some v → Value.okWide Tryd.prog W .any base t v := hval0
  have hW' := hW
  obtain ⟨p, q, hA0, hV, rfl, hfz, hnd⟩ := hW
  have hA : DataW.TrodAll enc Tryd.prog W 0 (fun _ => true) true Tryd.f6.params.toList args.toList ds p := hA0
  rw [Tryd.params6] at hA hval
  obtain ⟨v0, vs0, d0, ds0, p0, q0, hargs, rfl, rfl, h0, r0⟩ := trodAll_cons hA
  obtain ⟨v1, vs1, d1, ds1, p1, q1, rfl, rfl, rfl, h1, r1⟩ := trodAll_cons r0
  obtain ⟨v2, vs2, d2, ds2, p2, q2, rfl, rfl, rfl, h2, r2⟩ := trodAll_cons r1
  obtain ⟨v3, vs3, d3, ds3, p3, q3, rfl, rfl, rfl, h3, r3⟩ := trodAll_cons r2
  obtain ⟨rfl, rfl, rfl⟩ := trodAll_nil r3
  obtain rfl : args = #[v0, v1, v2, v3] := by cases args; simp_all
  obtain ⟨rfl, rfl⟩ := trodVars_none hV
  obtain ⟨a0, rfl, rfl, rfl, w0⟩ := open_int Tryd.underlying5 (hval 0 5 v0 rfl rfl) h0
  obtain ⟨b0, rfl, u0⟩ := byte_of a0 w0
  have k1 := h1
  have lt1 : ∀ x ∈ p1, x.block < W.heap.size := by obtain ⟨m, hm⟩ := k1; exact DataW.trod_lt m _ _ _ hm
  obtain ⟨A1, n1, c1, l1, rfl, hl1, hn1, hc1, hz1, hr1⟩ := open_pairs (hval 1 22 v1 rfl rfl) h1
  obtain ⟨a2, rfl, rfl, rfl, w2⟩ := open_int Tryd.underlying2 (hval 2 2 v2 rfl rfl) h2
  obtain ⟨b2, rfl⟩ := key_of a2 w2
  obtain ⟨a3, rfl, rfl, rfl, w3⟩ := open_int Tryd.underlying2 (hval 3 2 v3 rfl rfl) h3
  obtain ⟨b3, rfl⟩ := key_of a3 w3
  obtain ⟨hz, hst⟩ := steps_of hL
  clear hA0 hval0
  refine (setCut_any b0 A1 n1 c1 l1 b2 b3 hl1 hn1 hc1 hz1 W hr1 hz hst).mono fun e W' ⟨he, bel⟩ => ?_
  subst he
  exact ⟨_, rfl, _, _, _, [], _, [], hW', trodAll_mk1 (shut_bool Tryd.underlying4 _), trodAll_cons_mk (shut_int Tryd.underlying5 w0) (trodAll_cons_mk (Below.trod laidOut (by kernel_rfl) (of_decide_eq_true (by kernel_rfl)) k1 bel lt1) (trodAll_cons_mk (shut_int Tryd.underlying2 w2) (trodAll_cons_mk (shut_int Tryd.underlying2 w3) trodAll_mk0))), rfl, bel.frame _, fun h => by cases h⟩

theorem rowsetCut_row : Rows.RowsetCutSaid :=
  OpenClaim.holds_of_wide 6 Tryd.f6 rfl rfl rfl rfl rfl rfl rfl ⟨rfl, rfl, rfl, rfl, rfl⟩ rfl rfl rfl rfl rfl (by kernel_rfl) Tryd.func6 (by kernel_rfl)
    (of_decide_eq_true (by kernel_rfl)) (by unfold Func.isWrapper; first | (rw [if_pos (by decide +kernel)]; kernel_rfl) | (rw [if_neg (by decide +kernel)]; exact ⟨rfl, rfl⟩))
    (fun os started H enc _ => rowsetCut_lifted os started H enc)

theorem rowsetCut_holds : Rows.RowsetCutCardSaid :=
  Claim7.holds_tied_plain_at .later [] [.data] true Rows.rowsetCutCard.stood.harness false
    rowsetCut_row (fun _ h => by cases h) (by kernel_rfl) (fun _ h => by cases h) rowsetCut_row_tie rfl ⟨rfl, rfl⟩ (by kernel_rfl) rfl
    (fun f fn hf hfn => by
      obtain rfl : f = 6 := Option.some.inj ((show Tryd.prog.funcNamed Rows.rowsetCutRow.func = some 6 by kernel_rfl).symm.trans hf) |>.symm
      obtain rfl : fn = Tryd.f6 := (Option.some.inj (Tryd.func6.symm.trans hfn)).symm
      exact ⟨by kernel_rfl, fun j t ht => by
        rw [Tryd.params6] at ht
        have hm : t ∈ [5, 22, 2, 2] := by simpa using Array.mem_of_getElem? ht
        have hall : ([5, 22, 2, 2].all fun u => !Tryd.prog.wantsStandIn u) = true := by kernel_rfl
        exact (show Tryd.prog.wantsStandIn t = false by simpa using List.all_eq_true.1 hall t hm)⟩)
    (by kernel_rfl)
#print axioms rowsetCut_holds
end Go.Proofs.YtjnnfineebabaaaDoor
