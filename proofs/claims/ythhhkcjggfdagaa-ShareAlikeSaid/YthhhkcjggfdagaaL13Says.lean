/- What package share has to answer (layer 13); the chapter's example (alive). -/
import Derived.Test.YthhhkcjggfdagaaL13At
import Derived.Test.YthhhkcjggfdagaaL9Stand
import Derived.Test.YthhhkcjggfdagaaL9High
import Derived.Test.YthhhkcjggfdagaaL9Rules
import Derived.Test.YthhhkcjggfdagaaL9Steps
import Derived.Test.YthhhkcjggfdagaaGTurns
import Derived.Test.YthhhkcjggfdagaaGOwn
import Derived.Deep.Cut
namespace Go.Proofs.Ythhhkcjggfdagaa
open Go.RowKit Go.Proofs.Treem Go.Proofs.Cardm
set_option maxRecDepth 100000
variable {Nd : NdP}

theorem Stand.lt (hN : NodeSays Nd) {W : World} {T : AT} (h : Stand Nd W T) : ∀ a ∈ T.addrs, a.block < W.heap.size := h.lies.lt hN
/-- whether a pointer leads to one of those places -/
def inB : Option Addr → List Addr → Bool
  | none, _ => false
  | some a, l => decide (a ∈ l)
/-- what the functions of package share have to answer (of few nodes) -/
structure ShareSays (Nd : NdP) : Prop where
  nodes : ∀ (w : World) (T : AT), Stand Nd w T → card T.addrs ≤ 2000 → Calls Try.prog 10 #[.pointer T.ptr] w fun e w' => e = .returned (nI (card T.addrs)) ∧ Below w.heap.size w w'
  isIn : ∀ (w : World) (T V : AT), Stand Nd w T → Stand Nd w V → card T.addrs ≤ 2000 → Calls Try.prog 16 #[.pointer T.ptr, .pointer V.ptr] w fun e w' => e = .returned (.bool (inB V.ptr T.addrs)) ∧ Below w.heap.size w w'
  new : ∀ (w : World) (T : AT) (os : List AT) (A : Option Addr) (n c : Nat), Stand Nd w T → (∀ U ∈ os, Stand Nd w U) → LieP w w.heap.size A n c (os.map AT.ptr) → n ≤ 2000 → card (addrsOf os ++ T.addrs) ≤ 2000 →
    Calls Try.prog 9 #[.pointer T.ptr, .slice A n c] w fun e w' => e = .returned (nI (newC T.addrs (addrsOf os))) ∧ Below w.heap.size w w'
  same : ∀ (w : World) (T U : AT), Stand Nd w T → Stand Nd w U → card (U.addrs ++ T.addrs) ≤ 2000 → Calls Try.prog 8 #[.pointer T.ptr, .pointer U.ptr] w fun e w' => e = .returned (nI (sameC T.addrs U.addrs)) ∧ Below w.heap.size w w'
  tops : ∀ (w : World) (T : AT) (os : List AT) (A : Option Addr) (n c : Nat), Stand Nd w T → (∀ U ∈ os, Stand Nd w U) → LieP w w.heap.size A n c (os.map AT.ptr) → n ≤ 2000 → card (addrsOf os ++ T.addrs) ≤ 2000 →
    Calls Try.prog 11 #[.pointer T.ptr, .slice A n c] w fun e w' => ∃ v, e = .returned v ∧ w'.ownsRow w.heap.size 25 1 v (topsOf (addrsOf os) T).length (((topsOf (addrsOf os) T).map AT.ptr).map Value.pointer) ∧ Below w.heap.size w w'
theorem one_lit (w : World) (t : TypeId) (p : Option Addr) : LieP (w.alloc (.cells #[.pointer p] t)) (w.alloc (.cells #[.pointer p] t)).heap.size (some ⟨w.heap.size, 0, none⟩) 1 1 [p] := LieP.lit [p] (Has.new w t #[.pointer p]) (by unfold maxLen; simp)
set_option maxHeartbeats 4000000 in
theorem alive13_any (hN : NodeSays Nd) (hS : ShareSays Nd) (w : World) : Calls Try.prog 6 #[] w fun e w' => e = .returned (.bool true) ∧ Below w.heap.size w w' := by
  have c1 : Hid (Calls Try.prog 15 #[.pointer none, .int .i64 5, .int .i64 0, .int .u64 0, .pointer none] w (Made13 Nd .e .e 5#64 0#64 0#64 w)) := new13 hN w .e .e 5#64 0#64 0#64 (Stand.none_ w) (Stand.none_ w)
  have pe := ptr_eql
  have hN' := Lib.hid hN
  have hS' := Lib.hid hS
  clear hN hS
  go_enter Try.func6, Try.ntmps6
  go_wp2_with fail
  refine c1.out.mono ?_
  rintro e w1 ⟨a, x, rfl, -, hX, ha, hb⟩
  have b1 := Lib.hid hb
  have X1 := Lib.hid hX
  have c2 : Hid (Calls Try.prog 15 #[.pointer (some a), .int .i64 1, .int .i64 0, .int .u64 0, .pointer (some a)] w1 (Made13 Nd (.n a x .e .e) (.n a x .e .e) 1#64 0#64 0#64 w1)) := new13 hN'.out w1 _ _ 1#64 0#64 0#64 hX hX
  clear hb hX ha c1
  go_wp2_with fail
  refine c2.out.mono ?_
  rintro e w2 ⟨b, y, rfl, -, hT, hab, hb⟩
  obtain ⟨X, hX0⟩ : ∃ X, AT.n a x .e .e = X := ⟨_, rfl⟩
  obtain ⟨T, hT0⟩ : ∃ T, AT.n b y (.n a x .e .e) (.n a x .e .e) = T := ⟨_, rfl⟩
  have hne : b ≠ a := fun e => by have := X1.out.lt hN'.out a (by simp [AT.addrs]); rw [e] at hab; omega
  have pX : X.ptr = some a := hX0 ▸ rfl
  have pT : T.ptr = some b := hT0 ▸ rfl
  have aX : X.addrs = [a] := hX0 ▸ rfl
  have aT : T.addrs = [a, b, a] := hT0 ▸ rfl
  have oX : addrsOf [X] = [a] := by simp [addrsOf, aX]
  have k1 : card T.addrs = 2 := by rw [aT]; simp [card, hne, Ne.symm hne]
  have k2 : newC T.addrs [a] = 1 := by rw [aT]; simp [newC, card, hne]
  have k3 : topsOf [a] T = [X] := by
    rw [← hT0, ← hX0]
    simp [topsOf, AT.tops, AT.ptr, hne]
  have k4 : inB (some a) T.addrs = true := by rw [aT]; simp [inB]
  have k5 : inB (some b) X.addrs = false := by rw [aX]; simp [inB, hne]
  have k6 : card ([a] ++ T.addrs) ≤ 2000 := Nat.le_trans (card_le _) (by rw [aT]; simp)
  have k7 : card X.addrs ≤ 2000 := Nat.le_trans (card_le _) (by rw [aX]; simp)
  rw [hX0] at X1
  rw [hT0] at hT
  have T2 := Lib.hid hT
  have X2 := Lib.hid (X1.out.after hN'.out hb)
  have b2 := Lib.hid (Below.after b1.out hb)
  have cT : Hid (∀ (U : World) (g : Nat), Stand Nd U T → Stand Nd U X → LieP U U.heap.size (some ⟨g, 0, none⟩) 1 1 [some a] → Calls Try.prog 11 #[.pointer (some b), .slice (some ⟨g, 0, none⟩) 1 1] U fun e w' => ∃ v, e = .returned v ∧ w'.ownsRow U.heap.size 25 1 v 1 [.pointer (some a)] ∧ Below U.heap.size U w') := fun U g h1 h2 h3 => by
    have := hS'.out.tops U T [X] (some ⟨g, 0, none⟩) 1 1 h1 (fun V hV => by rw [List.mem_singleton.1 hV]; exact h2) (by simpa [pX] using h3) (by decide) (by rw [oX]; exact k6)
    rw [oX, k3, pT] at this
    simpa [pX] using this
  have cN : Hid (∀ (U : World), Stand Nd U T → Calls Try.prog 10 #[.pointer (some b)] U fun e w' => e = .returned (.int .i64 2) ∧ Below U.heap.size U w') := fun U h1 => by
    have := hS'.out.nodes U T h1 (by rw [k1]; decide)
    rw [k1, pT] at this
    exact this
  have cW : Hid (∀ (U : World) (g : Nat), Stand Nd U T → Stand Nd U X → LieP U U.heap.size (some ⟨g, 0, none⟩) 1 1 [some a] → Calls Try.prog 9 #[.pointer (some b), .slice (some ⟨g, 0, none⟩) 1 1] U fun e w' => e = .returned (.int .i64 1) ∧ Below U.heap.size U w') := fun U g h1 h2 h3 => by
    have := hS'.out.new U T [X] (some ⟨g, 0, none⟩) 1 1 h1 (fun V hV => by rw [List.mem_singleton.1 hV]; exact h2) (by simpa [pX] using h3) (by decide) (by rw [oX]; exact k6)
    rw [oX, k2, pT] at this
    exact this
  have cI1 : Hid (∀ (U : World), Stand Nd U T → Stand Nd U X → Calls Try.prog 16 #[.pointer (some b), .pointer (some a)] U fun e w' => e = .returned (.bool true) ∧ Below U.heap.size U w') := fun U h1 h2 => by
    have := hS'.out.isIn U T X h1 h2 (by rw [k1]; decide)
    rw [pT, pX, k4] at this
    exact this
  have cI2 : Hid (∀ (U : World), Stand Nd U T → Stand Nd U X → Calls Try.prog 16 #[.pointer (some a), .pointer (some b)] U fun e w' => e = .returned (.bool false) ∧ Below U.heap.size U w') := fun U h1 h2 => by
    have := hS'.out.isIn U X T h2 h1 k7
    rw [pT, pX, k5] at this
    exact this
  have cI3 : Hid (∀ (U : World), Stand Nd U T → Calls Try.prog 16 #[.pointer (some b), .pointer none] U fun e w' => e = .returned (.bool false) ∧ Below U.heap.size U w') := fun U h1 => by
    have := hS'.out.isIn U T .e h1 (Stand.none_ U) (by rw [k1]; decide)
    rw [pT] at this
    exact this
  clear hb hT hX0 hT0 hne pX pT aX aT oX k1 k2 k3 k4 k5 k6 k7 X1 b1 c2 hab hS'
  go_upto_region 3 with (fail)
  obtain ⟨gs, hgs⟩ : ∃ g, w2.heap.size = g := ⟨_, rfl⟩
  obtain ⟨w3, hw3⟩ : ∃ w3, w2.alloc (.cells #[.pointer (some a)] 25) = w3 := ⟨_, rfl⟩
  have l3 : LieP w3 w3.heap.size (some ⟨gs, 0, none⟩) 1 1 [some a] := hgs ▸ hw3 ▸ one_lit w2 _ _
  have b3 : Below w2.heap.size w2 w3 := hw3 ▸ (Below.refl _ _).alloc (Nat.le_refl _) _
  have HW3 := Lib.hid hw3
  have HGS := Lib.hid hgs
  have d1 := Lib.hid (cT.out w3 gs (T2.out.after hN'.out b3) (X2.out.after hN'.out b3) l3)
  have T3 := Lib.hid (T2.out.after hN'.out b3)
  have X3 := Lib.hid (X2.out.after hN'.out b3)
  have B3 := Lib.hid (Below.after b2.out b3)
  clear hw3 hgs l3 b3 T2 X2 b2 cT
  go_wp2_with fail
  rw [HW3.out, HGS.out]
  refine d1.out.mono ?_
  rintro e w4 ⟨v, rfl, ho, hb⟩
  have T4 := Lib.hid (T3.out.after hN'.out hb)
  have X4 := Lib.hid (X3.out.after hN'.out hb)
  have B4 := Lib.hid (Below.after B3.out hb)
  obtain ⟨gl, cl, rfl, -, -, -⟩ := own_full ho (by decide)
  have ho4 := Lib.hid ho
  clear hb ho T3 X3 B3 d1
  go_wp2_with fail
  refine (cN.out w4 T4.out).mono ?_
  rintro e w5 ⟨rfl, hb⟩
  have T5 := Lib.hid (T4.out.after hN'.out hb)
  have X5 := Lib.hid (X4.out.after hN'.out hb)
  have B5 := Lib.hid (Below.after B4.out hb)
  have ho5 := Lib.hid (owned_next ho4.out hb)
  obtain ⟨g5, hg5⟩ : ∃ g, w5.heap.size = g := ⟨_, rfl⟩
  obtain ⟨w6, hw6⟩ : ∃ w6, w5.alloc (.cells #[.pointer (some a)] 25) = w6 := ⟨_, rfl⟩
  have l6 : LieP w6 w6.heap.size (some ⟨g5, 0, none⟩) 1 1 [some a] := hg5 ▸ hw6 ▸ one_lit w5 _ _
  have b6 : Below w5.heap.size w5 w6 := hw6 ▸ (Below.refl _ _).alloc (Nat.le_refl _) _
  have HW6 := Lib.hid hw6
  have HG5 := Lib.hid hg5
  have d2 := Lib.hid (cW.out w6 g5 (T5.out.after hN'.out b6) (X5.out.after hN'.out b6) l6)
  have T6 := Lib.hid (T5.out.after hN'.out b6)
  have X6 := Lib.hid (X5.out.after hN'.out b6)
  have B6 := Lib.hid (Below.after B5.out b6)
  have ho6 := Lib.hid (owned_next ho5.out b6)
  clear hb hw6 hg5 l6 b6 T5 X5 B5 T4 X4 B4 ho4 ho5 cN cW
  go_wp2_with fail
  rw [HW6.out, HG5.out]
  refine d2.out.mono ?_
  rintro e w7 ⟨rfl, hb⟩
  have T7 := Lib.hid (T6.out.after hN'.out hb)
  have X7 := Lib.hid (X6.out.after hN'.out hb)
  have B7 := Lib.hid (Below.after B6.out hb)
  have y0 : w7.cell? ⟨gl, 0, none⟩ = some (.pointer (some a)) := keep_cell hb (ho6.out.cells (g := gl) rfl 0 _ rfl)
  clear hb T6 X6 B6 ho6 d2
  go_wp2_with fail
  refine (cI1.out w7 T7.out X7.out).mono ?_
  rintro e w8 ⟨rfl, hb⟩
  have T8 := Lib.hid (T7.out.after hN'.out hb)
  have X8 := Lib.hid (X7.out.after hN'.out hb)
  have B8 := Lib.hid (Below.after B7.out hb)
  clear hb T7 X7 B7 y0 cI1
  go_wp2_with fail
  refine (cI2.out w8 T8.out X8.out).mono ?_
  rintro e w9 ⟨rfl, hb⟩
  have T9 := Lib.hid (T8.out.after hN'.out hb)
  have B9 := Lib.hid (Below.after B8.out hb)
  clear hb T8 X8 B8 cI2
  go_wp2_with fail
  refine (cI3.out w9 T9.out).mono ?_
  rintro e w10 ⟨rfl, hb⟩
  have B10 := Lib.hid (Below.after B9.out hb)
  clear hb T9 B9 cI3
  go_wp2_with fail
  go_ret
  exact ⟨rfl, B10.out⟩
end Go.Proofs.Ythhhkcjggfdagaa
