/- The contracts of Drop and Put of package row. -/
import Derived.Test.YtekggefokoaidaaDoorL4Seek
import Derived.Test.YtekggefokoaidaaDoorL4RefF
namespace Go.Proofs.YtekggefokoaidaaDoor
open Go.RowKit Go.Shelf Go.Proofs.Rowm

set_option maxHeartbeats 1000000 in
theorem drop_no (o : Nat) (A : Option Addr) (n c : Nat) (l : List Pr) (key : BitVec 64) (hm : mayB o l = false) (hl : l.length = n) (hn : n ≤ 1000) (w : World) (h0 : 0 < w.heap.size) (hs : Steps w) (hr : Row w w.heap.size A (flat l)) :
    Calls Tryd.prog 14 #[.int .u8 o, .slice A n c, K key] w (MadeT w [] (.bool false)) := by
  have hr' := Lib.hid hr
  have hl' := Lib.hid hl
  have hm' := Lib.hid hm
  have hs' := Lib.hid hs
  clear hr hl hm hs
  go_enter Tryd.func14, Tryd.ntmps14
  go_wp2_with fail
  refine (rowMay_is hm'.out hl'.out hn h0 hs'.out hr'.out).mono ?_
  rintro e w1 ⟨rfl, hb⟩
  have b1 := Lib.hid hb
  clear hb
  go_wp2
  go_ret2
  exact made_none _ _ _ b1.out

/-- a part of a slice that lies, as Concat takes it -/
theorem lies_of {w : World} {A : Option Addr} {c : Nat} {l : List Pr} {B : Nat} (hr : Row w B A (flat l)) (hc : l.length ≤ c) (hA : A = none → c = 0) : (Part.mk A c l).Lies w B := ⟨hr, hc, hA⟩
theorem two_parts {w : World} {g : Nat} {t : TypeId} {p q : Part} {u v : Value} (hu : p.val = u) (hv : q.val = v) (h : Has w g t #[u, v]) : ∀ k (hk : k < [p, q].length), w.cell? ⟨g, k, none⟩ = some [p, q][k].val := by
  intro k hk
  rw [h.cell k]
  match k, hk with
  | 0, _ => simp [← hu]
  | 1, _ => simp [← hv]
theorem three_parts {w : World} {g : Nat} {t : TypeId} {p q r : Part} {u v x : Value} (hu : p.val = u) (hv : q.val = v) (hx : r.val = x) (h : Has w g t #[u, v, x]) : ∀ k (hk : k < [p, q, r].length), w.cell? ⟨g, k, none⟩ = some [p, q, r][k].val := by
  intro k hk
  rw [h.cell k]
  match k, hk with
  | 0, _ => simp [← hu]
  | 1, _ => simp [← hv]
  | 2, _ => simp [← hx]

/-- the call of Concat at the end of Drop -/
theorem concat_two (A A2 : Option Addr) (i c n2 c2 : Nat) (a b : List Pr) (ha : a.length = i) (hb : b.length = n2) (hc : i ≤ c) (hc2 : n2 ≤ c2) (hA : A = none → c = 0) (hA2 : A2 = none → c2 = 0) (ht : (a ++ b).length ≤ 1000) (w : World) (r1 : Row w w.heap.size A (flat a)) (r2 : Row w w.heap.size A2 (flat b)) :
    Calls Tryd.prog 30 #[.slice (some ⟨w.heap.size, 0, none⟩) 2 2] (w.alloc (.cells #[.slice A i c, .slice A2 n2 c2] 22)) (OwnsP (w.alloc (.cells #[.slice A i c, .slice A2 n2 c2] 22)) (w.alloc (.cells #[.slice A i c, .slice A2 n2 c2] 22)).heap.size (a ++ b)) := by
  have hb0 := (Below.refl w.heap.size w).alloc (Nat.le_refl _) (.cells #[.slice A i c, .slice A2 n2 c2] 22)
  have := concat_any w.heap.size 2 [⟨A, c, a⟩, ⟨A2, c2, b⟩] rfl (by omega) (w.alloc (.cells #[.slice A i c, .slice A2 n2 c2] 22)) (by simp)
    (two_parts (by simp [Part.val, ha]) (by simp [Part.val, hb]) (Has.new w 22 #[.slice A i c, .slice A2 n2 c2]))
    (fun p hp => by
      simp only [List.mem_cons, List.not_mem_nil, or_false] at hp
      rcases hp with rfl | rfl
      · exact lies_of (r1.next hb0) (by omega) hA
      · exact lies_of (r2.next hb0) (by omega) hA2) (by simpa [whole] using ht)
  simpa [whole] using this
theorem concat_three (A A1 A2 : Option Addr) (i c n1 c1 n2 c2 : Nat) (a d b : List Pr) (ha : a.length = i) (hd : d.length = n1) (hb : b.length = n2) (hc : i ≤ c) (hc1 : n1 ≤ c1) (hc2 : n2 ≤ c2) (hA : A = none → c = 0) (hA1 : A1 = none → c1 = 0) (hA2 : A2 = none → c2 = 0) (ht : (a ++ d ++ b).length ≤ 1000) (w : World) (r1 : Row w w.heap.size A (flat a)) (rd : Row w w.heap.size A1 (flat d)) (r2 : Row w w.heap.size A2 (flat b)) :
    Calls Tryd.prog 30 #[.slice (some ⟨w.heap.size, 0, none⟩) 3 3] (w.alloc (.cells #[.slice A i c, .slice A1 n1 c1, .slice A2 n2 c2] 22)) (OwnsP (w.alloc (.cells #[.slice A i c, .slice A1 n1 c1, .slice A2 n2 c2] 22)) (w.alloc (.cells #[.slice A i c, .slice A1 n1 c1, .slice A2 n2 c2] 22)).heap.size (a ++ d ++ b)) := by
  have hb0 := (Below.refl w.heap.size w).alloc (Nat.le_refl _) (.cells #[.slice A i c, .slice A1 n1 c1, .slice A2 n2 c2] 22)
  have := concat_any w.heap.size 3 [⟨A, c, a⟩, ⟨A1, c1, d⟩, ⟨A2, c2, b⟩] rfl (by omega) (w.alloc (.cells #[.slice A i c, .slice A1 n1 c1, .slice A2 n2 c2] 22)) (by simp)
    (three_parts (by simp [Part.val, ha]) (by simp [Part.val, hd]) (by simp [Part.val, hb]) (Has.new w 22 #[.slice A i c, .slice A1 n1 c1, .slice A2 n2 c2]))
    (fun p hp => by
      simp only [List.mem_cons, List.not_mem_nil, or_false] at hp
      rcases hp with rfl | rfl | rfl
      · exact lies_of (r1.next hb0) (by omega) hA
      · exact lies_of (rd.next hb0) (by omega) hA1
      · exact lies_of (r2.next hb0) (by omega) hA2) (by simp only [whole, List.flatMap_cons, List.flatMap_nil, List.append_nil]; rw [← List.append_assoc]; exact ht)
  simp only [whole, List.flatMap_cons, List.flatMap_nil, List.append_nil] at this
  rw [← List.append_assoc] at this
  exact this

set_option maxHeartbeats 2000000 in
theorem drop_yes (o : Nat) (A : Option Addr) (n c : Nat) (l : List Pr) (key : BitVec 64) (i j : Nat) (t : Bool) (ht : decide (i < j) = t) (hm : mayB o l = true) (ha : At o l key i j) (hl : l.length = n) (hn : n ≤ 900) (hnc : n ≤ c) (hA : A = none → c = 0) (w : World) (h0 : 0 < w.heap.size) (hs : Steps w) (hr : Row w w.heap.size A (flat l)) :
    Calls Tryd.prog 14 #[.int .u8 o, .slice A n c, K key] w (MadeT w (dropAt l i j) (.bool t)) := by
  obtain ⟨h1, h7, _⟩ := mayB_parts hm
  have hij := ha.le
  have hjn : j ≤ n := hl ▸ ha.len
  have hone := ha.one
  have hin : i ≤ n := by omega
  have hn' : n ≤ 1000 := by omega
  have hcut := cutP_to A n c i hin hnc
  obtain ⟨A1, hcut1, hA1, hlen1, hrow1⟩ := cutP_from A n c i l hl hin hnc hA
  obtain ⟨A2, hcut2, hA2, hlen2, hrow2⟩ := cutP_from A n c j l hl hjn hnc hA
  have hlt : Hid ((l.take i).length = i) := by show (l.take i).length = i; exact ha.len_take
  have hld : Hid ((dropAt l i j).length ≤ 1000) := by have := ha.len_drop; show (dropAt l i j).length ≤ 1000; omega
  have r0 : Hid (Row w w.heap.size A (flat (l.take i))) := by rw [flat_take]; exact hr.take _
  have r2 := Lib.hid (hrow2 _ _ hr)
  have hA2' := Lib.hid hA2
  have hA' := Lib.hid hA
  have hlen2' := Lib.hid hlen2
  have hr' := Lib.hid hr
  have hl' := Lib.hid hl
  have hm' := Lib.hid hm
  have hs' := Lib.hid hs
  have ha' := Lib.hid ha
  have ht' := Lib.hid ht
  clear hr hl hm hs ha hA hA1 hA2 hlen1 hlen2 hrow1 hrow2
  by_cases hlt2 : i < j
  · obtain rfl : t = true := by rw [← ht]; exact decide_eq_true hlt2
    obtain rfl : j = i + 1 := by omega
    simp only [Int.natCast_add, Int.natCast_one] at hcut2
    clear ht hone
    go_enter Tryd.func14, Tryd.ntmps14
    go_wp2_with fail
    refine (rowMay_is hm'.out hl'.out hn' h0 hs'.out hr'.out).mono ?_
    rintro e w1 ⟨rfl, hb⟩
    have b1 := Lib.hid hb
    clear hb
    go_wp2_with fail
    refine (seek_at o h1 h7 A n c l key i (i + 1) true ht'.out ha'.out hl'.out hn' _ (Nat.lt_of_lt_of_le h0 b1.out.size) (hs'.out.below h0 b1.out) (hr'.out.next b1.out)).mono ?_
    rintro e w2 ⟨rfl, hb⟩
    have b2 := Lib.hid (Below.after b1.out hb)
    clear hb
    go_wp2_with fail
    refine (concat_two A A2 i c (n - (i + 1)) (c - (i + 1)) (l.take i) (l.drop (i + 1)) hlt.out hlen2'.out (by omega) (by omega) hA'.out hA2'.out hld.out _ (r0.out.next b2.out) (r2.out.next b2.out)).mono ?_
    rintro e w3 ⟨v, rfl, hown, hb⟩
    have ho := Lib.hid hown
    have b3 := Lib.hid (Below.after (b2.out.alloc b2.out.size (.cells #[.slice A i c, .slice A2 (n - (i + 1)) (c - (i + 1))] 22)) hb)
    clear hown hb
    go_wp2
    go_ret2
    exact made_of ho.out b3.out
  · obtain rfl : t = false := by rw [← ht]; exact decide_eq_false hlt2
    obtain rfl : j = i := by omega
    clear ht hone
    go_enter Tryd.func14, Tryd.ntmps14
    go_wp2_with fail
    refine (rowMay_is hm'.out hl'.out hn' h0 hs'.out hr'.out).mono ?_
    rintro e w1 ⟨rfl, hb⟩
    have b1 := Lib.hid hb
    clear hb
    go_wp2_with fail
    refine (seek_at o h1 h7 A n c l key j j false ht'.out ha'.out hl'.out hn' _ (Nat.lt_of_lt_of_le h0 b1.out.size) (hs'.out.below h0 b1.out) (hr'.out.next b1.out)).mono ?_
    rintro e w2 ⟨rfl, hb⟩
    have b2 := Lib.hid (Below.after b1.out hb)
    clear hb hcut1
    go_wp2_with fail
    refine (concat_two A A2 j c (n - j) (c - j) (l.take j) (l.drop j) hlt.out hlen2'.out (by omega) (by omega) hA'.out hA2'.out hld.out _ (r0.out.next b2.out) (r2.out.next b2.out)).mono ?_
    rintro e w3 ⟨v, rfl, hown, hb⟩
    have ho := Lib.hid hown
    have b3 := Lib.hid (Below.after (b2.out.alloc b2.out.size (.cells #[.slice A j c, .slice A2 (n - j) (c - j)] 22)) hb)
    clear hown hb
    go_wp2
    go_ret2
    exact made_of ho.out b3.out
end Go.Proofs.YtekggefokoaidaaDoor
