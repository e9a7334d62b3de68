/- What the library's numerals have to answer (layer 11): over a condition T on the world (its table of powers lies as laid). -/
import Derived.Test.YtlhnjgmjkoafpaaDoorL11Word
namespace Go.Proofs.YtlhnjgmjkoafpaaDoor
open Go.RowKit Go.Proofs.Treem

structure TextSays (T : World → Prop) : Prop where
  next : ∀ {w w' : World}, T w → Below w.heap.size w w' → T w'
  int : ∀ (w : World) (b : BitVec 64), T w → Calls Tryd.prog 32 #[K b, .int .i64 10] w fun e w' => e = .returned (sV (num b)) ∧ Below w.heap.size w w'
  uint : ∀ (w : World) (b : BitVec 64), T w → Calls Tryd.prog 33 #[G64 b, .int .i64 10] w fun e w' => e = .returned (sV (unum b)) ∧ Below w.heap.size w w'
  pint : ∀ (w : World) (s : List UInt8), s.length ≤ 1048576 → T w → Calls Tryd.prog 60 #[sV s, .int .i64 10, .int .i64 64] w fun e w' => ∃ er, e = .returned (.tuple #[K (pI s), er]) ∧ Below w.heap.size w w'
  puint : ∀ (w : World) (s : List UInt8), s.length ≤ 1048576 → T w → Calls Tryd.prog 61 #[sV s, .int .i64 10, .int .i64 64] w fun e w' => ∃ er, e = .returned (.tuple #[G64 (pU s), er]) ∧ Below w.heap.size w w'
  pintOk : ∀ (w : World) (s : List UInt8) (v : Int), s.length ≤ 1048576 → Lib.parseIntB 64 s = .ok v → T w → Calls Tryd.prog 60 #[sV s, .int .i64 10, .int .i64 64] w fun e w' => e = .returned (.tuple #[K (pI s), .nilIface]) ∧ Below w.heap.size w w'
  pintNo : ∀ (w : World) (s : List UInt8), s.length ≤ 1048576 → (∀ v, Lib.parseIntB 64 s ≠ .ok v) → T w → Calls Tryd.prog 60 #[sV s, .int .i64 10, .int .i64 64] w fun e w' => ∃ tp q, e = .returned (.tuple #[K (pI s), .iface tp q]) ∧ Below w.heap.size w w'
  puintOk : ∀ (w : World) (s : List UInt8) (v : Nat), s.length ≤ 1048576 → Lib.parseUintB 64 s = .ok v → T w → Calls Tryd.prog 61 #[sV s, .int .i64 10, .int .i64 64] w fun e w' => e = .returned (.tuple #[G64 (pU s), .nilIface]) ∧ Below w.heap.size w w'
  puintNo : ∀ (w : World) (s : List UInt8), s.length ≤ 1048576 → (∀ v, Lib.parseUintB 64 s ≠ .ok v) → T w → Calls Tryd.prog 61 #[sV s, .int .i64 10, .int .i64 64] w fun e w' => ∃ tp q, e = .returned (.tuple #[G64 (pU s), .iface tp q]) ∧ Below w.heap.size w w'
end Go.Proofs.YtlhnjgmjkoafpaaDoor
