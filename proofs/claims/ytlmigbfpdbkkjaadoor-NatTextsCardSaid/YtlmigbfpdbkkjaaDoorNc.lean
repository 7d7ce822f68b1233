/- The contracts of layer 3's functions, as one fact about worlds. -/
import Derived.Test.YtlmigbfpdbkkjaaDoorLm
import Derived.Test.YtlmigbfpdbkkjaaDoorNs
namespace Go.Proofs.YtlmigbfpdbkkjaaDoor
open Go.RowKit

structure NatC (G : World → Prop) : Prop where
  below : ∀ {w w' : World}, G w → Below w.heap.size w w' → G w'
  awake : ∀ (w : World), G w → Calls Tryd.prog 12 #[] w fun e w' => e = .returned (.bool true) ∧ Below w.heap.size w w'
  right : ∀ (v : Value) (l : List Nat) (w : World), G w → Lm w v l → Calls Tryd.prog 18 #[v] w fun e w' => e = .returned (.bool (Nt.rg l)) ∧ Below w.heap.size w w'
  of : ∀ (n : Int) (w : World), 0 ≤ n → n ≤ 18446744073709551615 → G w → Calls Tryd.prog 22 #[.int .u64 n] w fun e w' => ∃ a k c, e = .returned (.slice a k c) ∧ Lm w' (.slice a k c) (Nt.dig n.toNat) ∧ Below w.heap.size w w'
  uint : ∀ (v : Value) (l : List Nat) (w : World), G w → Lm w v l → Calls Tryd.prog 24 #[v] w fun e w' => e = .returned (.tuple #[.int .u64 (Nt.wordV l), .bool (Nt.wordO l)]) ∧ Below w.heap.size w w'
  cmp : ∀ (v u : Value) (l m : List Nat) (w : World), G w → Lm w v l → Lm w u m → Calls Tryd.prog 23 #[v, u] w fun e w' => e = .returned (.tuple #[.int .i64 (Nt.cmpV l m), .int .i64 (Nt.cmpE l m)]) ∧ Below w.heap.size w w'
  add : ∀ (v u : Value) (l m : List Nat) (w : World), G w → Lm w v l → Lm w u m → Calls Tryd.prog 17 #[v, u] w fun e w' => ∃ a n c, e = .returned (.tuple #[.slice a n c, .int .i64 (Nt.addR l m).2]) ∧ Lm w' (.slice a n c) (Nt.addR l m).1 ∧ Below w.heap.size w w'
  sub : ∀ (v u : Value) (l m : List Nat) (w : World), G w → Lm w v l → Lm w u m → Calls Tryd.prog 21 #[v, u] w fun e w' => ∃ a n c, e = .returned (.tuple #[.slice a n c, .int .i64 (Nt.subR l m).2]) ∧ Lm w' (.slice a n c) (Nt.subR l m).1 ∧ Below w.heap.size w w'
  mul : ∀ (v u : Value) (l m : List Nat) (w : World), G w → Lm w v l → Lm w u m → Calls Tryd.prog 16 #[v, u] w fun e w' => ∃ a n c, e = .returned (.tuple #[.slice a n c, .int .i64 (Nt.mulR l m).2]) ∧ Lm w' (.slice a n c) (Nt.mulR l m).1 ∧ Below w.heap.size w w'
  divmod : ∀ (v u : Value) (l m : List Nat) (w : World), G w → Lm w v l → Lm w u m → Calls Tryd.prog 15 #[v, u] w fun e w' => ∃ a n c a' n' c', e = .returned (.tuple #[.slice a n c, .slice a' n' c', .int .i64 (Nt.divE l m)]) ∧ Lm w' (.slice a n c) (Nt.quoR l m) ∧ Lm w' (.slice a' n' c') (Nt.remR l m) ∧ Below w.heap.size w w'
end Go.Proofs.YtlmigbfpdbkkjaaDoor
