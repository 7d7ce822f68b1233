/- The walk of NatWords at the landed code. -/
import Derived.Test.YtlmigbfpdbkkjaaDoorTc
import Derived.Test.YtlmigbfpdbkkjaaDoorNF
import Derived.Test.YtlmigbfpdbkkjaaDoorCNWords
namespace Go.Proofs.YtlmigbfpdbkkjaaDoor
open Go.RowKit

theorem walk_natWords (a0 : Int) (l0 : 0 ≤ a0) (h0 : a0 ≤ 18446744073709551615) (a1 : Int) (l1 : 0 ≤ a1) (h1 : a1 ≤ 18446744073709551615) (W : World) (_ : True) :
    Calls Tryd.prog 7 #[.int .u64 a0, .int .u64 a1] W fun e w' => e = .returned (.bool true) ∧ Below W.heap.size W w' := by
  obtain ⟨X, rfl⟩ : ∃ X : Nat, a0 = (X : Int) := ⟨a0.toNat, by omega⟩
  obtain ⟨Y, rfl⟩ : ∃ Y : Nat, a1 = (Y : Int) := ⟨a1.toNat, by omega⟩
  exact words_any natc X Y W trivial (by omega) (by omega)
end Go.Proofs.YtlmigbfpdbkkjaaDoor
