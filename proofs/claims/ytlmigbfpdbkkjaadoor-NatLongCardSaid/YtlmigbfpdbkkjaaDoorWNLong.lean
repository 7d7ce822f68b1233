/- The walk of NatLong at the landed code. -/
import Derived.Test.YtlmigbfpdbkkjaaDoorTc
import Derived.Test.YtlmigbfpdbkkjaaDoorNF
import Derived.Test.YtlmigbfpdbkkjaaDoorCNLong
namespace Go.Proofs.YtlmigbfpdbkkjaaDoor
open Go.RowKit

theorem walk_natLong (a0 : Int) (l0 : 0 ≤ a0) (h0 : a0 ≤ 65535) (a1 : Int) (l1 : 0 ≤ a1) (h1 : a1 ≤ 65535) (a2 : Int) (l2 : 0 ≤ a2) (h2 : a2 ≤ 4294967295) (a3 : Int) (l3 : 0 ≤ a3) (h3 : a3 ≤ 4294967295) (W : World) (_ : True) :
    Calls Tryd.prog 10 #[.int .u16 a0, .int .u16 a1, .int .u32 a2, .int .u32 a3] W fun e w' => e = .returned (.bool true) ∧ Below W.heap.size W w' := by
  obtain ⟨m, rfl⟩ : ∃ X : Nat, a0 = (X : Int) := ⟨a0.toNat, by omega⟩
  obtain ⟨n, rfl⟩ : ∃ X : Nat, a1 = (X : Int) := ⟨a1.toNat, by omega⟩
  obtain ⟨x, rfl⟩ : ∃ X : Nat, a2 = (X : Int) := ⟨a2.toNat, by omega⟩
  obtain ⟨y, rfl⟩ : ∃ X : Nat, a3 = (X : Int) := ⟨a3.toNat, by omega⟩
  exact long_any m n x y W (by omega) (by omega) (by omega) (by omega)
end Go.Proofs.YtlmigbfpdbkkjaaDoor
