/- The walk of NatPowers at the landed code. -/
import Derived.Test.YtlmigbfpdbkkjaaDoorCNPowers
import Derived.Test.YtlmigbfpdbkkjaaDoorNF
namespace Go.Proofs.YtlmigbfpdbkkjaaDoor
open Go.RowKit

theorem walk_natPowers (W : World) (_ : True) (a0 : Option Addr) (n0 c0 : Nat) (z0 : List Int) (h0 : IsRow .u32 W a0 n0 c0 z0) (a1 : Option Addr) (n1 c1 : Nat) (z1 : List Int) (h1 : IsRow .u32 W a1 n1 c1 z1) (a2 : Int) (l2 : 0 ≤ a2) (h2 : a2 ≤ 255) (a3 : Int) (l3 : 0 ≤ a3) (h3 : a3 ≤ 255) :
    Calls Tryd.prog 9 #[.slice a0 n0 c0, .slice a1 n1 c1, .int .u8 a2, .int .u8 a3] W fun e w' => e = .returned (.bool true) ∧ Below W.heap.size W w' := by
  obtain ⟨l, hl, kl⟩ := lm_of h0
  obtain ⟨m, hm, km⟩ := lm_of h1
  obtain ⟨M, rfl⟩ : ∃ M : Nat, a2 = (M : Int) := ⟨a2.toNat, by omega⟩
  obtain ⟨K, rfl⟩ : ∃ K : Nat, a3 = (K : Int) := ⟨a3.toNat, by omega⟩
  exact powers_any _ _ M K l m W hl hm kl km (by omega) (by omega)
end Go.Proofs.YtlmigbfpdbkkjaaDoor
