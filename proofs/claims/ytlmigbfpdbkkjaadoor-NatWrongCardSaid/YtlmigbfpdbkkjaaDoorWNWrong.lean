/- The walk of NatWrong at the landed code. -/
import Derived.Test.YtlmigbfpdbkkjaaDoorCNWrong
import Derived.Test.YtlmigbfpdbkkjaaDoorNF
namespace Go.Proofs.YtlmigbfpdbkkjaaDoor
open Go.RowKit

theorem walk_natWrong (W : World) (_ : True) (a0 : Option Addr) (n0 c0 : Nat) (z0 : List Int) (h0 : IsRow .u32 W a0 n0 c0 z0) (a1 : Int) (l1 : 0 ≤ a1) (h1 : a1 ≤ 65535) :
    Calls Tryd.prog 11 #[.slice a0 n0 c0, .int .u16 a1] W fun e w' => e = .returned (.bool true) ∧ Below W.heap.size W w' := by
  obtain ⟨l, hl, kl⟩ := lm_of h0
  obtain ⟨M, rfl⟩ : ∃ M : Nat, a1 = (M : Int) := ⟨a1.toNat, by omega⟩
  exact wrong_any _ l M W hl kl (by omega)
end Go.Proofs.YtlmigbfpdbkkjaaDoor
