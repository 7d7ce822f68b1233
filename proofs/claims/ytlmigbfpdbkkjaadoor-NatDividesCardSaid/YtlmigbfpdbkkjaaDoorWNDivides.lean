/- The walks of NatDivides, NatRing, NatOrder and NatWords, at the landed code. -/
import Derived.Test.YtlmigbfpdbkkjaaDoorTc
import Derived.Test.YtlmigbfpdbkkjaaDoorNF
import Derived.Test.YtlmigbfpdbkkjaaDoorCNDivides
namespace Go.Proofs.YtlmigbfpdbkkjaaDoor
open Go.RowKit

theorem walk_natDivides (W : World) (_ : True) (a0 : Option Addr) (n0 c0 : Nat) (z0 : List Int) (h0 : IsRow .u32 W a0 n0 c0 z0) (a1 : Option Addr) (n1 c1 : Nat) (z1 : List Int) (h1 : IsRow .u32 W a1 n1 c1 z1) :
    Calls Tryd.prog 4 #[.slice a0 n0 c0, .slice a1 n1 c1] W fun e w' => e = .returned (.bool true) ∧ Below W.heap.size W w' := by
  obtain ⟨l, hl, kl⟩ := lm_of h0
  obtain ⟨m, hm, km⟩ := lm_of h1
  exact divides_any natc _ _ l m W trivial hl hm kl km
end Go.Proofs.YtlmigbfpdbkkjaaDoor
