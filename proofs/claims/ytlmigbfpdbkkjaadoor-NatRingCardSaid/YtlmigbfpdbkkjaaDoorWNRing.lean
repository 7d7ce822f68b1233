/- The walk of NatRing at the landed code. -/
import Derived.Test.YtlmigbfpdbkkjaaDoorTc
import Derived.Test.YtlmigbfpdbkkjaaDoorNF
import Derived.Test.YtlmigbfpdbkkjaaDoorCNRing
namespace Go.Proofs.YtlmigbfpdbkkjaaDoor
open Go.RowKit

theorem walk_natRing (W : World) (_ : True) (a0 : Option Addr) (n0 c0 : Nat) (z0 : List Int) (h0 : IsRow .u32 W a0 n0 c0 z0) (a1 : Option Addr) (n1 c1 : Nat) (z1 : List Int) (h1 : IsRow .u32 W a1 n1 c1 z1) (a2 : Option Addr) (n2 c2 : Nat) (z2 : List Int) (h2 : IsRow .u32 W a2 n2 c2 z2) :
    Calls Tryd.prog 5 #[.slice a0 n0 c0, .slice a1 n1 c1, .slice a2 n2 c2] W fun e w' => e = .returned (.bool true) ∧ Below W.heap.size W w' := by
  obtain ⟨l, hl, kl⟩ := lm_of h0
  obtain ⟨m, hm, km⟩ := lm_of h1
  obtain ⟨k, hk, kk⟩ := lm_of h2
  exact ring_any natc _ _ _ l m k W trivial hl hm hk kl km kk
end Go.Proofs.YtlmigbfpdbkkjaaDoor
