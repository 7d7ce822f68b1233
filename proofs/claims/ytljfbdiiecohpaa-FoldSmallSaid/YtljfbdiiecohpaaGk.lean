/- The reference's kept bytes. -/
import Derived.Test.YtljfbdiiecohpaaFx
namespace Go.Proofs.Ytljfbdiiecohpaa
open Go.RowKit Go.Lib

set_option maxRecDepth 100000 in
theorem rkept_any (c : UInt8) (w : World) : Calls Try.prog 50 #[.int .u8 c.toNat] w fun e w' => e = .returned (.bool (Fo.kpt c)) ∧ Below w.heap.size w w' := by
  have E : Hid (Fo.kpt c = ((decide ((65 : Int) ≤ c.toNat) && decide ((c.toNat : Int) ≤ 90)) || (decide ((48 : Int) ≤ c.toNat) && decide ((c.toNat : Int) ≤ 57)) || ((c.toNat : Int) == 45) || ((c.toNat : Int) == 47))) := by
    show _ = _
    unfold Fo.kpt
    rw [Bool.eq_iff_iff]
    simp only [Bool.or_eq_true, Bool.and_eq_true, decide_eq_true_eq, beq_iff_eq]
    omega
  go_enter Try.func50, Try.ntmps50
  go_wp2
  all_goals go_ret
  all_goals rw [E.out]
  all_goals generalize c.toNat = b at *
  all_goals refine ⟨congrArg (fun q => Ending.returned (.bool q)) ?_, Below.refl _ _⟩
  all_goals first
    | (simp_all; done)
    | (rw [Bool.eq_iff_iff]; simp only [Bool.or_eq_true, Bool.and_eq_true, decide_eq_true_eq, beq_iff_eq]; omega)
end Go.Proofs.Ytljfbdiiecohpaa
