/- What every row's proof shares: from what the package-level variables read as when the call begins to the tables that the contracts ask. -/
import Derived.Test.YtcnnfgigpjbcpaaDoorRows
import Derived.Test.YtcnnfgigpjbcpaaDoorS0
import Derived.ProofKit
import Derived.OpenShut
import Derived.Lay
import Derived.LaidMore
import Derived.Lib.LaidTab
import Derived.HandedShaped
import Derived.Stop.LaidErr
namespace Go.Proofs.YtcnnfgigpjbcpaaDoor
open Go.ChangeShapes Go.WideShapes Go.ChangeAt Go.RowKit

theorem own : ownKnob Tryd.prog.godebug = none := by kernel_rfl
/-- What the rows list. -/
def laidL : List (String × DataW Unit) := Rows.civilGoesRow.laid
theorem laid_pw : laidMet Tryd.prog laidL = laidMet Tryd.prog (("math/bits.deBruijn32tab", Rows.laid_math_bits_deBruijn32tab) :: ("math/bits.deBruijn64tab", Rows.laid_math_bits_deBruijn64tab) :: ("internal/strconv.uint64pow10", Lib.tabData .u64 Lib.pow10Tab) :: ("letterbag/civil.monthStarts", Lib.tabData .i64 Cal.tab) :: []) := rfl
theorem gl_of {W : World} (h : laidMetH Tryd.prog laidL W) : Gl W := by
  rw [MakeChecks.laidMetH_plain _ _ _ (by kernel_rfl)] at h
  rw [laid_pw] at h
  exact ⟨Lib.tabIs_of_head gMs (by kernel_rfl) Tryd.underlying84 Tryd.underlying3 (by kernel_rfl) (by kernel_rfl) (laidMet.tail (laidMet.tail (laidMet.tail h))),
    Lib.tabIs_of_head gPw (by kernel_rfl) Tryd.underlying121 Tryd.underlying108 (by kernel_rfl) (by kernel_rfl) (laidMet.tail (laidMet.tail h))⟩
theorem door_met (os : Os) (args : Array Value) : laidMetH Tryd.prog laidL ((World.laidAll Tryd.prog os laidL).forCall (fun _ _ => 0) ⟨#[], args, []⟩).memory := by
  rw [MakeChecks.laidMetH_plain _ _ _ (by kernel_rfl)]; exact laidMet_laidAll _ (by kernel_rfl) (by kernel_rfl)
end Go.Proofs.YtcnnfgigpjbcpaaDoor
