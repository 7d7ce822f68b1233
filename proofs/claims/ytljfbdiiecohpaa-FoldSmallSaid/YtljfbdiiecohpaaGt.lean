/- Contract of the reference's Table. -/
import Derived.Test.YtljfbdiiecohpaaFe
namespace Go.Proofs.Ytljfbdiiecohpaa
open Go.RowKit

set_option maxRecDepth 100000 in
set_option maxHeartbeats 3200000 in
theorem rtable_any (w : World) : Calls Try.prog 28 #[] w fun e w' => ∃ v, e = .returned v ∧ Rw w' v Fo.tbl ∧ Below w.heap.size w w' := by
  go_enter Try.func28, Try.ntmps28
  go_wp2
  go_ret
  exact table_end w _ _ (by kernel_rfl)
end Go.Proofs.Ytljfbdiiecohpaa
