/- What the frames of layer 5's rows share. -/
import Derived.Test.YtljfbdiiecohpaaRows
import Derived.Test.YtljfbdiiecohpaaProg
import Derived.ProofKit
import Derived.OpenShut
import Derived.Lay
import Derived.ChangeOld
import Derived.Below
namespace Go.Proofs.Ytljfbdiiecohpaa
open Go.ChangeShapes Go.WideShapes Go.ChangeAt Go.RowKit

theorem own : ownKnob Try.prog.godebug = none := by kernel_rfl
theorem laidOut : laidOutB Try.prog = true := by kernel_rfl
end Go.Proofs.Ytljfbdiiecohpaa
