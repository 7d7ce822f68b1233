/- Contract of Table: the table lies in memory of its own. -/
import Derived.Test.YtljfbdiiecohpaaFs
namespace Go.Proofs.Ytljfbdiiecohpaa
open Go.RowKit

theorem table_lit (w : World) (cs : Array Value) (h : cs = (rcs Fo.tbl).toArray) :
    ∃ g, Ending.returned (.slice (some ⟨w.heap.size, 0, none⟩) 40 40) = .returned (.slice (some ⟨g, 0, none⟩) 40 40) ∧ w.heap.size ≤ g ∧ Orw w (w.alloc (.cells cs 30)) (.slice (some ⟨g, 0, none⟩) 40 40) Fo.tbl := by
  refine ⟨_, rfl, Nat.le_refl _, ?_, (Below.refl _ _).alloc (Nat.le_refl _) _⟩
  subst h
  have := World.ownsRow_lit (base := w.heap.size) (e := 30) (size := 3) w (rcs Fo.tbl).toArray 40 (Nat.le_refl _) (by unfold maxLen; omega) (by rw [List.size_toArray, rcs_len]; rfl)
  exact this
set_option maxRecDepth 100000 in
set_option maxHeartbeats 3200000 in
theorem table_own (w : World) : Calls Try.prog 9 #[] w fun e w' => ∃ g, e = .returned (.slice (some ⟨g, 0, none⟩) 40 40) ∧ w.heap.size ≤ g ∧ Orw w w' (.slice (some ⟨g, 0, none⟩) 40 40) Fo.tbl := by
  go_enter Try.func9, Try.ntmps9
  go_wp2
  go_ret
  exact table_lit w _ (by kernel_rfl)
end Go.Proofs.Ytljfbdiiecohpaa
