/- 'awake' answers true. -/
import Derived.Test.YtcnnfgigpjbcpaaDoorW9
namespace Go.Proofs.YtcnnfgigpjbcpaaDoor
open Go.RowKit

theorem sl_one (w : World) (x : Int) (t : TypeId) (c : Nat) : Sl (w.alloc (.cells #[.int .i64 x] t)) (.slice (some ⟨w.heap.size, 0, none⟩) 1 c) [x] :=
  ⟨_, c, rfl, Or.inr ⟨_, _, rfl, fun j hj => by
    have : j = 0 := by simp at hj; omega
    subst this; exact cell_new_sl w _ _⟩⟩
set_option maxRecDepth 100000 in
set_option maxHeartbeats 3200000 in
theorem awake_any (w0 w : World) (S : St w0 w) : Calls Tryd.prog 19 #[] w fun e w' => e = .returned (.bool true) ∧ St w0 w' := by
  go_enter Tryd.func19, Tryd.ntmps19
  go_wp2_with (first | (go_at_call 14; (with_reducible refine (day_yes _ d0 S.gl).mono ?_); rintro e w' ⟨rfl, rfl⟩)  | (go_at_call 14; (with_reducible refine (day_yes _ d1154 S.gl).mono ?_); rintro e w' ⟨rfl, rfl⟩)  | (go_at_call 14; (with_reducible refine (day_no _ _ _ _ dno S.gl).mono ?_); rintro e w' ⟨rfl, rfl⟩)  | (go_at_call 27; (with_reducible refine (date_ok _ d1461 S.gl).mono ?_); rintro e w' ⟨rfl, rfl⟩)  | (go_at_call 28; (with_reducible refine (weekday_ok 5 _ (by omega) (by omega)).mono ?_); rintro e w' ⟨rfl, rfl⟩)  | (go_at_call 31; (with_reducible refine (text59 w0 _ S).mono ?_); rintro e w1 ⟨rfl, S1⟩)  | (go_at_call 22; (with_reducible refine (read1441 w0 _ S1).mono ?_); rintro e w2 ⟨rfl, S2⟩)  | (go_at_call 34; refine (between4 _ w0 _ (S2.step (by go_grown)) (sl_one _ _ _ _)).mono ?_; rintro e w3 ⟨rfl, S3⟩)  | (go_at_call 36; (with_reducible refine (ahead2 _ w0 _ (S3.step (by go_grown)) (sl_one _ _ _ _)).mono ?_); rintro e w4 ⟨rfl, S4⟩)  | (go_at_call 36; (with_reducible refine (ahead7 _ w0 _ S4 (Sl.nil _ _ _)).mono ?_); rintro e w5 ⟨rfl, S5⟩)  | (go_at_call 38; (with_reducible refine (yearly_in _ S5.gl).mono ?_); rintro e w' ⟨rfl, rfl⟩)  | (go_at_call 38; (with_reducible refine (yearly_out _ S5.gl).mono ?_); rintro e w' ⟨rfl, rfl⟩))
  go_ret
  exact ⟨rfl, by assumption⟩
end Go.Proofs.YtcnnfgigpjbcpaaDoor
