/- CivilTurns: its walk. -/
import Derived.Test.YtcnnfgigpjbcpaaDoorS0
namespace Go.Proofs.YtcnnfgigpjbcpaaDoor
open Go.RowKit

namespace Cal
theorem lp_400 (y : Int) : lp (y + 400) = lp y := by unfold lp; rw [decide_eq_decide]; omega
theorem IsDate.later {n y m d : Int} (h : IsDate n y m d) (hn : n < 584388) : IsDate (n + 146097) (y + 400) m d := by
  have hr := h.rng
  obtain ⟨y1, y2, m1, m2, d1, d2, e⟩ := h
  have s : ys (y + 400 - 2001) = ys (y - 2001) + 146097 := by unfold ys; omega
  have hy : y ≤ 3600 := by
    by_cases q : y ≤ 3600
    · exact q
    · have := ys_mono 1600 (y - 2001) (by omega); have : ys 1600 = 584388 := by decide
      omega
  exact ⟨by omega, by omega, m1, m2, d1, by rw [lp_400]; exact d2, by rw [lp_400, s]; omega⟩
end Cal
set_option maxRecDepth 100000 in
set_option maxHeartbeats 3200000 in
theorem walk_civilTurns (n : Int) (_n1 : -9223372036854775808 ≤ n) (_n2 : n ≤ 9223372036854775807) (w : World) (G : Gl w) :
    Calls Tryd.prog 8 #[.int .i64 n] w fun e w' => e = .returned (.bool true) ∧ Below w.heap.size w w' := by
  have P := Lib.hid (fun w => pick_any n 584388 w (by omega) (by omega))
  obtain ⟨x, hx⟩ : ∃ x, x = n % 584388 := ⟨_, rfl⟩
  have x0 : 0 ≤ x := by omega
  have x1 : x < 584388 := by omega
  rw [← hx] at P
  clear hx
  obtain ⟨y, m, d, D⟩ : ∃ y m d, Cal.IsDate x y m d := ⟨_, _, _, Cal.date_is x x0 (by omega)⟩
  have E := D.later x1
  have y1 := D.y1
  have y2 := D.y2
  have L := Lib.hid (fun w => Cal.lp_400 y ▸ leap_any (y + 400) w)
  go_enter Tryd.func8, Tryd.ntmps8
  go_wp2_with (first | (go_at_call 19; refine (awake_any w _ (St.refl G)).mono ?_; rintro e w1 ⟨rfl, S1⟩)  | (go_at_call 26; refine (P.out _).mono ?_; rintro e w' ⟨rfl, rfl⟩)  | (go_at_call 27; (with_reducible refine (date_ok _ D S1.gl).mono ?_); rintro e w' ⟨rfl, rfl⟩)  | (go_at_call 27; (with_reducible refine (date_ok _ E S1.gl).mono ?_); rintro e w' ⟨rfl, rfl⟩)  | (go_at_call 28; refine (weekday_ok _ _ (by omega) (by omega)).mono ?_; rintro e w' ⟨rfl, rfl⟩)  | (go_at_call 16; (with_reducible refine (L.out _).mono ?_); rintro e w' ⟨rfl, rfl⟩)  | (go_at_call 16; (with_reducible refine (leap_any y _).mono ?_); rintro e w' ⟨rfl, rfl⟩))
  all_goals go_ret
  all_goals first | exact ⟨rfl, S1.bl⟩ | (refine ⟨ret_bool ?_, S1.bl⟩; simp)
end Go.Proofs.YtcnnfgigpjbcpaaDoor
