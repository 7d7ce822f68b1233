/- CivilGoes: its walk. -/
import Derived.Test.YtcnnfgigpjbcpaaDoorS0
namespace Go.Proofs.YtcnnfgigpjbcpaaDoor
open Go.RowKit

set_option maxRecDepth 100000 in
set_option maxHeartbeats 3200000 in
theorem walk_civilGoes (n : Int) (_n1 : -9223372036854775808 ≤ n) (_n2 : n ≤ 9223372036854775807) (w : World) (G : Gl w) :
    Calls Tryd.prog 7 #[.int .i64 n] w fun e w' => e = .returned (.bool true) ∧ Below w.heap.size w w' := by
  have P := Lib.hid (fun w => pick_any n 730484 w (by omega) (by omega))
  obtain ⟨x, hx⟩ : ∃ x, x = n % 730484 := ⟨_, rfl⟩
  have x0 : 0 ≤ x := by omega
  have x1 : x < 730484 := by omega
  rw [← hx] at P
  clear hx
  have D := Cal.date_is x x0 (by omega)
  obtain ⟨y, m, d, D⟩ : ∃ y m d, Cal.IsDate x y m d := ⟨_, _, _, D⟩
  have y1 := D.y1
  have y2 := D.y2
  have m1 := D.m1
  have m2 := D.m2
  have d1 := D.d1
  have d2 : d ≤ 31 := Int.le_trans D.d2 (Cal.dim_bd m _ m1 m2).2
  rcases D.next x1 with ⟨c, E⟩ | ⟨c, c2, E⟩ | ⟨c, c2, c3, E⟩
  · have H := Lib.hid c
    clear c
    go_enter Tryd.func7, Tryd.ntmps7
    go_wp2_with (first | (go_at_call 19; refine (awake_any w _ (St.refl G)).mono ?_; rintro e w1 ⟨rfl, S1⟩)  | (go_at_call 26; refine (P.out _).mono ?_; rintro e w' ⟨rfl, rfl⟩)  | (go_at_call 27; (with_reducible refine (date_ok _ D S1.gl).mono ?_); rintro e w' ⟨rfl, rfl⟩)  | (go_at_call 27; (with_reducible refine (date_ok _ E S1.gl).mono ?_); rintro e w' ⟨rfl, rfl⟩)  | (go_at_call 28; refine (weekday_ok _ _ (by omega) (by omega)).mono ?_; rintro e w' ⟨rfl, rfl⟩)  | (go_at_call 14; (with_reducible refine (day_yes _ D S1.gl).mono ?_); rintro e w' ⟨rfl, rfl⟩)  | (go_at_call 14; (with_reducible refine (day_yes _ E S1.gl).mono ?_); rintro e w' ⟨rfl, rfl⟩))
    go_ret
    exact ⟨rfl, S1.bl⟩
  · have K := Lib.hid (Cal.ok_last D c)
    clear c
    go_enter Tryd.func7, Tryd.ntmps7
    go_wp2_with (first | (go_at_call 19; refine (awake_any w _ (St.refl G)).mono ?_; rintro e w1 ⟨rfl, S1⟩)  | (go_at_call 26; refine (P.out _).mono ?_; rintro e w' ⟨rfl, rfl⟩)  | (go_at_call 27; (with_reducible refine (date_ok _ D S1.gl).mono ?_); rintro e w' ⟨rfl, rfl⟩)  | (go_at_call 27; (with_reducible refine (date_ok _ E S1.gl).mono ?_); rintro e w' ⟨rfl, rfl⟩)  | (go_at_call 28; refine (weekday_ok _ _ (by omega) (by omega)).mono ?_; rintro e w' ⟨rfl, rfl⟩)  | (go_at_call 14; (with_reducible refine (day_yes _ D S1.gl).mono ?_); rintro e w' ⟨rfl, rfl⟩)  | (go_at_call 14; (with_reducible refine (day_no _ _ _ _ K.out S1.gl).mono ?_); rintro e w' ⟨rfl, rfl⟩))
    go_ret
    exact ⟨rfl, S1.bl⟩
  · have K := Lib.hid (Cal.ok_last D c)
    clear c
    subst c2
    go_enter Tryd.func7, Tryd.ntmps7
    go_wp2_with (first | (go_at_call 19; refine (awake_any w _ (St.refl G)).mono ?_; rintro e w1 ⟨rfl, S1⟩)  | (go_at_call 26; refine (P.out _).mono ?_; rintro e w' ⟨rfl, rfl⟩)  | (go_at_call 27; (with_reducible refine (date_ok _ D S1.gl).mono ?_); rintro e w' ⟨rfl, rfl⟩)  | (go_at_call 27; (with_reducible refine (date_ok _ E S1.gl).mono ?_); rintro e w' ⟨rfl, rfl⟩)  | (go_at_call 28; refine (weekday_ok _ _ (by omega) (by omega)).mono ?_; rintro e w' ⟨rfl, rfl⟩)  | (go_at_call 14; (with_reducible refine (day_yes _ D S1.gl).mono ?_); rintro e w' ⟨rfl, rfl⟩)  | (go_at_call 14; (with_reducible refine (day_no _ _ _ _ K.out S1.gl).mono ?_); rintro e w' ⟨rfl, rfl⟩))
    go_ret
    exact ⟨rfl, S1.bl⟩
end Go.Proofs.YtcnnfgigpjbcpaaDoor
