/- Contracts of civil's days, dates, weekdays, times and days of the year. -/
import Derived.Test.YtcnnfgigpjbcpaaDoorW1
namespace Go.Proofs.YtcnnfgigpjbcpaaDoor
open Go.RowKit

theorem ok_no1 {y m d : Int} (h : Cal.ok y m d = false) (h1 : 2001 ≤ y) (h2 : y ≤ 4000) (h3 : 1 ≤ m) (h4 : m ≤ 12) (h5 : 1 ≤ d) : Cal.ms (m + 1) (Cal.lp y) - Cal.ms m (Cal.lp y) < d := by
  unfold Cal.ok at h
  have := of_decide_eq_false h
  show Cal.dim _ _ < d
  omega

set_option maxHeartbeats 800000 in
theorem day_no (y m d : Int) (w : World) (h : Cal.ok y m d = false) (G : Gl w) :
    Calls Tryd.prog 14 #[.int .i64 y, .int .i64 m, .int .i64 d] w fun e w' => e = .returned (.tuple #[.int .i64 0, .int .i64 10]) ∧ w = w' := by
  have H := Lib.hid h
  clear h
  by_cases c1 : y < 2001
  · go_enter Tryd.func14, Tryd.ntmps14
    go_wp2
    go_ret2
    exact ⟨rfl, rfl⟩
  by_cases c2 : 4000 < y
  · go_enter Tryd.func14, Tryd.ntmps14
    go_wp2
    go_ret2
    exact ⟨rfl, rfl⟩
  by_cases c3 : m < 1
  · go_enter Tryd.func14, Tryd.ntmps14
    go_wp2
    go_ret2
    exact ⟨rfl, rfl⟩
  by_cases c4 : 12 < m
  · go_enter Tryd.func14, Tryd.ntmps14
    go_wp2
    go_ret2
    exact ⟨rfl, rfl⟩
  by_cases c5 : d < 1
  · go_enter Tryd.func14, Tryd.ntmps14
    go_wp2_with (go_at_call 16; refine (leap_any _ _).mono ?_; rintro e w' ⟨rfl, rfl⟩)
    go_ret2
    exact ⟨rfl, rfl⟩
  have c6 := ok_no1 H.out (by omega) (by omega) (by omega) (by omega) (by omega)
  have b1 := Cal.ms_bd m (Cal.lp y) (by omega) (by omega)
  have b2 := Cal.ms_bd (m + 1) (Cal.lp y) (by omega) (by omega)
  go_enter Tryd.func14, Tryd.ntmps14
  go_wp2_with (first | (go_at_call 16; refine (leap_any _ _).mono ?_; rintro e w' ⟨rfl, rfl⟩) | (go_at_call 41; refine (ms_any _ _ _ (by omega) (by omega) G).mono ?_; rintro e w' ⟨rfl, rfl⟩))
  go_ret2
  exact ⟨rfl, rfl⟩

set_option maxHeartbeats 800000 in
theorem day_yes {n y m d : Int} (w : World) (h : Cal.IsDate n y m d) (G : Gl w) :
    Calls Tryd.prog 14 #[.int .i64 y, .int .i64 m, .int .i64 d] w fun e w' => e = .returned (.tuple #[.int .i64 n, .int .i64 0]) ∧ w = w' := by
  have hb := h.bd
  obtain ⟨y1, y2, m1, m2, d1, d2, he⟩ := h
  have b1 := Cal.ms_bd m (Cal.lp y) (by omega) (by omega)
  have b2 := Cal.ms_bd (m + 1) (Cal.lp y) (by omega) (by omega)
  have d2' : d ≤ Cal.ms (m + 1) (Cal.lp y) - Cal.ms m (Cal.lp y) := d2
  have b3 := Cal.ys_bd (y - 2001) (by omega) (by omega)
  have HE := Lib.hid he
  have b5 : d ≤ 31 := Int.le_trans d2 (Cal.dim_bd m _ (by omega) (by omega)).2
  clear he d2
  go_enter Tryd.func14, Tryd.ntmps14
  go_wp2_with (first | (go_at_call 16; refine (leap_any _ _).mono ?_; rintro e w' ⟨rfl, rfl⟩) | (go_at_call 41; refine (ms_any _ _ _ (by omega) (by omega) G).mono ?_; rintro e w' ⟨rfl, rfl⟩) | (go_at_call 42; refine (ys_any _ _ (by omega) (by omega)).mono ?_; rintro e w' ⟨rfl, rfl⟩))
  go_ret2
  exact ⟨by show Ending.returned (.tuple #[.int .i64 _, .int .i64 0]) = _; rw [← HE.out], rfl⟩

set_option maxHeartbeats 400000 in
theorem weekday_bad (n : Int) (w : World) (h : n < 0 ∨ 730484 < n) : Calls Tryd.prog 28 #[.int .i64 n] w fun e w' => e = .returned (.tuple #[.int .i64 0, .int .i64 (err n 730484)]) ∧ w = w' := by
  rcases err_bad h with c | c
  all_goals
    rw [c]
    have c' := Lib.hid c
    clear c h
    go_enter Tryd.func28, Tryd.ntmps28
    go_wp2_with (go_at_call 60; refine (checkDay_bad _ _ _ c'.out).mono ?_; rintro e w' ⟨rfl, rfl⟩)
    go_ret2
    exact ⟨rfl, rfl⟩
set_option maxHeartbeats 400000 in
theorem weekday_ok (n : Int) (w : World) (h0 : 0 ≤ n) (h : n ≤ 730484) : Calls Tryd.prog 28 #[.int .i64 n] w fun e w' => e = .returned (.tuple #[.int .i64 (n % 7), .int .i64 0]) ∧ w = w' := by
  go_enter Tryd.func28, Tryd.ntmps28
  go_wp2_with (go_at_call 60; refine (checkDay_ok _ _ (by omega) (by omega)).mono ?_; rintro e w' ⟨rfl, rfl⟩)
  go_ret2
  exact ⟨rfl, rfl⟩
set_option maxHeartbeats 400000 in
theorem time_arg (n m : Int) (w : World) (h : m < 0 ∨ 1440 ≤ m) : Calls Tryd.prog 39 #[.int .i64 n, .int .i64 m] w fun e w' => e = .returned (.tuple #[.int .i64 0, .int .i64 2]) ∧ w = w' := by
  rcases h with c | c
  all_goals
    go_enter Tryd.func39, Tryd.ntmps39
    go_wp2
    go_ret2
    exact ⟨rfl, rfl⟩
set_option maxHeartbeats 400000 in
theorem time_bad (n m : Int) (w : World) (m0 : 0 ≤ m) (m1 : m < 1440) (h : n < 0 ∨ 730484 < n) : Calls Tryd.prog 39 #[.int .i64 n, .int .i64 m] w fun e w' => e = .returned (.tuple #[.int .i64 0, .int .i64 (err n 730484)]) ∧ w = w' := by
  rcases err_bad h with c | c
  all_goals
    rw [c]
    have c' := Lib.hid c
    clear c h
    go_enter Tryd.func39, Tryd.ntmps39
    go_wp2_with (go_at_call 60; refine (checkDay_bad _ _ _ c'.out).mono ?_; rintro e w' ⟨rfl, rfl⟩)
    go_ret2
    exact ⟨rfl, rfl⟩
set_option maxHeartbeats 400000 in
theorem time_ok (n m : Int) (w : World) (m0 : 0 ≤ m) (m1 : m < 1440) (h0 : 0 ≤ n) (h : n ≤ 730484) : Calls Tryd.prog 39 #[.int .i64 n, .int .i64 m] w fun e w' => e = .returned (.tuple #[.int .i64 (n * 1440 + m), .int .i64 0]) ∧ w = w' := by
  go_enter Tryd.func39, Tryd.ntmps39
  go_wp2_with (go_at_call 60; refine (checkDay_ok _ _ (by omega) (by omega)).mono ?_; rintro e w' ⟨rfl, rfl⟩)
  go_ret2
  exact ⟨rfl, rfl⟩
set_option maxHeartbeats 400000 in
theorem split_bad (n : Int) (w : World) (h : n < 0 ∨ 1051898399 < n) : Calls Tryd.prog 30 #[.int .i64 n] w fun e w' => e = .returned (.tuple #[.int .i64 0, .int .i64 0, .int .i64 (err n 1051898399)]) ∧ w = w' := by
  rcases err_bad h with c | c
  all_goals
    rw [c]
    have c' := Lib.hid c
    clear c h
    go_enter Tryd.func30, Tryd.ntmps30
    go_wp2_with (go_at_call 62; refine (upTo_eq _ _ _ _ c'.out).mono ?_; rintro e w' ⟨rfl, rfl⟩)
    go_ret3
    exact ⟨rfl, rfl⟩
set_option maxHeartbeats 400000 in
theorem split_ok (n : Int) (w : World) (h0 : 0 ≤ n) (h : n ≤ 1051898399) : Calls Tryd.prog 30 #[.int .i64 n] w fun e w' => e = .returned (.tuple #[.int .i64 (n / 1440), .int .i64 (n % 1440), .int .i64 0]) ∧ w = w' := by
  go_enter Tryd.func30, Tryd.ntmps30
  go_wp2_with (go_at_call 62; refine (upTo_eq _ _ _ _ (err_ok (by omega) (by omega))).mono ?_; rintro e w' ⟨rfl, rfl⟩)
  go_ret3
  exact ⟨rfl, rfl⟩
set_option maxHeartbeats 400000 in
theorem date_bad (n : Int) (w : World) (h : n < 0 ∨ 730484 < n) : Calls Tryd.prog 27 #[.int .i64 n] w fun e w' => e = .returned (.tuple #[.int .i64 0, .int .i64 0, .int .i64 0, .int .i64 (err n 730484)]) ∧ w = w' := by
  rcases err_bad h with c | c
  all_goals
    rw [c]
    have c' := Lib.hid c
    clear c h
    go_enter Tryd.func27, Tryd.ntmps27
    go_wp2_with (go_at_call 60; refine (checkDay_bad _ _ _ c'.out).mono ?_; rintro e w' ⟨rfl, rfl⟩)
    refine bodyPost_ret (v := .tuple #[.int .i64 0, .int .i64 0, .int .i64 0, .int .i64 _]) (by simp [results, Tryd.results27, go_sem]; try rfl) rfl ⟨rfl, rfl⟩
set_option maxHeartbeats 2000000 in
theorem date_ok {n y m d : Int} (w : World) (hd : Cal.IsDate n y m d) (G : Gl w) : Calls Tryd.prog 27 #[.int .i64 n] w fun e w' => e = .returned (.tuple #[.int .i64 y, .int .i64 m, .int .i64 d, .int .i64 0]) ∧ w = w' := by
  obtain ⟨h0, h⟩ := hd.bd
  have g0 : Cal.ys (n / 366) ≤ n := by unfold Cal.ys; omega
  go_enter Tryd.func27, Tryd.ntmps27
  go_wp2_with (go_at_call 60; refine (checkDay_ok _ _ (by omega) (by omega)).mono ?_; rintro e w' ⟨rfl, rfl⟩)
  go_loop [7] (fun t => ∃ k : Int, 0 ≤ k ∧ k < 2000 ∧ Cal.ys k ≤ n ∧ t = .int .i64 k) (fun t => (2000 - intOf t).toNat)
  case atStart => exact ⟨_, by omega, by omega, g0, rfl⟩
  case round =>
    obtain ⟨k, hk0, hk, hk1, rfl⟩ := hrel
    clear g0
    by_cases c : Cal.ys (k + 1) ≤ n
    · go_wp2_with (go_at_call 42; refine (ys_any _ _ (by omega) (by omega)).mono ?_; rintro e w' ⟨rfl, rfl⟩)
      go_round
      case rel => exact ⟨k + 1, by omega, by (have : k ≠ 1999 := by (rintro rfl; have : Cal.ys (1999 + 1) = 730485 := Cal.ys_2000; omega)); omega, c, rfl⟩
      case measure => simp [intOf]; omega
    · have b3 := Cal.ys_bd k (by omega) (by omega)
      have b4 := Cal.ys_succ k
      have b5 := Cal.ms_13 (Cal.lp (2001 + k))
      have b6 : n - Cal.ys k < Cal.ms 13 (Cal.lp (2001 + k)) := by omega
      clear b4 b5
      go_wp2_with (first | (go_at_call 42; refine (ys_any _ _ (by omega) (by omega)).mono ?_; rintro e w' ⟨rfl, rfl⟩) | (go_at_call 16; refine (leap_any _ _).mono ?_; rintro e w' ⟨rfl, rfl⟩))
      go_loop [10] (fun t => ∃ m : Int, 1 ≤ m ∧ m ≤ 12 ∧ Cal.ms m (Cal.lp (2001 + k)) ≤ n - Cal.ys k ∧ t = .int .i64 m) (fun t => (13 - intOf t).toNat)
      case atStart => exact ⟨1, by omega, by omega, by rw [Cal.ms_1]; omega, rfl⟩
      case round =>
        obtain ⟨m', hm1, hm2, hm3, rfl⟩ := hrel
        have b7 := Cal.ms_bd m' (Cal.lp (2001 + k)) (by omega) (by omega)
        by_cases c2 : Cal.ms (m' + 1) (Cal.lp (2001 + k)) ≤ n - Cal.ys k
        · go_wp2_with (go_at_call 41; refine (ms_any _ _ _ (by omega) (by omega) G).mono ?_; rintro e w' ⟨rfl, rfl⟩)
          go_round
          case rel => exact ⟨m' + 1, by omega, by (have : m' ≠ 12 := by (rintro rfl; exact absurd c2 (by show ¬ Cal.ms 13 _ ≤ _; omega))); omega, c2, rfl⟩
          case measure => simp [intOf]; omega
        · have fin := (Cal.mk hk0 hk hk1 hm1 hm2 hm3 (by omega)).uniq hd
          have FIN := Lib.hid fin
          clear fin
          go_wp2_with (go_at_call 41; refine (ms_any _ _ _ (by omega) (by omega) G).mono ?_; rintro e w' ⟨rfl, rfl⟩)
          obtain ⟨e1, e2, e3⟩ := FIN.out
          subst e1 e2 e3
          refine bodyPost_ret (v := .tuple #[.int .i64 _, .int .i64 _, .int .i64 _, .int .i64 0]) (by simp [results, Tryd.results27, go_sem]; try rfl) rfl ⟨rfl, rfl⟩
end Go.Proofs.YtcnnfgigpjbcpaaDoor
