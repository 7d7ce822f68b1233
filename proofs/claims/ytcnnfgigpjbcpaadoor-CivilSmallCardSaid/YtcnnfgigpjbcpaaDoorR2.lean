/- Contracts of the reference's dates, times and texts. -/
import Derived.Test.YtcnnfgigpjbcpaaDoorR1
namespace Go.Proofs.YtcnnfgigpjbcpaaDoor
open Go.RowKit

set_option maxHeartbeats 400000 in
theorem rdate_bad (n : Int) (w : World) (h : n < 0 ∨ 730484 < n) : Calls Tryd.prog 45 #[.int .i64 n] w fun e w' => e = .returned (.tuple #[.int .i64 0, .int .i64 0, .int .i64 0, .int .i64 (err n 730484)]) ∧ w = w' := by
  rcases err_bad h with c | c
  all_goals
    rw [c]
    have c' := Lib.hid c
    clear c h
    go_enter Tryd.func45, Tryd.ntmps45
    go_wp2_with (go_at_call 69; refine (within_eq _ _ _ _ c'.out).mono ?_; rintro e w' ⟨rfl, rfl⟩)
    refine bodyPost_ret (v := .tuple #[.int .i64 0, .int .i64 0, .int .i64 0, .int .i64 _]) (by simp [results, Tryd.results45, go_sem]; try rfl) rfl ⟨rfl, rfl⟩
set_option maxHeartbeats 2000000 in
theorem rdate_ok {n y m d : Int} (w : World) (hd : Cal.IsDate n y m d) : Calls Tryd.prog 45 #[.int .i64 n] w fun e w' => e = .returned (.tuple #[.int .i64 y, .int .i64 m, .int .i64 d, .int .i64 0]) ∧ w = w' := by
  obtain ⟨h0, h⟩ := hd.bd
  go_enter Tryd.func45, Tryd.ntmps45
  go_wp2_with (go_at_call 69; refine (within_eq _ _ _ _ (err_ok (by omega) (by omega))).mono ?_; rintro e w' ⟨rfl, rfl⟩)
  go_loop [0, 7] (fun s t => ∃ k : Int, 0 ≤ k ∧ k < 2000 ∧ Cal.ys k ≤ n ∧ t = .int .i64 (2001 + k) ∧ s = .int .i64 (n - Cal.ys k)) (fun _ t => (4001 - intOf t).toNat)
  case atStart => exact ⟨0, by omega, by omega, by rw [Cal.ys_0]; omega, rfl, by rw [Cal.ys_0]; simp⟩
  case round =>
    obtain ⟨k, hk0, hk, hk1, rfl, rfl⟩ := hrel
    have b3 := Cal.ys_bd k (by omega) (by omega)
    have s := Cal.ys_succ k
    have b5 := Cal.ms_13 (Cal.lp (2001 + k))
    have L := fun w => rleap_any (2001 + k) w
    by_cases c : Cal.ys (k + 1) ≤ n
    · have k9 : k ≠ 1999 := by rintro rfl; have : Cal.ys (1999 + 1) = 730485 := Cal.ys_2000; omega
      cases hl : Cal.lp (2001 + k)
      all_goals
        simp only [hl] at L
        rw [hl] at s
        simp only [Bool.false_eq_true, if_false, if_true] at s
        have S := Lib.hid s
        have L' := Lib.hid L
        have c1 : Cal.ys k + 365 ≤ n := by omega
        clear hl L b5
        first | (have c2 : Cal.ys k + 366 ≤ n := by omega
                 clear s
                 go_wp2_with (go_at_call 17; refine (L'.out _).mono ?_; rintro e w' ⟨rfl, rfl⟩)
                 go_round) | (clear s
                              go_wp2_with (go_at_call 17; refine (L'.out _).mono ?_; rintro e w' ⟨rfl, rfl⟩)
                              go_round)
        case rel => exact ⟨k + 1, by omega, by omega, c, by go_num, by rw [S.out]; go_num⟩
        case measure => simp [intOf]; omega
    · have B6 : Hid (n - Cal.ys k < Cal.ms 13 (Cal.lp (2001 + k))) := by show _ < _; omega
      have DM := Lib.hid (fun w m (h1 : 1 ≤ m) (h2 : m ≤ 12) => rlong_any (2001 + k) m w h1 h2)
      have FIN := Lib.hid (fun m' hm1 hm2 hm3 h4 => (Cal.mk (n := n) (m := m') hk0 hk hk1 hm1 hm2 hm3 h4).uniq hd)
      have M := Lib.hid (fun m => Cal.ms_succ m (Cal.lp (2001 + k)))
      have BD := Lib.hid (fun m h1 h2 => Cal.ms_bd m (Cal.lp (2001 + k)) h1 h2)
      have DB := Lib.hid (fun m h1 h2 => Cal.dim_bd m (Cal.lp (2001 + k)) h1 h2)
      have M1 := Lib.hid (Cal.ms_1 (Cal.lp (2001 + k)))
      obtain ⟨l, hl⟩ : ∃ l, l = Cal.lp (2001 + k) := ⟨_, rfl⟩
      rw [← hl] at DM FIN M BD B6 DB M1 s
      simp only [← hl] at L
      clear hl b5
      cases l
      · simp only [Bool.false_eq_true, if_false] at s
        have L' := Lib.hid L
        have c1 : n - Cal.ys k < 365 := by omega
        clear s L
        go_wp2_with (go_at_call 17; refine (L'.out _).mono ?_; rintro e w' ⟨rfl, rfl⟩)
        go_loop [0, 8] (fun s t => ∃ m : Int, 1 ≤ m ∧ m ≤ 12 ∧ Cal.ms m false ≤ n - Cal.ys k ∧ t = .int .i64 m ∧ s = .int .i64 (n - Cal.ys k - Cal.ms m false)) (fun _ t => (13 - intOf t).toNat)
        case atStart => exact ⟨1, by omega, by omega, by rw [M1.out]; omega, rfl, by rw [M1.out]; simp⟩
        case round =>
          obtain ⟨m', hm1, hm2, hm3, rfl, rfl⟩ := hrel
          have b7 := BD.out m' (by omega) (by omega)
          have b8 := DB.out m' (by omega) (by omega)
          have s := M.out m'
          by_cases c2 : Cal.ms (m' + 1) false ≤ n - Cal.ys k
          · have S := Lib.hid s
            have q : ¬ m' = 12 := by rintro rfl; have := B6.out; exact absurd c2 (by show ¬ Cal.ms 13 _ ≤ _; omega)
            have c3 : Cal.dim false m' ≤ n - Cal.ys k - Cal.ms m' false := by rw [s] at c2; omega
            clear s c2
            go_wp2_with (go_at_call 44; refine (DM.out _ _ (by omega) (by omega)).mono ?_; rintro e w' ⟨rfl, rfl⟩)
            go_round
            case rel => exact ⟨m' + 1, by omega, by omega, by rw [S.out]; omega, rfl, by rw [S.out]; go_num⟩
            case measure => simp [intOf]; omega
          · have fin := Lib.hid (FIN.out m' hm1 hm2 hm3 (by omega))
            have c3 : n - Cal.ys k - Cal.ms m' false < Cal.dim false m' := by rw [s] at c2; omega
            clear s c2
            go_wp2_with (go_at_call 44; refine (DM.out _ _ (by omega) (by omega)).mono ?_; rintro e w' ⟨rfl, rfl⟩)
            obtain ⟨e1, e2, e3⟩ := fin.out
            subst e1 e2 e3
            refine bodyPost_ret (v := .tuple #[.int .i64 _, .int .i64 _, .int .i64 _, .int .i64 0]) (by simp [results, Tryd.results45, go_sem]; try rfl) rfl ⟨rfl, rfl⟩
      · simp only [if_true] at s
        have L' := Lib.hid L
        have c1 : n - Cal.ys k < 366 := by omega
        clear s L
        go_wp2_with (go_at_call 17; refine (L'.out _).mono ?_; rintro e w' ⟨rfl, rfl⟩)
        go_loop [0, 8] (fun s t => ∃ m : Int, 1 ≤ m ∧ m ≤ 12 ∧ Cal.ms m true ≤ n - Cal.ys k ∧ t = .int .i64 m ∧ s = .int .i64 (n - Cal.ys k - Cal.ms m true)) (fun _ t => (13 - intOf t).toNat)
        case atStart => exact ⟨1, by omega, by omega, by rw [M1.out]; omega, rfl, by rw [M1.out]; simp⟩
        case round =>
          obtain ⟨m', hm1, hm2, hm3, rfl, rfl⟩ := hrel
          have b7 := BD.out m' (by omega) (by omega)
          have b8 := DB.out m' (by omega) (by omega)
          have s := M.out m'
          by_cases c2 : Cal.ms (m' + 1) true ≤ n - Cal.ys k
          · have S := Lib.hid s
            have q : ¬ m' = 12 := by rintro rfl; have := B6.out; exact absurd c2 (by show ¬ Cal.ms 13 _ ≤ _; omega)
            have c3 : Cal.dim true m' ≤ n - Cal.ys k - Cal.ms m' true := by rw [s] at c2; omega
            clear s c2
            go_wp2_with (go_at_call 44; refine (DM.out _ _ (by omega) (by omega)).mono ?_; rintro e w' ⟨rfl, rfl⟩)
            go_round
            case rel => exact ⟨m' + 1, by omega, by omega, by rw [S.out]; omega, rfl, by rw [S.out]; go_num⟩
            case measure => simp [intOf]; omega
          · have fin := Lib.hid (FIN.out m' hm1 hm2 hm3 (by omega))
            have c3 : n - Cal.ys k - Cal.ms m' true < Cal.dim true m' := by rw [s] at c2; omega
            clear s c2
            go_wp2_with (go_at_call 44; refine (DM.out _ _ (by omega) (by omega)).mono ?_; rintro e w' ⟨rfl, rfl⟩)
            obtain ⟨e1, e2, e3⟩ := fin.out
            subst e1 e2 e3
            refine bodyPost_ret (v := .tuple #[.int .i64 _, .int .i64 _, .int .i64 _, .int .i64 0]) (by simp [results, Tryd.results45, go_sem]; try rfl) rfl ⟨rfl, rfl⟩
end Go.Proofs.YtcnnfgigpjbcpaaDoor
