/- Contracts of the reference's days and dates: the same answers as civil's. -/
import Derived.Test.YtcnnfgigpjbcpaaDoorTx
namespace Go.Proofs.YtcnnfgigpjbcpaaDoor
open Go.RowKit

theorem rl_1 {y : Int} (h : y.tmod 400 = 0) : true = Cal.lp y := by
  symm; rw [Cal.lp_iff]; have := (tmod0 y 400).1 h; omega
theorem rl_2 {y : Int} (h : ¬ y.tmod 400 = 0) (h4 : y.tmod 4 = 0) : (y.tmod 100 != 0) = Cal.lp y := by
  have a : ¬ y % 400 = 0 := fun x => h ((tmod0 y 400).2 x)
  have b := (tmod0 y 4).1 h4
  have c := tmod0 y 100
  rw [Bool.eq_iff_iff, Cal.lp_iff, bne_iff_ne]
  constructor
  · intro q; exact ⟨b, Or.inl fun x => q (c.2 x)⟩
  · rintro ⟨_, q⟩ x; rcases q with q | q
    · exact q (c.1 x)
    · exact a q
theorem rl_3 {y : Int} (_h : ¬ y.tmod 400 = 0) (h4 : ¬ y.tmod 4 = 0) : false = Cal.lp y := lp_t3 h4
set_option maxHeartbeats 400000 in
theorem rleap_any (y : Int) (w : World) : Calls Tryd.prog 17 #[.int .i64 y] w fun e w' => e = .returned (.bool (Cal.lp y)) ∧ w = w' := by
  by_cases c : y.tmod 400 = 0
  · have L := Lib.hid (rl_1 c)
    go_enter Tryd.func17, Tryd.ntmps17
    go_wp2
    all_goals
      go_ret
      exact ⟨ret_bool L.out, rfl⟩
  · by_cases c4 : y.tmod 4 = 0
    · have L : Hid ((y.tmod 400 == 0 || y.tmod 100 != 0) = Cal.lp y) := by
        show _ = _
        rw [beq_eq_false_iff_ne.2 c, Bool.false_or]; exact rl_2 c c4
      go_enter Tryd.func17, Tryd.ntmps17
      go_wp2
      all_goals
        go_ret
        exact ⟨ret_bool L.out, rfl⟩
    · have L : Hid ((y.tmod 400 == 0) = Cal.lp y) := by
        show _ = _
        rw [beq_eq_false_iff_ne.2 c]; exact rl_3 c c4
      go_enter Tryd.func17, Tryd.ntmps17
      go_wp2
      all_goals
        go_ret
        exact ⟨ret_bool L.out, rfl⟩
theorem long_lit : ∀ l : Bool, Cal.dim l 1 = 31 ∧ Cal.dim l 3 = 31 ∧ Cal.dim l 4 = 30 ∧ Cal.dim l 5 = 31 ∧ Cal.dim l 6 = 30 ∧ Cal.dim l 7 = 31 ∧ Cal.dim l 8 = 31 ∧ Cal.dim l 9 = 30 ∧ Cal.dim l 10 = 31 ∧ Cal.dim l 11 = 30 ∧ Cal.dim l 12 = 31 ∧ Cal.dim true 2 = 29 ∧ Cal.dim false 2 = 28 := by decide
set_option maxHeartbeats 1600000 in
theorem rlong_any (y m : Int) (w : World) (h1 : 1 ≤ m) (h2 : m ≤ 12) : Calls Tryd.prog 44 #[.int .i64 y, .int .i64 m] w fun e w' => e = .returned (.int .i64 (Cal.dim (Cal.lp y) m)) ∧ w = w' := by
  obtain ⟨a1, a3, a4, a5, a6, a7, a8, a9, a10, a11, a12, b1, b2⟩ := long_lit (Cal.lp y)
  have hm : m = 2 ∨ m = 1 ∨ m = 3 ∨ m = 4 ∨ m = 5 ∨ m = 6 ∨ m = 7 ∨ m = 8 ∨ m = 9 ∨ m = 10 ∨ m = 11 ∨ m = 12 := by omega
  rcases hm with rfl | rfl | rfl | rfl | rfl | rfl | rfl | rfl | rfl | rfl | rfl | rfl
  · clear a1 a3 a4 a5 a6 a7 a8 a9 a10 a11 a12
    have L := rleap_any y w
    cases h : Cal.lp y
    · rw [h] at L
      have L' := Lib.hid L
      clear h L
      go_enter Tryd.func44, Tryd.ntmps44
      go_wp2_with (go_at_call 17; refine L'.out.mono ?_; rintro e w' ⟨rfl, rfl⟩)
      go_ret
      exact ⟨ret_int b2.symm, rfl⟩
    · rw [h] at L
      have L' := Lib.hid L
      clear h L
      go_enter Tryd.func44, Tryd.ntmps44
      go_wp2_with (go_at_call 17; refine L'.out.mono ?_; rintro e w' ⟨rfl, rfl⟩)
      go_ret
      exact ⟨ret_int b1.symm, rfl⟩
  all_goals
    first | rw [a1] | rw [a3] | rw [a4] | rw [a5] | rw [a6] | rw [a7] | rw [a8] | rw [a9] | rw [a10] | rw [a11] | rw [a12]
    clear a1 a3 a4 a5 a6 a7 a8 a9 a10 a11 a12 b1 b2
    go_enter Tryd.func44, Tryd.ntmps44
    go_wp2
    go_ret
    exact ⟨rfl, rfl⟩
theorem okf {y m d : Int} (h : ¬ (2001 ≤ y ∧ y ≤ 4000 ∧ 1 ≤ m ∧ m ≤ 12 ∧ 1 ≤ d)) : false = Cal.ok y m d := by
  unfold Cal.ok; exact (decide_eq_false (by omega)).symm
theorem okt {y m d : Int} (y1 : 2001 ≤ y) (y2 : y ≤ 4000) (m1 : 1 ≤ m) (m2 : m ≤ 12) (d1 : 1 ≤ d) : decide (d ≤ Cal.dim (Cal.lp y) m) = Cal.ok y m d := by
  unfold Cal.ok; rw [decide_eq_decide]; omega
set_option maxHeartbeats 1600000 in
theorem rdate_any (y m d : Int) (w : World) : Calls Tryd.prog 43 #[.int .i64 y, .int .i64 m, .int .i64 d] w fun e w' => e = .returned (.bool (Cal.ok y m d)) ∧ w = w' := by
  by_cases c : 2001 ≤ y ∧ y ≤ 4000 ∧ 1 ≤ m ∧ m ≤ 12 ∧ 1 ≤ d
  · obtain ⟨y1, y2, m1, m2, d1⟩ := c
    have O := Lib.hid (okt y1 y2 m1 m2 d1)
    go_enter Tryd.func43, Tryd.ntmps43
    go_wp2_with (go_at_call 44; refine (rlong_any _ _ _ (by omega) (by omega)).mono ?_; rintro e w' ⟨rfl, rfl⟩)
    all_goals
      go_ret
      exact ⟨ret_bool O.out, rfl⟩
  · have O := Lib.hid (okf c)
    have c' : y < 2001 ∨ (2001 ≤ y ∧ 4000 < y) ∨ (2001 ≤ y ∧ y ≤ 4000 ∧ m < 1) ∨ (2001 ≤ y ∧ y ≤ 4000 ∧ 1 ≤ m ∧ 12 < m) ∨ (2001 ≤ y ∧ y ≤ 4000 ∧ 1 ≤ m ∧ m ≤ 12 ∧ d < 1) := by omega
    clear c
    rcases c' with c | ⟨c, c1⟩ | ⟨c, c1, c2⟩ | ⟨c, c1, c2, c3⟩ | ⟨c, c1, c2, c3, c4⟩
    all_goals
      go_enter Tryd.func43, Tryd.ntmps43
      go_wp2
      go_ret
      exact ⟨ret_bool O.out, rfl⟩
set_option maxHeartbeats 400000 in
theorem rday_no (y m d : Int) (w : World) (h : Cal.ok y m d = false) : Calls Tryd.prog 15 #[.int .i64 y, .int .i64 m, .int .i64 d] w fun e w' => e = .returned (.tuple #[.int .i64 0, .int .i64 10]) ∧ w = w' := by
  have D := Lib.hid (h ▸ rdate_any y m d w)
  clear h
  go_enter Tryd.func15, Tryd.ntmps15
  go_wp2_with (go_at_call 43; refine D.out.mono ?_; rintro e w' ⟨rfl, rfl⟩)
  go_ret2
  exact ⟨rfl, rfl⟩
set_option maxHeartbeats 1600000 in
theorem rday_yes {n y m d : Int} (w : World) (h : Cal.IsDate n y m d) : Calls Tryd.prog 15 #[.int .i64 y, .int .i64 m, .int .i64 d] w fun e w' => e = .returned (.tuple #[.int .i64 n, .int .i64 0]) ∧ w = w' := by
  have D := Lib.hid (h.isok ▸ rdate_any y m d w)
  have hb := h.bd
  obtain ⟨y1, y2, m1, m2, d1, d2, e⟩ := h
  have d3 : d ≤ 31 := Int.le_trans d2 (Cal.dim_bd m _ m1 m2).2
  have HE := Lib.hid e
  clear d2 e
  go_enter Tryd.func15, Tryd.ntmps15
  go_wp2_with (go_at_call 43; refine D.out.mono ?_; rintro e w' ⟨rfl, rfl⟩)
  go_loop [8, 9] (fun a b => ∃ k : Int, 2001 ≤ k ∧ k ≤ y ∧ b = .int .i64 k ∧ a = .int .i64 (d - 1 + Cal.ys (k - 2001))) (fun _ b => (4001 - intOf b).toNat)
  case atStart => exact ⟨2001, by omega, by omega, rfl, by rw [show (2001 : Int) - 2001 = 0 by omega, Cal.ys_0]; simp⟩
  case round =>
    obtain ⟨k, k1, k2, rfl, rfl⟩ := hrel
    have b := Cal.ys_bd (k - 2001) (by omega) (by omega)
    by_cases c : k < y
    · have s := Cal.ys_succ (k - 2001)
      rw [show 2001 + (k - 2001) = k by omega, show k - 2001 + 1 = k + 1 - 2001 by omega] at s
      have L := rleap_any k w
      cases hl : Cal.lp k
      all_goals
        rw [hl] at L s
        have S := Lib.hid s
        have L' := Lib.hid L
        clear hl L s
        go_wp2_with (go_at_call 17; refine L'.out.mono ?_; rintro e w' ⟨rfl, rfl⟩)
        go_round
        case rel => exact ⟨k + 1, by omega, by omega, rfl, by rw [S.out]; simp; omega⟩
        case measure => simp [intOf]; omega
    · obtain rfl : k = y := by omega
      obtain ⟨b1, b2⟩ := b
      go_wp2
      go_loop [8, 10] (fun a b => ∃ j : Int, 1 ≤ j ∧ j ≤ m ∧ b = .int .i64 j ∧ a = .int .i64 (d - 1 + Cal.ys (k - 2001) + Cal.ms j (Cal.lp k))) (fun _ b => (13 - intOf b).toNat)
      case atStart => exact ⟨1, by omega, by omega, rfl, by rw [Cal.ms_1]; simp⟩
      case round =>
        obtain ⟨j, j1, j2, rfl, rfl⟩ := hrel
        have b3 := Cal.ms_bd j (Cal.lp k) (by omega) (by omega)
        by_cases c : j < m
        · have b4 := Cal.dim_bd j (Cal.lp k) (by omega) (by omega)
          have S := Lib.hid (Cal.ms_succ j (Cal.lp k))
          go_wp2_with (go_at_call 44; refine (rlong_any _ _ _ (by omega) (by omega)).mono ?_; rintro e w' ⟨rfl, rfl⟩)
          go_round
          case rel => exact ⟨j + 1, by omega, by omega, rfl, by rw [S.out]; simp; omega⟩
          case measure => simp [intOf]; omega
        · obtain rfl : j = m := by omega
          go_wp2
          go_ret2
          exact ⟨ret2i (by rw [HE.out]; omega) rfl, rfl⟩
set_option maxHeartbeats 400000 in
theorem within_eq (n g e : Int) (w : World) (h : err n g = e) : Calls Tryd.prog 69 #[.int .i64 n, .int .i64 g] w fun r w' => r = .returned (.int .i64 e) ∧ w = w' := by
  subst h
  go_enter Tryd.func69, Tryd.ntmps69
  go_wp2
  all_goals go_ret
  · exact ⟨ret_int (err_neg ‹_›).symm, rfl⟩
  · exact ⟨ret_int (err_long ‹_› ‹_›).symm, rfl⟩
  · exact ⟨ret_int (err_ok ‹_› ‹_›).symm, rfl⟩
end Go.Proofs.YtcnnfgigpjbcpaaDoor
