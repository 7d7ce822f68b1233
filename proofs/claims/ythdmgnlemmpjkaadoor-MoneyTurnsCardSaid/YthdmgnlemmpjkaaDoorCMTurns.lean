/- MoneyTurns: its walk. -/
import Derived.Test.YthdmgnlemmpjkaaDoorCMRounds
namespace Go.Proofs.YthdmgnlemmpjkaaDoor
open Go.RowKit

namespace Mny
/-- Shares of the negative amount. -/
theorem turns (c s : Int) : rnd (-c * s) 2 = -rnd (c * s) 1 ∧ rnd (-c * s) 1 = -rnd (c * s) 2 ∧ rnd (-c * s) 3 = -rnd (c * s) 3 ∧ rnd (-c * s) 4 = -rnd (c * s) 4 := by
  rw [Int.neg_mul]
  obtain ⟨P, hP⟩ : ∃ P, P = c * s := ⟨_, rfl⟩
  rw [← hP]
  refine ⟨?_, ?_, ?_, ?_⟩
  · rw [rnd_1, rnd_2]; split <;> omega
  · rw [rnd_1, rnd_2]; split <;> omega
  · rw [rnd_3, rnd_3]; (repeat' split) <;> omega
  · rw [rnd_4, rnd_4]; (repeat' split) <;> omega
end Mny
set_option maxRecDepth 100000 in
set_option maxHeartbeats 3200000 in
theorem walk_moneyTurns (n : Int) (_n1 : -9223372036854775808 ≤ n) (_n2 : n ≤ 9223372036854775807) (m : Int) (_m1 : -9223372036854775808 ≤ m) (_m2 : m ≤ 9223372036854775807) (w : World) (G : Gl w) :
    Calls Tryd.prog 6 #[.int .i64 n, .int .i64 m] w fun e w' => e = .returned (.bool true) ∧ Below w.heap.size w w' := by
  have PA := Lib.hid (fun w => amount_any n w)
  have PB := Lib.hid (fun w => pick_any m 10001 w (by omega) (by omega))
  obtain ⟨c, hc⟩ : ∃ c, c = n % 2000000000000001 - 1000000000000000 := ⟨_, rfl⟩
  obtain ⟨s, hs⟩ : ∃ s, s = m % 10001 := ⟨_, rfl⟩
  have c1 : -1000000000000000 ≤ c := by omega
  have c2 : c ≤ 1000000000000000 := by omega
  have s1 : 0 ≤ s := by omega
  have s2 : s ≤ 10000 := by omega
  rw [← hc] at PA
  rw [← hs] at PB
  clear hc hs
  obtain ⟨t1, t2, t3, t4⟩ := Mny.turns c s
  have d1 := Mny.rnd_bd (c := c) (s := s) 1 c1 c2 s1 s2
  obtain ⟨x1, h1⟩ : ∃ x, x = Mny.rnd (c * s) 1 := ⟨_, rfl⟩
  rw [← h1] at d1 t1
  obtain ⟨d1a, d1b⟩ := d1
  have d2 := Mny.rnd_bd (c := c) (s := s) 2 c1 c2 s1 s2
  obtain ⟨x2, h2⟩ : ∃ x, x = Mny.rnd (c * s) 2 := ⟨_, rfl⟩
  rw [← h2] at d2 t2
  obtain ⟨d2a, d2b⟩ := d2
  have d3 := Mny.rnd_bd (c := c) (s := s) 3 c1 c2 s1 s2
  obtain ⟨x3, h3⟩ : ∃ x, x = Mny.rnd (c * s) 3 := ⟨_, rfl⟩
  rw [← h3] at d3 t3
  obtain ⟨d3a, d3b⟩ := d3
  have d4 := Mny.rnd_bd (c := c) (s := s) 4 c1 c2 s1 s2
  obtain ⟨x4, h4⟩ : ∃ x, x = Mny.rnd (c * s) 4 := ⟨_, rfl⟩
  rw [← h4] at d4 t4
  obtain ⟨d4a, d4b⟩ := d4
  have A1 := Lib.hid (fun w' => sh c s 1 x1 w' c1 c2 s1 s2 (by omega) (by omega) h1.symm)
  have B1 := Lib.hid (fun w' => sh (-c) s 2 (-x1) w' (by omega) (by omega) s1 s2 (by omega) (by omega) t1)
  have A2 := Lib.hid (fun w' => sh c s 2 x2 w' c1 c2 s1 s2 (by omega) (by omega) h2.symm)
  have B2 := Lib.hid (fun w' => sh (-c) s 1 (-x2) w' (by omega) (by omega) s1 s2 (by omega) (by omega) t2)
  have A3 := Lib.hid (fun w' => sh c s 3 x3 w' c1 c2 s1 s2 (by omega) (by omega) h3.symm)
  have B3 := Lib.hid (fun w' => sh (-c) s 3 (-x3) w' (by omega) (by omega) s1 s2 (by omega) (by omega) t3)
  have A4 := Lib.hid (fun w' => sh c s 4 x4 w' c1 c2 s1 s2 (by omega) (by omega) h4.symm)
  have B4 := Lib.hid (fun w' => sh (-c) s 4 (-x4) w' (by omega) (by omega) s1 s2 (by omega) (by omega) t4)
  clear t1 t2 t3 t4 h1 h2 h3 h4
  go_enter Tryd.func6, Tryd.ntmps6
  go_wp2_with (first | (go_at_call 11; refine (awake_any w _ (St.refl G)).mono ?_; rintro e wa ⟨rfl, S0⟩)  | (go_at_call 13; refine (PA.out _).mono ?_; rintro e w' ⟨rfl, rfl⟩)  | (go_at_call 17; refine (PB.out _).mono ?_; rintro e w' ⟨rfl, rfl⟩))
  obtain ⟨w1, hw1⟩ : ∃ x, x = wa.alloc (.cells #[.int .u8 1, .int .u8 2, .int .u8 2, .int .u8 1, .int .u8 3, .int .u8 3, .int .u8 4, .int .u8 4] 38) := ⟨_, rfl⟩
  obtain ⟨b, hb⟩ : ∃ x, x = wa.heap.size := ⟨_, rfl⟩
  have S1 : St w w1 := by rw [hw1]; exact S0.step (by go_grown)
  have D0 : Hid (w1.cell? ⟨b, 0, none⟩ = some (.int .u8 1)) := by show _ = _; rw [hw1]; exact cell_at _ _ _ 0 _ _ hb rfl
  have D1 : Hid (w1.cell? ⟨b, 1, none⟩ = some (.int .u8 2)) := by show _ = _; rw [hw1]; exact cell_at _ _ _ 1 _ _ hb rfl
  have D2 : Hid (w1.cell? ⟨b, 2, none⟩ = some (.int .u8 2)) := by show _ = _; rw [hw1]; exact cell_at _ _ _ 2 _ _ hb rfl
  have D3 : Hid (w1.cell? ⟨b, 3, none⟩ = some (.int .u8 1)) := by show _ = _; rw [hw1]; exact cell_at _ _ _ 3 _ _ hb rfl
  have D4 : Hid (w1.cell? ⟨b, 4, none⟩ = some (.int .u8 3)) := by show _ = _; rw [hw1]; exact cell_at _ _ _ 4 _ _ hb rfl
  have D5 : Hid (w1.cell? ⟨b, 5, none⟩ = some (.int .u8 3)) := by show _ = _; rw [hw1]; exact cell_at _ _ _ 5 _ _ hb rfl
  have D6 : Hid (w1.cell? ⟨b, 6, none⟩ = some (.int .u8 4)) := by show _ = _; rw [hw1]; exact cell_at _ _ _ 6 _ _ hb rfl
  have D7 : Hid (w1.cell? ⟨b, 7, none⟩ = some (.int .u8 4)) := by show _ = _; rw [hw1]; exact cell_at _ _ _ 7 _ _ hb rfl
  rw [← hw1, ← hb]
  have S01 : Hid (Below w.heap.size w w1) := S1.bl
  have G1 := S1.gl
  clear hw1 hb S0 S1
  go_loopw [25] (fun i wr => ∃ k : Int, (0 ≤ k ∧ k ≤ 4) ∧ i = .int .i64 k ∧ St w1 wr) (fun i _ => 5 - (intOf i).toNat)
  case atStart => exact ⟨0, by omega, rfl, St.refl G1⟩
  case round =>
    obtain ⟨k, hk, rfl, SR⟩ := hrel
    have hk4 : k = 0 ∨ k = 1 ∨ k = 2 ∨ k = 3 ∨ k = 4 := by omega
    have SW : St w wr := ⟨SR.gl, S01.out.trans (SR.bl.mono S01.out.size)⟩
    rcases hk4 with rfl | rfl | rfl | rfl | rfl
    · have c0 : wr.cell? ⟨b, 0, none⟩ = some (.int .u8 1) := (SR.bl.cell (World.block_lt_of_cell? _ _ D0.out)).trans D0.out
      have c1 : wr.cell? ⟨b, 1, none⟩ = some (.int .u8 2) := (SR.bl.cell (World.block_lt_of_cell? _ _ D1.out)).trans D1.out
      go_wp2_with (first | (go_at_call 18; (with_reducible refine (A1.out _).mono ?_); rintro e w2 ⟨rfl, b2⟩; have f2 := (b2.cell (World.block_lt_of_cell? _ _ (cell_at wr #[.int .u8 1, .int .u8 2] 38 1 _ _ rfl rfl))).trans (cell_at wr #[.int .u8 1, .int .u8 2] 38 1 _ _ rfl rfl))  | (go_at_call 18; (with_reducible refine (B1.out _).mono ?_); rintro e w3 ⟨rfl, b3⟩))
      go_roundw
      case rel => exact ⟨1, by omega, rfl, ((SR.step ((Below.refl _ _).alloc (Nat.le_refl _) _)).step b2).step b3⟩
      case measure => simp [intOf]
    · have c0 : wr.cell? ⟨b, 2, none⟩ = some (.int .u8 2) := (SR.bl.cell (World.block_lt_of_cell? _ _ D2.out)).trans D2.out
      have c1 : wr.cell? ⟨b, 3, none⟩ = some (.int .u8 1) := (SR.bl.cell (World.block_lt_of_cell? _ _ D3.out)).trans D3.out
      go_wp2_with (first | (go_at_call 18; (with_reducible refine (A2.out _).mono ?_); rintro e w2 ⟨rfl, b2⟩; have f2 := (b2.cell (World.block_lt_of_cell? _ _ (cell_at wr #[.int .u8 2, .int .u8 1] 38 1 _ _ rfl rfl))).trans (cell_at wr #[.int .u8 2, .int .u8 1] 38 1 _ _ rfl rfl))  | (go_at_call 18; (with_reducible refine (B2.out _).mono ?_); rintro e w3 ⟨rfl, b3⟩))
      go_roundw
      case rel => exact ⟨2, by omega, rfl, ((SR.step ((Below.refl _ _).alloc (Nat.le_refl _) _)).step b2).step b3⟩
      case measure => simp [intOf]
    · have c0 : wr.cell? ⟨b, 4, none⟩ = some (.int .u8 3) := (SR.bl.cell (World.block_lt_of_cell? _ _ D4.out)).trans D4.out
      have c1 : wr.cell? ⟨b, 5, none⟩ = some (.int .u8 3) := (SR.bl.cell (World.block_lt_of_cell? _ _ D5.out)).trans D5.out
      go_wp2_with (first | (go_at_call 18; (with_reducible refine (A3.out _).mono ?_); rintro e w2 ⟨rfl, b2⟩; have f2 := (b2.cell (World.block_lt_of_cell? _ _ (cell_at wr #[.int .u8 3, .int .u8 3] 38 1 _ _ rfl rfl))).trans (cell_at wr #[.int .u8 3, .int .u8 3] 38 1 _ _ rfl rfl))  | (go_at_call 18; (with_reducible refine (B3.out _).mono ?_); rintro e w3 ⟨rfl, b3⟩))
      go_roundw
      case rel => exact ⟨3, by omega, rfl, ((SR.step ((Below.refl _ _).alloc (Nat.le_refl _) _)).step b2).step b3⟩
      case measure => simp [intOf]
    · have c0 : wr.cell? ⟨b, 6, none⟩ = some (.int .u8 4) := (SR.bl.cell (World.block_lt_of_cell? _ _ D6.out)).trans D6.out
      have c1 : wr.cell? ⟨b, 7, none⟩ = some (.int .u8 4) := (SR.bl.cell (World.block_lt_of_cell? _ _ D7.out)).trans D7.out
      go_wp2_with (first | (go_at_call 18; (with_reducible refine (A4.out _).mono ?_); rintro e w2 ⟨rfl, b2⟩; have f2 := (b2.cell (World.block_lt_of_cell? _ _ (cell_at wr #[.int .u8 4, .int .u8 4] 38 1 _ _ rfl rfl))).trans (cell_at wr #[.int .u8 4, .int .u8 4] 38 1 _ _ rfl rfl))  | (go_at_call 18; (with_reducible refine (B4.out _).mono ?_); rintro e w3 ⟨rfl, b3⟩))
      go_roundw
      case rel => exact ⟨4, by omega, rfl, ((SR.step ((Below.refl _ _).alloc (Nat.le_refl _) _)).step b2).step b3⟩
      case measure => simp [intOf]
    · go_wp2
      go_ret
      exact ⟨rfl, SW.bl⟩
end Go.Proofs.YthdmgnlemmpjkaaDoor
