/- MoneyRounds: its walk. -/
import Derived.Test.YthdmgnlemmpjkaaDoorPk
namespace Go.Proofs.YthdmgnlemmpjkaaDoor
open Go.RowKit

namespace Mny
/-- The ways of rounding beside one another. -/
theorem rnds (c s : Int) (h3 : 0 ≤ s) : ∃ d u h v : Int, rnd (c * s) 1 = d ∧ rnd (c * s) 2 = u ∧ rnd (c * s) 3 = h ∧ rnd (c * s) 4 = v ∧ d + rnd (c * (10000 - s)) 2 = c ∧
    (u = d ∧ h = d ∧ v = d ∨ u = d + 1 ∧ h = d ∧ v = d ∨ u = d + 1 ∧ h = d + 1 ∧ v = d + 1 ∨ u = d + 1 ∧ h = d + 1 ∧ v = d ∧ d % 2 = 0 ∧ 0 ≤ d ∧ 0 < c ∨ u = d + 1 ∧ h = d ∧ v = d + 1 ∧ d % 2 = 1 ∧ d < 0 ∧ c ≤ 0) := by
  refine ⟨_, _, _, _, rfl, rfl, rfl, rfl, ?_, ?_⟩
  · rw [rnd_1, rnd_2]
    have e : c * (10000 - s) = 10000 * c - c * s := by rw [Int.mul_sub, Int.mul_comm c 10000]
    rw [e]
    obtain ⟨P, hP⟩ : ∃ P, P = c * s := ⟨_, rfl⟩
    rw [← hP]
    split <;> omega
  · have p : 0 < c ∨ c ≤ 0 := by omega
    have n : c ≤ 0 → c * s ≤ 0 := fun h => Int.mul_nonpos_of_nonpos_of_nonneg h h3
    have m : 0 < c → 0 ≤ c * s := fun h => Int.mul_nonneg (by omega) h3
    rw [rnd_1, rnd_2, rnd_3, rnd_4]
    obtain ⟨P, hP⟩ : ∃ P, P = c * s := ⟨_, rfl⟩
    rw [← hP] at n m ⊢
    (repeat' split) <;> omega
theorem rnd_all (c way : Int) : rnd (c * 10000) way = c := by
  unfold rnd ad
  obtain ⟨q, hq⟩ : ∃ q, q = c * 10000 := ⟨_, rfl⟩
  rw [← hq]
  have e1 : q / 10000 = c := by omega
  have e2 : q % 10000 = 0 := by omega
  rw [e1, e2]
  (repeat' split) <;> omega
theorem rnd_none (c way : Int) : rnd (c * 0) way = 0 := by
  unfold rnd ad
  rw [Int.mul_zero]
  (repeat' split) <;> first | rfl | omega
end Mny
theorem share_s (c s way r : Int) (w : World) (h1 : -1000000000000000 ≤ c) (h2 : c ≤ 1000000000000000) (h3 : 0 ≤ s) (h4 : s ≤ 10000) (h5 : 1 ≤ way) (h6 : way ≤ 4) (hr : Mny.rnd (c * s) way = r) (w0 : World) (S : St w0 w) :
    Calls Tryd.prog 18 #[.int .i64 c, .int .i64 s, .int .u8 way] w fun e w' => e = .returned (.tuple #[.int .i64 r, .int .i64 0]) ∧ St w0 w' :=
  (sh c s way r w h1 h2 h3 h4 h5 h6 hr).mono fun _ _ ⟨he, hb⟩ => ⟨he, S.step hb⟩
set_option maxRecDepth 100000 in
set_option maxHeartbeats 3200000 in
theorem walk_moneyRounds (n : Int) (_n1 : -9223372036854775808 ≤ n) (_n2 : n ≤ 9223372036854775807) (m : Int) (_m1 : -9223372036854775808 ≤ m) (_m2 : m ≤ 9223372036854775807) (w : World) (G : Gl w) :
    Calls Tryd.prog 5 #[.int .i64 n, .int .i64 m] w fun e w' => e = .returned (.bool true) ∧ Below w.heap.size w w' := by
  have PA := Lib.hid (fun w => amount_any n w)
  have PB := Lib.hid (fun w => pick_any m 10001 w (by omega) (by omega))
  obtain ⟨c, hc⟩ : ∃ c, c = n % 2000000000000001 - 1000000000000000 := ⟨_, rfl⟩
  obtain ⟨s, hs⟩ : ∃ s, s = m % 10001 := ⟨_, rfl⟩
  have c1 : -1000000000000000 ≤ c := by omega
  have c2 : c ≤ 1000000000000000 := by omega
  have s1 : 0 ≤ s := by omega
  have s2 : s ≤ 10000 := by omega
  rw [← hc] at PA
  rw [← hs] at PB
  clear hc hs
  obtain ⟨d, u, h, v, e1, e2, e3, e4, e5, e6⟩ := Mny.rnds c s s1
  have db := Mny.rnd_bd (c := c) (s := s) 1 c1 c2 s1 s2
  rw [e1] at db
  obtain ⟨db1, db2⟩ := db
  have A1 := Lib.hid (fun w' (S : St w w') => share_s c s 1 d w' c1 c2 s1 s2 (by omega) (by omega) e1 w S)
  have A2 := Lib.hid (fun w' (S : St w w') => share_s c s 2 u w' c1 c2 s1 s2 (by omega) (by omega) e2 w S)
  have A3 := Lib.hid (fun w' (S : St w w') => share_s c s 3 h w' c1 c2 s1 s2 (by omega) (by omega) e3 w S)
  have A4 := Lib.hid (fun w' (S : St w w') => share_s c s 4 v w' c1 c2 s1 s2 (by omega) (by omega) e4 w S)
  have A5 := Lib.hid (fun w' (S : St w w') => share_s c (10000 - s) 2 (c - d) w' c1 c2 (by omega) (by omega) (by omega) (by omega) (by omega) w S)
  have A6 := Lib.hid (fun k w' (S : St w w') (k1 : 1 ≤ k) (k2 : k ≤ 4) => share_s c 10000 k c w' c1 c2 (by omega) (by omega) k1 k2 (Mny.rnd_all c k) w S)
  have A7 := Lib.hid (fun k w' (S : St w w') (k1 : 1 ≤ k) (k2 : k ≤ 4) => share_s c 0 k 0 w' c1 c2 (by omega) (by omega) k1 k2 (Mny.rnd_none c k) w S)
  have f1 : (d + (c - d) != c) = false := by rw [bne_eq_false_iff_eq]; omega
  have f2 : (d + 1 != d) = true := by rw [bne_iff_ne]; omega
  have f3 : (d != d + 1) = true := by rw [bne_iff_ne]; omega
  clear e1 e2 e3 e4 e5
  rcases e6 with ⟨rfl, rfl, rfl⟩ | ⟨rfl, rfl, rfl⟩ | ⟨rfl, rfl, rfl⟩ | ⟨rfl, rfl, rfl, q1, q2, q3⟩ | ⟨rfl, rfl, rfl, q1, q2, q3⟩
  all_goals first
    | (have t2 : (h + 1).tmod 2 = 0 := (tmod2 _).2 (by omega))
    | skip
  all_goals
    go_enter Tryd.func5, Tryd.ntmps5
    go_wp2_with (first | (go_at_call 11; refine (awake_any w _ (St.refl G)).mono ?_; rintro e wa ⟨rfl, S0⟩)  | (go_at_call 13; refine (PA.out _).mono ?_; rintro e w' ⟨rfl, rfl⟩)  | (go_at_call 17; refine (PB.out _).mono ?_; rintro e w' ⟨rfl, rfl⟩)  | (go_at_call 18; (with_reducible refine (A1.out _ S0).mono ?_); rintro e wb ⟨rfl, S1⟩)  | (go_at_call 18; (with_reducible refine (A2.out _ S1).mono ?_); rintro e wc ⟨rfl, S2⟩)  | (go_at_call 18; (with_reducible refine (A3.out _ S2).mono ?_); rintro e wd ⟨rfl, S3⟩)  | (go_at_call 18; (with_reducible refine (A4.out _ S3).mono ?_); rintro e we ⟨rfl, S4⟩)  | (go_at_call 18; (with_reducible refine (A5.out _ S4).mono ?_); rintro e wf ⟨rfl, S5⟩))
    go_loopw [17] (fun i wr => ∃ k : Int, (1 ≤ k ∧ k ≤ 5) ∧ i = .int .u8 k ∧ St w wr) (fun i _ => 6 - (intOf i).toNat)
    case atStart => exact ⟨1, by omega, rfl, S5⟩
    case round =>
      obtain ⟨k, ⟨k1, k2⟩, rfl, SR⟩ := hrel
      by_cases hk : k ≤ 4
      · go_wp2_with (first | (go_at_call 18; (with_reducible refine (A6.out k _ SR k1 hk).mono ?_); rintro e wg ⟨rfl, S6⟩)  | (go_at_call 18; (with_reducible refine (A7.out k _ S6 k1 hk).mono ?_); rintro e wh ⟨rfl, S7⟩))
        go_roundw
        case rel => exact ⟨k + 1, by omega, by go_num, S7⟩
        case measure => simp [intOf]; omega
      · go_wp2
        go_ret
        first
          | exact ⟨rfl, SR.bl⟩
          | (refine ⟨ret_bool ?_, SR.bl⟩; simp; omega)
end Go.Proofs.YthdmgnlemmpjkaaDoor
