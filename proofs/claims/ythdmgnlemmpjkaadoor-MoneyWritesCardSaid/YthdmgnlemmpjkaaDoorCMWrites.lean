/- MoneyWrites: its walk. -/
import Derived.Test.YthdmgnlemmpjkaaDoorPk
namespace Go.Proofs.YthdmgnlemmpjkaaDoor
open Go.RowKit

set_option maxRecDepth 100000 in
set_option maxHeartbeats 3200000 in
theorem walk_moneyWrites (m : Int) (_m1 : -9223372036854775808 ≤ m) (_m2 : m ≤ 9223372036854775807) (n : Int) (_n1 : -9223372036854775808 ≤ n) (_n2 : n ≤ 9223372036854775807) (w : World) (G : Gl w) :
    Calls Tryd.prog 9 #[.int .i64 m, .int .i64 n] w fun e w' => e = .returned (.bool true) ∧ Below w.heap.size w w' := by
  have PA := Lib.hid (fun w => amount_any m w)
  have PB := Lib.hid (fun w => amount_any n w)
  obtain ⟨a, ha⟩ : ∃ c, c = m % 2000000000000001 - 1000000000000000 := ⟨_, rfl⟩
  obtain ⟨b, hb⟩ : ∃ c, c = n % 2000000000000001 - 1000000000000000 := ⟨_, rfl⟩
  have a1 : -1000000000000000 ≤ a := by omega
  have a2 : a ≤ 1000000000000000 := by omega
  have b1 : -1000000000000000 ≤ b := by omega
  have b2 : b ≤ 1000000000000000 := by omega
  rw [← ha] at PA
  rw [← hb] at PB
  clear ha hb
  have ra := (Mny.rt_iff a).2 ⟨a1, a2⟩
  have rb := (Mny.rt_iff b).2 ⟨b1, b2⟩
  have TA := Lib.hid (fun w' (S : St w w') => text_ok a w w' ra S)
  have TB := Lib.hid (fun w' (S : St w w') => text_ok b w w' rb S)
  have RA := Lib.hid (fun w' (S : St w w') => read_yes a w w' ra S)
  have l1 := Mtx.txt_len a a1 a2
  have l2 := Mtx.txt_len b b1 b2
  by_cases hab : a = b
  · subst hab
    clear TB
    have TB := TA
    have LT : 0 ≤ a → Op.bytesLess (Mtx.txt a) (Mtx.txt a) = decide (a < a) := fun h => Mtx.txt_less a a h h rfl
    by_cases n1 : 0 ≤ a
    · have LT := LT n1
      go_enter Tryd.func9, Tryd.ntmps9
      go_wp2_with (first | (go_at_call 11; refine (awake_any w _ (St.refl G)).mono ?_; rintro e wa ⟨rfl, S0⟩)  | (go_at_call 13; (with_reducible refine (PA.out _).mono ?_); rintro e w' ⟨rfl, rfl⟩)  | (go_at_call 13; (with_reducible refine (PB.out _).mono ?_); rintro e w' ⟨rfl, rfl⟩)  | (go_at_call 21; (with_reducible refine (TA.out _ S0).mono ?_); rintro e wb ⟨rfl, S1⟩)  | (go_at_call 21; (with_reducible refine (TB.out _ S1).mono ?_); rintro e wc ⟨rfl, S2⟩)  | (go_at_call 22; (with_reducible refine (RA.out _ S2).mono ?_); rintro e wd ⟨rfl, S3⟩))
      go_ret
      first
        | exact ⟨rfl, S3.bl⟩
        | (refine ⟨ret_bool ?_, S3.bl⟩; simp; done)
        | (refine ⟨ret_bool ?_, S3.bl⟩; simp; omega)
    · clear LT
      go_enter Tryd.func9, Tryd.ntmps9
      go_wp2_with (first | (go_at_call 11; refine (awake_any w _ (St.refl G)).mono ?_; rintro e wa ⟨rfl, S0⟩)  | (go_at_call 13; (with_reducible refine (PA.out _).mono ?_); rintro e w' ⟨rfl, rfl⟩)  | (go_at_call 13; (with_reducible refine (PB.out _).mono ?_); rintro e w' ⟨rfl, rfl⟩)  | (go_at_call 21; (with_reducible refine (TA.out _ S0).mono ?_); rintro e wb ⟨rfl, S1⟩)  | (go_at_call 21; (with_reducible refine (TB.out _ S1).mono ?_); rintro e wc ⟨rfl, S2⟩)  | (go_at_call 22; (with_reducible refine (RA.out _ S2).mono ?_); rintro e wd ⟨rfl, S3⟩))
      go_ret
      first
        | exact ⟨rfl, S3.bl⟩
        | (refine ⟨ret_bool ?_, S3.bl⟩; simp; done)
        | (refine ⟨ret_bool ?_, S3.bl⟩; simp; omega)
  · have h1 : (Mtx.txt a == Mtx.txt b) = false := by rw [beq_eq_false_iff_ne]; exact fun h => hab (Mtx.txt_inj h)
    have h2 : (a == b) = false := by rw [beq_eq_false_iff_ne]; exact hab
    by_cases n1 : a < 0
    · go_enter Tryd.func9, Tryd.ntmps9
      go_wp2_with (first | (go_at_call 11; refine (awake_any w _ (St.refl G)).mono ?_; rintro e wa ⟨rfl, S0⟩)  | (go_at_call 13; (with_reducible refine (PA.out _).mono ?_); rintro e w' ⟨rfl, rfl⟩)  | (go_at_call 13; (with_reducible refine (PB.out _).mono ?_); rintro e w' ⟨rfl, rfl⟩)  | (go_at_call 21; (with_reducible refine (TA.out _ S0).mono ?_); rintro e wb ⟨rfl, S1⟩)  | (go_at_call 21; (with_reducible refine (TB.out _ S1).mono ?_); rintro e wc ⟨rfl, S2⟩)  | (go_at_call 22; (with_reducible refine (RA.out _ S2).mono ?_); rintro e wd ⟨rfl, S3⟩))
      go_ret
      first
        | exact ⟨rfl, S3.bl⟩
        | (refine ⟨ret_bool ?_, S3.bl⟩; simp; done)
        | (refine ⟨ret_bool ?_, S3.bl⟩; simp; omega)
    by_cases n2 : b < 0
    · go_enter Tryd.func9, Tryd.ntmps9
      go_wp2_with (first | (go_at_call 11; refine (awake_any w _ (St.refl G)).mono ?_; rintro e wa ⟨rfl, S0⟩)  | (go_at_call 13; (with_reducible refine (PA.out _).mono ?_); rintro e w' ⟨rfl, rfl⟩)  | (go_at_call 13; (with_reducible refine (PB.out _).mono ?_); rintro e w' ⟨rfl, rfl⟩)  | (go_at_call 21; (with_reducible refine (TA.out _ S0).mono ?_); rintro e wb ⟨rfl, S1⟩)  | (go_at_call 21; (with_reducible refine (TB.out _ S1).mono ?_); rintro e wc ⟨rfl, S2⟩)  | (go_at_call 22; (with_reducible refine (RA.out _ S2).mono ?_); rintro e wd ⟨rfl, S3⟩))
      go_ret
      first
        | exact ⟨rfl, S3.bl⟩
        | (refine ⟨ret_bool ?_, S3.bl⟩; simp; done)
        | (refine ⟨ret_bool ?_, S3.bl⟩; simp; omega)
    by_cases n3 : (Mtx.txt a).length = (Mtx.txt b).length
    · have LT := Mtx.txt_less a b (by omega) (by omega) n3
      have h4 : (((Mtx.txt a).length : Int) != ((Mtx.txt b).length : Int)) = false := by rw [bne_eq_false_iff_eq]; omega
      clear n3
      by_cases n4 : a < b
      all_goals
        go_enter Tryd.func9, Tryd.ntmps9
        go_wp2_with (first | (go_at_call 11; refine (awake_any w _ (St.refl G)).mono ?_; rintro e wa ⟨rfl, S0⟩)  | (go_at_call 13; (with_reducible refine (PA.out _).mono ?_); rintro e w' ⟨rfl, rfl⟩)  | (go_at_call 13; (with_reducible refine (PB.out _).mono ?_); rintro e w' ⟨rfl, rfl⟩)  | (go_at_call 21; (with_reducible refine (TA.out _ S0).mono ?_); rintro e wb ⟨rfl, S1⟩)  | (go_at_call 21; (with_reducible refine (TB.out _ S1).mono ?_); rintro e wc ⟨rfl, S2⟩)  | (go_at_call 22; (with_reducible refine (RA.out _ S2).mono ?_); rintro e wd ⟨rfl, S3⟩))
        go_ret
        first
          | exact ⟨rfl, S3.bl⟩
          | (refine ⟨ret_bool ?_, S3.bl⟩; simp; done)
          | (refine ⟨ret_bool ?_, S3.bl⟩; simp; omega)
    · have h4 : (((Mtx.txt a).length : Int) != ((Mtx.txt b).length : Int)) = true := by rw [bne_iff_ne]; omega
      clear n3
      go_enter Tryd.func9, Tryd.ntmps9
      go_wp2_with (first | (go_at_call 11; refine (awake_any w _ (St.refl G)).mono ?_; rintro e wa ⟨rfl, S0⟩)  | (go_at_call 13; (with_reducible refine (PA.out _).mono ?_); rintro e w' ⟨rfl, rfl⟩)  | (go_at_call 13; (with_reducible refine (PB.out _).mono ?_); rintro e w' ⟨rfl, rfl⟩)  | (go_at_call 21; (with_reducible refine (TA.out _ S0).mono ?_); rintro e wb ⟨rfl, S1⟩)  | (go_at_call 21; (with_reducible refine (TB.out _ S1).mono ?_); rintro e wc ⟨rfl, S2⟩)  | (go_at_call 22; (with_reducible refine (RA.out _ S2).mono ?_); rintro e wd ⟨rfl, S3⟩))
      go_ret
      first
        | exact ⟨rfl, S3.bl⟩
        | (refine ⟨ret_bool ?_, S3.bl⟩; simp; done)
        | (refine ⟨ret_bool ?_, S3.bl⟩; simp; omega)
end Go.Proofs.YthdmgnlemmpjkaaDoor
