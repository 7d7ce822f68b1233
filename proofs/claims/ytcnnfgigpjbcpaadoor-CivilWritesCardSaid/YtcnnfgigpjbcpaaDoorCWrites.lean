/- CivilWrites: its walk. -/
import Derived.Test.YtcnnfgigpjbcpaaDoorTx
namespace Go.Proofs.YtcnnfgigpjbcpaaDoor
open Go.RowKit
set_option maxRecDepth 100000 in
set_option maxHeartbeats 3200000 in
theorem walk_civilWrites (a : Int) (_a1 : -9223372036854775808 ≤ a) (_a2 : a ≤ 9223372036854775807) (b : Int) (_b1 : -9223372036854775808 ≤ b) (_b2 : b ≤ 9223372036854775807) (w : World) (G : Gl w) :
    Calls Tryd.prog 9 #[.int .i64 a, .int .i64 b] w fun e w' => e = .returned (.bool true) ∧ Below w.heap.size w w' := by
  have PA := Lib.hid (fun w => pick_any a 1051898400 w (by omega) (by omega))
  have PB := Lib.hid (fun w => pick_any b 1051898400 w (by omega) (by omega))
  obtain ⟨x, hx⟩ : ∃ x, x = a % 1051898400 := ⟨_, rfl⟩
  obtain ⟨z, hz⟩ : ∃ z, z = b % 1051898400 := ⟨_, rfl⟩
  have x0 : 0 ≤ x := by omega
  have x1 : x < 1051898400 := by omega
  have z0 : 0 ≤ z := by omega
  have z1 : z < 1051898400 := by omega
  rw [← hx] at PA
  rw [← hz] at PB
  clear hx hz
  obtain ⟨y, m, d, D⟩ : ∃ y m d, Cal.IsDate (x / 1440) y m d := ⟨_, _, _, Cal.date_is _ (by omega) (by omega)⟩
  obtain ⟨y', m', d', E⟩ : ∃ y m d, Cal.IsDate (z / 1440) y m d := ⟨_, _, _, Cal.date_is _ (by omega) (by omega)⟩
  have RT := Lib.hid (fun w G => readTime_yes ⟨(ttx y m d (x % 1440 / 60) (x % 60)).toArray⟩ w (rt_ttx D) G)
  have RD := Lib.hid (fun w G => read_yes ⟨(dtx y m d).toArray⟩ w (rd_dtx D) G)
  have LT := ts_lt D E
  have LN : (ttx y m d (x % 1440 / 60) (x % 60)).length = 16 := rfl
  have EX : ((⟨(ttx y m d (x % 1440 / 60) (x % 60)).toArray⟩ : ByteArray).extract 0 10).toList = dtx y m d := by
    have e : (⟨(ttx y m d (x % 1440 / 60) (x % 60)).toArray⟩ : ByteArray).extract 0 10 = ⟨(dtx y m d).toArray⟩ := by
      apply ByteArray.ext
      apply Array.ext'
      rw [Lib.extract_data]
      rfl
    rw [e]; simp
  go_enter Tryd.func9, Tryd.ntmps9
  go_wp2_with (first | (go_at_call 19; refine (awake_any w _ (St.refl G)).mono ?_; rintro e w1 ⟨rfl, S1⟩)  | (go_at_call 26; (with_reducible refine (PA.out _).mono ?_); rintro e w' ⟨rfl, rfl⟩)  | (go_at_call 26; (with_reducible refine (PB.out _).mono ?_); rintro e w' ⟨rfl, rfl⟩)  | (go_at_call 29; (with_reducible refine (ttext_ok w _ x0 (by omega) D S1).mono ?_); rintro e w2 ⟨rfl, S2⟩)  | (go_at_call 29; (with_reducible refine (ttext_ok w _ z0 (by omega) E S2).mono ?_); rintro e w3 ⟨rfl, S3⟩)  | (go_at_call 22; (with_reducible refine (RT.out _ S3.gl).mono ?_); rintro e w4 ⟨rfl, Q4⟩; have S4 := Q4.st S3)  | (go_at_call 30; (with_reducible refine (split_ok _ _ x0 (by omega)).mono ?_); rintro e w' ⟨rfl, rfl⟩)  | (go_at_call 31; (with_reducible refine (text_ok w _ D S4).mono ?_); rintro e w5 ⟨rfl, S5⟩)  | (go_at_call 20; (with_reducible refine (RD.out _ S5.gl).mono ?_); rintro e w6 ⟨rfl, Q6⟩; have S6 := Q6.st S5))
  go_ret
  exact ⟨rfl, S6.bl⟩
end Go.Proofs.YtcnnfgigpjbcpaaDoor
