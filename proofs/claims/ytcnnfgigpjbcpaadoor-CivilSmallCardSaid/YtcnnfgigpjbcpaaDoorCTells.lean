/- CivilTells: its walk. -/
import Derived.Test.YtcnnfgigpjbcpaaDoorR3
namespace Go.Proofs.YtcnnfgigpjbcpaaDoor
open Go.RowKit
set_option maxRecDepth 100000 in
set_option maxHeartbeats 1600000 in
theorem split_true (n : Int) (w0 w : World) (S : St w0 w) : Calls Tryd.prog 49 #[.int .i64 n] w fun e w' => e = .returned (.bool true) ∧ St w0 w' := by
  by_cases c : n < 0 ∨ 1051898399 < n
  · have A := Lib.hid (fun w => split_bad n w c)
    have B := Lib.hid (fun w => rsplit_bad n w c)
    have C := Lib.hid (fun w => ttext_bad n w c)
    have D := Lib.hid (fun w => rttext_bad n w c)
    obtain ⟨e, he⟩ : ∃ e, e = err n 1051898399 := ⟨_, rfl⟩
    rw [← he] at A B C D
    clear c he
    go_enter Tryd.func49, Tryd.ntmps49
    go_wp2_with (first | (go_at_call 30; refine (A.out _).mono ?_; rintro e w' ⟨rfl, rfl⟩) | (go_at_call 71; refine (B.out _).mono ?_; rintro e w' ⟨rfl, rfl⟩) | (go_at_call 29; refine (C.out _).mono ?_; rintro e w' ⟨rfl, rfl⟩) | (go_at_call 72; refine (D.out _).mono ?_; rintro e w' ⟨rfl, rfl⟩))
    all_goals go_ret
    exact ⟨rfl, S⟩
  · have h0 : 0 ≤ n := by omega
    have h1 : n ≤ 1051898399 := by omega
    clear c
    obtain ⟨y, m, d, D⟩ : ∃ y m d, Cal.IsDate (n / 1440) y m d := ⟨_, _, _, Cal.date_is _ (by omega) (by omega)⟩
    go_enter Tryd.func49, Tryd.ntmps49
    go_wp2_with (first | (go_at_call 30; refine (split_ok _ _ h0 h1).mono ?_; rintro e w' ⟨rfl, rfl⟩) | (go_at_call 71; refine (rsplit_ok _ _ h0 h1).mono ?_; rintro e w' ⟨rfl, rfl⟩) | (go_at_call 29; refine (ttext_ok w0 _ h0 h1 D S).mono ?_; rintro e w1 ⟨rfl, S1⟩) | (go_at_call 72; refine (rttext_ok w0 _ h0 h1 D S1).mono ?_; rintro e w2 ⟨rfl, S2⟩))
    all_goals go_ret
    exact ⟨rfl, S2⟩
set_option maxRecDepth 100000 in
set_option maxHeartbeats 1600000 in
theorem date_true (n m : Int) (w0 w : World) (S : St w0 w) : Calls Tryd.prog 18 #[.int .i64 n, .int .i64 m] w fun e w' => e = .returned (.bool true) ∧ St w0 w' := by
  have T := Lib.hid (fun w => time_any n m w)
  have T' := Lib.hid (fun w => rtime_any n m w)
  obtain ⟨tr, htr⟩ : ∃ e, e = tmR n m := ⟨_, rfl⟩
  obtain ⟨te, hte⟩ : ∃ e, e = tmE n m := ⟨_, rfl⟩
  rw [← htr, ← hte] at T T'
  have HR := Lib.hid htr
  clear htr hte
  by_cases c : n < 0 ∨ 730484 < n
  · have A := Lib.hid (fun w => date_bad n w c)
    have B := Lib.hid (fun w => rdate_bad n w c)
    have C := Lib.hid (fun w => weekday_bad n w c)
    have D := Lib.hid (fun w => rweekday_bad n w c)
    have E := Lib.hid (fun w => text_bad n w c)
    have F := Lib.hid (fun w => rtext_bad n w c)
    obtain ⟨e, he⟩ : ∃ e, e = err n 730484 := ⟨_, rfl⟩
    rw [← he] at A B C D E F
    clear c he
    go_enter Tryd.func18, Tryd.ntmps18
    go_wp2_with (first | (go_at_call 27; refine (A.out _).mono ?_; rintro e w' ⟨rfl, rfl⟩) | (go_at_call 45; refine (B.out _).mono ?_; rintro e w' ⟨rfl, rfl⟩)  | (go_at_call 28; refine (C.out _).mono ?_; rintro e w' ⟨rfl, rfl⟩) | (go_at_call 46; refine (D.out _).mono ?_; rintro e w' ⟨rfl, rfl⟩)  | (go_at_call 31; refine (E.out _).mono ?_; rintro e w' ⟨rfl, rfl⟩) | (go_at_call 47; refine (F.out _).mono ?_; rintro e w' ⟨rfl, rfl⟩)  | (go_at_call 39; refine (T.out _).mono ?_; rintro e w' ⟨rfl, rfl⟩) | (go_at_call 48; refine (T'.out _).mono ?_; rintro e w' ⟨rfl, rfl⟩)  | (go_at_call 49; refine (split_true _ w0 _ (by assumption)).mono ?_; rintro e w1 ⟨rfl, S1⟩))
    all_goals go_ret
    exact ⟨rfl, by assumption⟩
  · have h0 : 0 ≤ n := by omega
    have h1 : n ≤ 730484 := by omega
    clear c
    obtain ⟨y, mo, d, D⟩ : ∃ y m d, Cal.IsDate n y m d := ⟨_, _, _, Cal.date_is _ (by omega) (by omega)⟩
    go_enter Tryd.func18, Tryd.ntmps18
    go_wp2_with (first | (go_at_call 27; refine (date_ok _ D S.gl).mono ?_; rintro e w' ⟨rfl, rfl⟩) | (go_at_call 45; refine (rdate_ok _ D).mono ?_; rintro e w' ⟨rfl, rfl⟩)  | (go_at_call 28; refine (weekday_ok _ _ h0 h1).mono ?_; rintro e w' ⟨rfl, rfl⟩) | (go_at_call 46; refine (rweekday_ok _ _ h0 h1).mono ?_; rintro e w' ⟨rfl, rfl⟩)  | (go_at_call 31; refine (text_ok w0 _ D (by assumption)).mono ?_; rintro e w1 ⟨rfl, S1⟩) | (go_at_call 47; refine (rtext_ok w0 _ D (by assumption)).mono ?_; rintro e w1 ⟨rfl, S1⟩)  | (go_at_call 39; refine (T.out _).mono ?_; rintro e w' ⟨rfl, rfl⟩) | (go_at_call 48; refine (T'.out _).mono ?_; rintro e w' ⟨rfl, rfl⟩)  | (go_at_call 49; refine (split_true _ w0 _ (by assumption)).mono ?_; rintro e w1 ⟨rfl, S1⟩))
    all_goals go_ret
    exact ⟨rfl, by assumption⟩
set_option maxRecDepth 100000 in
set_option maxHeartbeats 1600000 in
theorem tells_true (y m d n i : Int) (w0 w : World) (S : St w0 w) : Calls Tryd.prog 3 #[.int .i64 y, .int .i64 m, .int .i64 d, .int .i64 n, .int .i64 i] w fun e w' => e = .returned (.bool true) ∧ St w0 w' := by
  have L := Lib.hid (fun w => leap_any y w)
  have L' := Lib.hid (fun w => rleap_any y w)
  obtain ⟨l, hl⟩ : ∃ l, l = Cal.lp y := ⟨_, rfl⟩
  rw [← hl] at L L'
  clear hl
  cases h : Cal.ok y m d
  · have H := Lib.hid h
    clear h
    cases l
    all_goals
      go_enter Tryd.func3, Tryd.ntmps3
      go_wp2_with (first | (go_at_call 14; refine (day_no _ _ _ _ H.out S.gl).mono ?_; rintro e w' ⟨rfl, rfl⟩) | (go_at_call 15; refine (rday_no _ _ _ _ H.out).mono ?_; rintro e w' ⟨rfl, rfl⟩)  | (go_at_call 16; refine (L.out _).mono ?_; rintro e w' ⟨rfl, rfl⟩) | (go_at_call 17; refine (L'.out _).mono ?_; rintro e w' ⟨rfl, rfl⟩)  | (go_at_call 18; refine (date_true _ _ w0 _ S).mono ?_; rintro e w1 ⟨rfl, S1⟩) | (go_at_call 19; refine (awake_any w0 _ S1).mono ?_; rintro e w2 ⟨rfl, S2⟩))
      go_ret
      exact ⟨rfl, S2⟩
  · have D := (Cal.ok_iff _ _ _).1 h
    clear h
    obtain ⟨k, hk⟩ : ∃ k, k = Cal.num y m d := ⟨_, rfl⟩
    rw [← hk] at D
    clear hk
    cases l
    all_goals
      go_enter Tryd.func3, Tryd.ntmps3
      go_wp2_with (first | (go_at_call 14; refine (day_yes _ D S.gl).mono ?_; rintro e w' ⟨rfl, rfl⟩) | (go_at_call 15; refine (rday_yes _ D).mono ?_; rintro e w' ⟨rfl, rfl⟩)  | (go_at_call 16; refine (L.out _).mono ?_; rintro e w' ⟨rfl, rfl⟩) | (go_at_call 17; refine (L'.out _).mono ?_; rintro e w' ⟨rfl, rfl⟩)  | (go_at_call 18; refine (date_true _ _ w0 _ S).mono ?_; rintro e w1 ⟨rfl, S1⟩) | (go_at_call 19; refine (awake_any w0 _ S1).mono ?_; rintro e w2 ⟨rfl, S2⟩))
      go_ret
      exact ⟨rfl, S2⟩
theorem walk_civilTells (y : Int) (_y1 : -9223372036854775808 ≤ y) (_y2 : y ≤ 9223372036854775807) (m : Int) (_m1 : -9223372036854775808 ≤ m) (_m2 : m ≤ 9223372036854775807) (d : Int) (_d1 : -9223372036854775808 ≤ d) (_d2 : d ≤ 9223372036854775807) (n : Int) (_n1 : -9223372036854775808 ≤ n) (_n2 : n ≤ 9223372036854775807) (i : Int) (_i1 : -9223372036854775808 ≤ i) (_i2 : i ≤ 9223372036854775807) (w : World) (G : Gl w) :
    Calls Tryd.prog 3 #[.int .i64 y, .int .i64 m, .int .i64 d, .int .i64 n, .int .i64 i] w fun e w' => e = .returned (.bool true) ∧ Below w.heap.size w w' :=
  (tells_true y m d n i w w (St.refl G)).mono fun _ _ ⟨he, S⟩ => ⟨he, S.bl⟩
end Go.Proofs.YtcnnfgigpjbcpaaDoor
