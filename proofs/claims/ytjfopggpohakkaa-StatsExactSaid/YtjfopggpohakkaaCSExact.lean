/- StatsExact: the walk. -/
import Derived.Test.YtjfopggpohakkaaSs
import Derived.Test.YtjfopggpohakkaaNear
namespace Go.Proofs.Ytjfopggpohakkaa
open Go.RowKit

set_option maxRecDepth 100000 in
set_option maxHeartbeats 6400000 in
theorem walk_statsExact (w : World) (t : Int) (_t1 : -9223372036854775808 ≤ t) (_t2 : t ≤ 9223372036854775807) (u : Int) (_u1 : -9223372036854775808 ≤ u) (_u2 : u ≤ 9223372036854775807) (r : Int) (_r1 : -9223372036854775808 ≤ r) (_r2 : r ≤ 9223372036854775807) :
    Calls Try.prog 11 #[.int .i64 t, .int .i64 u, .int .i64 r] w fun e w' => e = .returned (.bool true) ∧ Below w.heap.size w w' := by
  obtain ⟨n, en, hn⟩ := picked t 101 (by omega)
  obtain ⟨k, ek, hk⟩ := picked u ((n : Int) + 1) (by omega)
  obtain ⟨a0, ea, ha⟩ := picked r 2000 (by omega)
  obtain ⟨a, haa⟩ : ∃ a, a = 1 + a0 := ⟨_, rfl⟩
  have AW := Lib.hid (fun w' => awake4_any w')
  have PT := Lib.hid (fun w' => trials4 t u 100 w' (by omega) (by omega))
  have PR := Lib.hid (fun w' => risk4 r w')
  simp only [show (100 : Int) + 1 = 101 by decide, en, ek] at PT
  rw [ea, show (1 : Int) + (a0 : Int) = (a : Int) by omega] at PR
  have a1 : 1 ≤ a := by omega
  have a2 : a ≤ 2000 := by omega
  have n5 : n ≤ 500 := by omega
  have n100 : n ≤ 100 := by omega
  have kn : k ≤ n := by omega
  clear en ek ea haa ha
  have aW : a < Bn.W := by unfold Bn.W; omega
  have LE := Lib.hid (fun w' => least_ok n k a w' n5 kn a1 a2)
  have GR := Lib.hid (fun w' => greatest_ok n k a w' n5 kn a1 a2)
  have F1 := Bn.low_yes (n := n) (k := k) (r := a) (p := Bn.low n k a) kn aW (Nat.le_refl _) (Bn.low_le _ _ _)
  have F2 := Bn.high_yes (n := n) (k := k) (r := a) kn aW
  have F3 := fun p h => Bn.low_no (n := n) (k := k) (r := a) (p := p) h
  have F4 := Bn.high_no (n := n) (k := k) (r := a) kn
  have F5 := Bn.low_high (n := n) (k := k) (r := a) kn (by unfold Bn.W; omega)
  have F6 := fun h => Bn.low_near (n := n) (k := k) (r := a) n100 h kn a2
  have F7 := fun h => Bn.high_near (n := n) (k := k) (r := a) n100 h kn a2
  have l1 := low_le4 n k a
  have h1 := high_le n k a
  obtain ⟨lo, hlo⟩ : ∃ lo, lo = Bn.low n k a := ⟨_, rfl⟩
  obtain ⟨hi, hhi⟩ : ∃ hi, hi = Bn.high n k a := ⟨_, rfl⟩
  rw [← hlo] at LE F1 F3 F5 F6 l1
  rw [← hhi] at GR F2 F4 F5 F7 h1
  have UP := Lib.hid (fun w' => upper_ok n k lo w' n5 kn l1)
  have LO := Lib.hid (fun w' => lower_ok n k hi w' n5 kn h1)
  have E1 := Lib.hid (fun v w' (h : Dg w' v (Bn.Up n k lo)) => by
    have := exceeds4 v n a _ w' h n5 a2 (by rw [Nat.mul_comm]; exact Up_top n5 l1 (by omega))
    rw [F1] at this; exact this)
  have E2 := Lib.hid (fun v w' (h : Dg w' v (Bn.Lo n k hi)) => by
    have := exceeds4 v n a _ w' h n5 a2 (by rw [Nat.mul_comm]; exact Lo_top n5 h1 (by omega))
    rw [F2] at this; exact this)
  obtain ⟨lp, hlp⟩ : ∃ lp, lp = lo - 1 := ⟨_, rfl⟩
  obtain ⟨hq, hhq⟩ : ∃ hq, hq = hi + 1 := ⟨_, rfl⟩
  have UP2 := Lib.hid (fun (_ : 0 < lo) w' => upper_ok n k lp w' n5 kn (by omega))
  have E3 := Lib.hid (fun (h0 : 0 < lo) v w' (h : Dg w' v (Bn.Up n k lp)) => by
    have := exceeds4 v n a _ w' h n5 a2 (by rw [Nat.mul_comm]; exact Up_top n5 (by omega) (by omega))
    rw [F3 lp (by omega)] at this; exact this)
  have LO2 := Lib.hid (fun (_ : hi < 10000) w' => lower_ok n k hq w' n5 kn (by omega))
  have E4 := Lib.hid (fun (h0 : hi < 10000) v w' (h : Dg w' v (Bn.Lo n k hq)) => by
    have := exceeds4 v n a _ w' h n5 a2 (by rw [Nat.mul_comm]; exact Lo_top n5 (by omega) (by omega))
    rw [hhq, F4 h0] at this; exact this)
  have n1 : (n : Int) ≤ 100 := by omega
  have k1 : (k : Int) ≤ 100 := by omega
  have lz : (0 : Int) ≤ (lo : Int) := by omega
  have l2 : (lo : Int) ≤ 10000 := by omega
  have h2 : (hi : Int) ≤ 10000 := by omega
  have lh : (lo : Int) ≤ (hi : Int) := by omega
  have eh : (hi : Int) + 1 = (hq : Int) := by omega
  have q2 : (hq : Int) ≤ 10001 := by omega
  obtain ⟨X, hX⟩ : ∃ X : Int, X = ((lo : Int) - 1) * (n : Int) := ⟨_, rfl⟩
  obtain ⟨Y, hY⟩ : ∃ Y : Int, Y = 10000 * (k : Int) := ⟨_, rfl⟩
  obtain ⟨Z, hZ⟩ : ∃ Z : Int, Z = (hq : Int) * (n : Int) := ⟨_, rfl⟩
  have XB : -100 ≤ X ∧ X ≤ 1000000 := by
    rw [hX, Int.sub_mul, Int.one_mul, ← Int.natCast_mul]
    have := Nat.mul_le_mul l1 n100
    omega
  have YB : 0 ≤ Y ∧ Y ≤ 1000000 := by omega
  have ZB : 0 ≤ Z ∧ Z ≤ 1000100 := by
    rw [hZ, ← Int.natCast_mul]
    have := Nat.mul_le_mul (show hq ≤ 10001 by omega) n100
    omega
  have XY : 0 < n → X < Y ∧ Y < Z := by
    intro h0
    have g6 := F6 h0
    have g7 := F7 h0
    unfold Bn.W at g6 g7
    rw [hX, hY, hZ, hhq, Int.sub_mul, Int.one_mul, ← Int.natCast_mul, ← Int.natCast_mul, Nat.succ_mul]
    omega
  obtain ⟨xb1, xb2⟩ := XB
  obtain ⟨yb1, yb2⟩ := YB
  obtain ⟨zb1, zb2⟩ := ZB
  have fX : ((lo : Int) - 1) * (n : Int) = X := hX.symm
  have fY : (10000 : Int) * (k : Int) = Y := hY.symm
  have fZ : (hq : Int) * (n : Int) = Z := hZ.symm
  have fl : Hid (0 < lo → (lo : Int) - 1 = (lp : Int)) := fun h => by show _ = _; omega
  have HXY := Lib.hid XY
  have B0 : Below w.heap.size w w := Below.refl _ _
  clear hX hY hZ XY F1 F2 F3 F4 F5 F6 F7 hlo hhi hlp hhq hn hk aW
  by_cases n0 : n = 0
  · have nz : ((n : Int) == 0) = true := by rw [beq_iff_eq]; omega
    clear n0
    by_cases l0 : 0 < lo
    · have el := fl.out l0
      have p2 : (lp : Int) ≤ 10000 := by omega
      have fX2 : (lp : Int) * (n : Int) = X := by rw [← el]; exact fX
      by_cases h0 : hi < 10000
      · go_enter Try.func11, Try.ntmps11
        go_wp2_with (first
          | (go_at_call 14; with_reducible refine (AW.out w).mono ?_; rintro e y1 ⟨rfl, by1⟩; have BB1 := B0.trans (by1.mono B0.size))
          | (go_at_call 27; with_reducible refine (PT.out _).mono ?_; rintro e w' ⟨rfl, rfl⟩)
          | (go_at_call 21; with_reducible refine (PR.out _).mono ?_; rintro e w' ⟨rfl, rfl⟩)
          | (go_at_call 23; with_reducible refine (LE.out y1).mono ?_; rintro e y2 ⟨rfl, by2⟩; have BB2 := BB1.trans (by2.mono BB1.size))
          | (go_at_call 24; with_reducible refine (GR.out y2).mono ?_; rintro e y3 ⟨rfl, by3⟩; have BB3 := BB2.trans (by3.mono BB2.size))
          | (go_at_call 28; with_reducible refine (UP.out y3).mono ?_; intro e y4 hq; obtain ⟨xa4, xm4, xc4, rfl, dn4, by4⟩ := NumE.out hq; clear hq; have BB4 := BB3.trans (by4.mono BB3.size))
          | (go_at_call 29; with_reducible refine (LO.out y4).mono ?_; intro e y5 hq; obtain ⟨xa5, xm5, xc5, rfl, dn5, by5⟩ := NumE.out hq; clear hq; have u_5 := Dg.below dn4 by5; have BB5 := BB4.trans (by5.mono BB4.size))
          | (go_at_call 26; with_reducible refine (E1.out _ _ u_5).mono ?_; rintro e y6 ⟨rfl, by6⟩; have u_6 := Dg.below u_5 by6; have l_6 := Dg.below dn5 by6; have BB6 := BB5.trans (by6.mono BB5.size))
          | (go_at_call 26; with_reducible refine (E2.out _ _ l_6).mono ?_; rintro e y7 ⟨rfl, by7⟩; have u_7 := Dg.below u_6 by7; have l_7 := Dg.below l_6 by7; have BB7 := BB6.trans (by7.mono BB6.size))
          | (go_at_call 28; with_reducible refine (UP2.out l0 y7).mono ?_; intro e y8 hq; obtain ⟨xa8, xm8, xc8, rfl, dn8, by8⟩ := NumE.out hq; clear hq; have BB8 := BB7.trans (by8.mono BB7.size))
          | (go_at_call 26; with_reducible refine (E3.out l0 _ _ dn8).mono ?_; rintro e y9 ⟨rfl, by9⟩; have x_9 := Dg.below dn8 by9; have BB9 := BB8.trans (by9.mono BB8.size))
          | (go_at_call 29; with_reducible refine (LO2.out h0 y9).mono ?_; intro e y10 hq; obtain ⟨xa10, xm10, xc10, rfl, dn10, by10⟩ := NumE.out hq; clear hq; have BB10 := BB9.trans (by10.mono BB9.size))
          | (go_at_call 26; with_reducible refine (E4.out h0 _ _ dn10).mono ?_; rintro e y11 ⟨rfl, by11⟩; have z_11 := Dg.below dn10 by11; have BB11 := BB10.trans (by11.mono BB10.size)))
        go_ret
        exact ⟨ret_bool (by first | rfl | (simp; done) | (simp; omega) | omega), BB11⟩
      · go_enter Try.func11, Try.ntmps11
        go_wp2_with (first
          | (go_at_call 14; with_reducible refine (AW.out w).mono ?_; rintro e y1 ⟨rfl, by1⟩; have BB1 := B0.trans (by1.mono B0.size))
          | (go_at_call 27; with_reducible refine (PT.out _).mono ?_; rintro e w' ⟨rfl, rfl⟩)
          | (go_at_call 21; with_reducible refine (PR.out _).mono ?_; rintro e w' ⟨rfl, rfl⟩)
          | (go_at_call 23; with_reducible refine (LE.out y1).mono ?_; rintro e y2 ⟨rfl, by2⟩; have BB2 := BB1.trans (by2.mono BB1.size))
          | (go_at_call 24; with_reducible refine (GR.out y2).mono ?_; rintro e y3 ⟨rfl, by3⟩; have BB3 := BB2.trans (by3.mono BB2.size))
          | (go_at_call 28; with_reducible refine (UP.out y3).mono ?_; intro e y4 hq; obtain ⟨xa4, xm4, xc4, rfl, dn4, by4⟩ := NumE.out hq; clear hq; have BB4 := BB3.trans (by4.mono BB3.size))
          | (go_at_call 29; with_reducible refine (LO.out y4).mono ?_; intro e y5 hq; obtain ⟨xa5, xm5, xc5, rfl, dn5, by5⟩ := NumE.out hq; clear hq; have u_5 := Dg.below dn4 by5; have BB5 := BB4.trans (by5.mono BB4.size))
          | (go_at_call 26; with_reducible refine (E1.out _ _ u_5).mono ?_; rintro e y6 ⟨rfl, by6⟩; have u_6 := Dg.below u_5 by6; have l_6 := Dg.below dn5 by6; have BB6 := BB5.trans (by6.mono BB5.size))
          | (go_at_call 26; with_reducible refine (E2.out _ _ l_6).mono ?_; rintro e y7 ⟨rfl, by7⟩; have u_7 := Dg.below u_6 by7; have l_7 := Dg.below l_6 by7; have BB7 := BB6.trans (by7.mono BB6.size))
          | (go_at_call 28; with_reducible refine (UP2.out l0 y7).mono ?_; intro e y8 hq; obtain ⟨xa8, xm8, xc8, rfl, dn8, by8⟩ := NumE.out hq; clear hq; have BB8 := BB7.trans (by8.mono BB7.size))
          | (go_at_call 26; with_reducible refine (E3.out l0 _ _ dn8).mono ?_; rintro e y9 ⟨rfl, by9⟩; have x_9 := Dg.below dn8 by9; have BB9 := BB8.trans (by9.mono BB8.size)))
        go_ret
        exact ⟨ret_bool (by first | rfl | (simp; done) | (simp; omega) | omega), BB9⟩
    · have lz0 : (lo : Int) ≤ 0 := by omega
      by_cases h0 : hi < 10000
      · go_enter Try.func11, Try.ntmps11
        go_wp2_with (first
          | (go_at_call 14; with_reducible refine (AW.out w).mono ?_; rintro e y1 ⟨rfl, by1⟩; have BB1 := B0.trans (by1.mono B0.size))
          | (go_at_call 27; with_reducible refine (PT.out _).mono ?_; rintro e w' ⟨rfl, rfl⟩)
          | (go_at_call 21; with_reducible refine (PR.out _).mono ?_; rintro e w' ⟨rfl, rfl⟩)
          | (go_at_call 23; with_reducible refine (LE.out y1).mono ?_; rintro e y2 ⟨rfl, by2⟩; have BB2 := BB1.trans (by2.mono BB1.size))
          | (go_at_call 24; with_reducible refine (GR.out y2).mono ?_; rintro e y3 ⟨rfl, by3⟩; have BB3 := BB2.trans (by3.mono BB2.size))
          | (go_at_call 28; with_reducible refine (UP.out y3).mono ?_; intro e y4 hq; obtain ⟨xa4, xm4, xc4, rfl, dn4, by4⟩ := NumE.out hq; clear hq; have BB4 := BB3.trans (by4.mono BB3.size))
          | (go_at_call 29; with_reducible refine (LO.out y4).mono ?_; intro e y5 hq; obtain ⟨xa5, xm5, xc5, rfl, dn5, by5⟩ := NumE.out hq; clear hq; have u_5 := Dg.below dn4 by5; have BB5 := BB4.trans (by5.mono BB4.size))
          | (go_at_call 26; with_reducible refine (E1.out _ _ u_5).mono ?_; rintro e y6 ⟨rfl, by6⟩; have u_6 := Dg.below u_5 by6; have l_6 := Dg.below dn5 by6; have BB6 := BB5.trans (by6.mono BB5.size))
          | (go_at_call 26; with_reducible refine (E2.out _ _ l_6).mono ?_; rintro e y7 ⟨rfl, by7⟩; have u_7 := Dg.below u_6 by7; have l_7 := Dg.below l_6 by7; have BB7 := BB6.trans (by7.mono BB6.size))
          | (go_at_call 29; with_reducible refine (LO2.out h0 y7).mono ?_; intro e y8 hq; obtain ⟨xa8, xm8, xc8, rfl, dn8, by8⟩ := NumE.out hq; clear hq; have BB8 := BB7.trans (by8.mono BB7.size))
          | (go_at_call 26; with_reducible refine (E4.out h0 _ _ dn8).mono ?_; rintro e y9 ⟨rfl, by9⟩; have z_9 := Dg.below dn8 by9; have BB9 := BB8.trans (by9.mono BB8.size)))
        go_ret
        exact ⟨ret_bool (by first | rfl | (simp; done) | (simp; omega) | omega), BB9⟩
      · go_enter Try.func11, Try.ntmps11
        go_wp2_with (first
          | (go_at_call 14; with_reducible refine (AW.out w).mono ?_; rintro e y1 ⟨rfl, by1⟩; have BB1 := B0.trans (by1.mono B0.size))
          | (go_at_call 27; with_reducible refine (PT.out _).mono ?_; rintro e w' ⟨rfl, rfl⟩)
          | (go_at_call 21; with_reducible refine (PR.out _).mono ?_; rintro e w' ⟨rfl, rfl⟩)
          | (go_at_call 23; with_reducible refine (LE.out y1).mono ?_; rintro e y2 ⟨rfl, by2⟩; have BB2 := BB1.trans (by2.mono BB1.size))
          | (go_at_call 24; with_reducible refine (GR.out y2).mono ?_; rintro e y3 ⟨rfl, by3⟩; have BB3 := BB2.trans (by3.mono BB2.size))
          | (go_at_call 28; with_reducible refine (UP.out y3).mono ?_; intro e y4 hq; obtain ⟨xa4, xm4, xc4, rfl, dn4, by4⟩ := NumE.out hq; clear hq; have BB4 := BB3.trans (by4.mono BB3.size))
          | (go_at_call 29; with_reducible refine (LO.out y4).mono ?_; intro e y5 hq; obtain ⟨xa5, xm5, xc5, rfl, dn5, by5⟩ := NumE.out hq; clear hq; have u_5 := Dg.below dn4 by5; have BB5 := BB4.trans (by5.mono BB4.size))
          | (go_at_call 26; with_reducible refine (E1.out _ _ u_5).mono ?_; rintro e y6 ⟨rfl, by6⟩; have u_6 := Dg.below u_5 by6; have l_6 := Dg.below dn5 by6; have BB6 := BB5.trans (by6.mono BB5.size))
          | (go_at_call 26; with_reducible refine (E2.out _ _ l_6).mono ?_; rintro e y7 ⟨rfl, by7⟩; have u_7 := Dg.below u_6 by7; have l_7 := Dg.below l_6 by7; have BB7 := BB6.trans (by7.mono BB6.size)))
        go_ret
        exact ⟨ret_bool (by first | rfl | (simp; done) | (simp; omega) | omega), BB7⟩
  · have nz : ((n : Int) == 0) = false := by rw [beq_eq_false_iff_ne]; omega
    obtain ⟨xy, yz⟩ := HXY.out (by omega)
    clear n0
    by_cases l0 : 0 < lo
    · have el := fl.out l0
      have p2 : (lp : Int) ≤ 10000 := by omega
      have fX2 : (lp : Int) * (n : Int) = X := by rw [← el]; exact fX
      by_cases h0 : hi < 10000
      · go_enter Try.func11, Try.ntmps11
        go_wp2_with (first
          | (go_at_call 14; with_reducible refine (AW.out w).mono ?_; rintro e y1 ⟨rfl, by1⟩; have BB1 := B0.trans (by1.mono B0.size))
          | (go_at_call 27; with_reducible refine (PT.out _).mono ?_; rintro e w' ⟨rfl, rfl⟩)
          | (go_at_call 21; with_reducible refine (PR.out _).mono ?_; rintro e w' ⟨rfl, rfl⟩)
          | (go_at_call 23; with_reducible refine (LE.out y1).mono ?_; rintro e y2 ⟨rfl, by2⟩; have BB2 := BB1.trans (by2.mono BB1.size))
          | (go_at_call 24; with_reducible refine (GR.out y2).mono ?_; rintro e y3 ⟨rfl, by3⟩; have BB3 := BB2.trans (by3.mono BB2.size))
          | (go_at_call 28; with_reducible refine (UP.out y3).mono ?_; intro e y4 hq; obtain ⟨xa4, xm4, xc4, rfl, dn4, by4⟩ := NumE.out hq; clear hq; have BB4 := BB3.trans (by4.mono BB3.size))
          | (go_at_call 29; with_reducible refine (LO.out y4).mono ?_; intro e y5 hq; obtain ⟨xa5, xm5, xc5, rfl, dn5, by5⟩ := NumE.out hq; clear hq; have u_5 := Dg.below dn4 by5; have BB5 := BB4.trans (by5.mono BB4.size))
          | (go_at_call 26; with_reducible refine (E1.out _ _ u_5).mono ?_; rintro e y6 ⟨rfl, by6⟩; have u_6 := Dg.below u_5 by6; have l_6 := Dg.below dn5 by6; have BB6 := BB5.trans (by6.mono BB5.size))
          | (go_at_call 26; with_reducible refine (E2.out _ _ l_6).mono ?_; rintro e y7 ⟨rfl, by7⟩; have u_7 := Dg.below u_6 by7; have l_7 := Dg.below l_6 by7; have BB7 := BB6.trans (by7.mono BB6.size))
          | (go_at_call 28; with_reducible refine (UP2.out l0 y7).mono ?_; intro e y8 hq; obtain ⟨xa8, xm8, xc8, rfl, dn8, by8⟩ := NumE.out hq; clear hq; have BB8 := BB7.trans (by8.mono BB7.size))
          | (go_at_call 26; with_reducible refine (E3.out l0 _ _ dn8).mono ?_; rintro e y9 ⟨rfl, by9⟩; have x_9 := Dg.below dn8 by9; have BB9 := BB8.trans (by9.mono BB8.size))
          | (go_at_call 29; with_reducible refine (LO2.out h0 y9).mono ?_; intro e y10 hq; obtain ⟨xa10, xm10, xc10, rfl, dn10, by10⟩ := NumE.out hq; clear hq; have BB10 := BB9.trans (by10.mono BB9.size))
          | (go_at_call 26; with_reducible refine (E4.out h0 _ _ dn10).mono ?_; rintro e y11 ⟨rfl, by11⟩; have z_11 := Dg.below dn10 by11; have BB11 := BB10.trans (by11.mono BB10.size)))
        go_ret
        exact ⟨ret_bool (by first | rfl | (simp; done) | (simp; omega) | omega), BB11⟩
      · go_enter Try.func11, Try.ntmps11
        go_wp2_with (first
          | (go_at_call 14; with_reducible refine (AW.out w).mono ?_; rintro e y1 ⟨rfl, by1⟩; have BB1 := B0.trans (by1.mono B0.size))
          | (go_at_call 27; with_reducible refine (PT.out _).mono ?_; rintro e w' ⟨rfl, rfl⟩)
          | (go_at_call 21; with_reducible refine (PR.out _).mono ?_; rintro e w' ⟨rfl, rfl⟩)
          | (go_at_call 23; with_reducible refine (LE.out y1).mono ?_; rintro e y2 ⟨rfl, by2⟩; have BB2 := BB1.trans (by2.mono BB1.size))
          | (go_at_call 24; with_reducible refine (GR.out y2).mono ?_; rintro e y3 ⟨rfl, by3⟩; have BB3 := BB2.trans (by3.mono BB2.size))
          | (go_at_call 28; with_reducible refine (UP.out y3).mono ?_; intro e y4 hq; obtain ⟨xa4, xm4, xc4, rfl, dn4, by4⟩ := NumE.out hq; clear hq; have BB4 := BB3.trans (by4.mono BB3.size))
          | (go_at_call 29; with_reducible refine (LO.out y4).mono ?_; intro e y5 hq; obtain ⟨xa5, xm5, xc5, rfl, dn5, by5⟩ := NumE.out hq; clear hq; have u_5 := Dg.below dn4 by5; have BB5 := BB4.trans (by5.mono BB4.size))
          | (go_at_call 26; with_reducible refine (E1.out _ _ u_5).mono ?_; rintro e y6 ⟨rfl, by6⟩; have u_6 := Dg.below u_5 by6; have l_6 := Dg.below dn5 by6; have BB6 := BB5.trans (by6.mono BB5.size))
          | (go_at_call 26; with_reducible refine (E2.out _ _ l_6).mono ?_; rintro e y7 ⟨rfl, by7⟩; have u_7 := Dg.below u_6 by7; have l_7 := Dg.below l_6 by7; have BB7 := BB6.trans (by7.mono BB6.size))
          | (go_at_call 28; with_reducible refine (UP2.out l0 y7).mono ?_; intro e y8 hq; obtain ⟨xa8, xm8, xc8, rfl, dn8, by8⟩ := NumE.out hq; clear hq; have BB8 := BB7.trans (by8.mono BB7.size))
          | (go_at_call 26; with_reducible refine (E3.out l0 _ _ dn8).mono ?_; rintro e y9 ⟨rfl, by9⟩; have x_9 := Dg.below dn8 by9; have BB9 := BB8.trans (by9.mono BB8.size)))
        go_ret
        exact ⟨ret_bool (by first | rfl | (simp; done) | (simp; omega) | omega), BB9⟩
    · have lz0 : (lo : Int) ≤ 0 := by omega
      by_cases h0 : hi < 10000
      · go_enter Try.func11, Try.ntmps11
        go_wp2_with (first
          | (go_at_call 14; with_reducible refine (AW.out w).mono ?_; rintro e y1 ⟨rfl, by1⟩; have BB1 := B0.trans (by1.mono B0.size))
          | (go_at_call 27; with_reducible refine (PT.out _).mono ?_; rintro e w' ⟨rfl, rfl⟩)
          | (go_at_call 21; with_reducible refine (PR.out _).mono ?_; rintro e w' ⟨rfl, rfl⟩)
          | (go_at_call 23; with_reducible refine (LE.out y1).mono ?_; rintro e y2 ⟨rfl, by2⟩; have BB2 := BB1.trans (by2.mono BB1.size))
          | (go_at_call 24; with_reducible refine (GR.out y2).mono ?_; rintro e y3 ⟨rfl, by3⟩; have BB3 := BB2.trans (by3.mono BB2.size))
          | (go_at_call 28; with_reducible refine (UP.out y3).mono ?_; intro e y4 hq; obtain ⟨xa4, xm4, xc4, rfl, dn4, by4⟩ := NumE.out hq; clear hq; have BB4 := BB3.trans (by4.mono BB3.size))
          | (go_at_call 29; with_reducible refine (LO.out y4).mono ?_; intro e y5 hq; obtain ⟨xa5, xm5, xc5, rfl, dn5, by5⟩ := NumE.out hq; clear hq; have u_5 := Dg.below dn4 by5; have BB5 := BB4.trans (by5.mono BB4.size))
          | (go_at_call 26; with_reducible refine (E1.out _ _ u_5).mono ?_; rintro e y6 ⟨rfl, by6⟩; have u_6 := Dg.below u_5 by6; have l_6 := Dg.below dn5 by6; have BB6 := BB5.trans (by6.mono BB5.size))
          | (go_at_call 26; with_reducible refine (E2.out _ _ l_6).mono ?_; rintro e y7 ⟨rfl, by7⟩; have u_7 := Dg.below u_6 by7; have l_7 := Dg.below l_6 by7; have BB7 := BB6.trans (by7.mono BB6.size))
          | (go_at_call 29; with_reducible refine (LO2.out h0 y7).mono ?_; intro e y8 hq; obtain ⟨xa8, xm8, xc8, rfl, dn8, by8⟩ := NumE.out hq; clear hq; have BB8 := BB7.trans (by8.mono BB7.size))
          | (go_at_call 26; with_reducible refine (E4.out h0 _ _ dn8).mono ?_; rintro e y9 ⟨rfl, by9⟩; have z_9 := Dg.below dn8 by9; have BB9 := BB8.trans (by9.mono BB8.size)))
        go_ret
        exact ⟨ret_bool (by first | rfl | (simp; done) | (simp; omega) | omega), BB9⟩
      · go_enter Try.func11, Try.ntmps11
        go_wp2_with (first
          | (go_at_call 14; with_reducible refine (AW.out w).mono ?_; rintro e y1 ⟨rfl, by1⟩; have BB1 := B0.trans (by1.mono B0.size))
          | (go_at_call 27; with_reducible refine (PT.out _).mono ?_; rintro e w' ⟨rfl, rfl⟩)
          | (go_at_call 21; with_reducible refine (PR.out _).mono ?_; rintro e w' ⟨rfl, rfl⟩)
          | (go_at_call 23; with_reducible refine (LE.out y1).mono ?_; rintro e y2 ⟨rfl, by2⟩; have BB2 := BB1.trans (by2.mono BB1.size))
          | (go_at_call 24; with_reducible refine (GR.out y2).mono ?_; rintro e y3 ⟨rfl, by3⟩; have BB3 := BB2.trans (by3.mono BB2.size))
          | (go_at_call 28; with_reducible refine (UP.out y3).mono ?_; intro e y4 hq; obtain ⟨xa4, xm4, xc4, rfl, dn4, by4⟩ := NumE.out hq; clear hq; have BB4 := BB3.trans (by4.mono BB3.size))
          | (go_at_call 29; with_reducible refine (LO.out y4).mono ?_; intro e y5 hq; obtain ⟨xa5, xm5, xc5, rfl, dn5, by5⟩ := NumE.out hq; clear hq; have u_5 := Dg.below dn4 by5; have BB5 := BB4.trans (by5.mono BB4.size))
          | (go_at_call 26; with_reducible refine (E1.out _ _ u_5).mono ?_; rintro e y6 ⟨rfl, by6⟩; have u_6 := Dg.below u_5 by6; have l_6 := Dg.below dn5 by6; have BB6 := BB5.trans (by6.mono BB5.size))
          | (go_at_call 26; with_reducible refine (E2.out _ _ l_6).mono ?_; rintro e y7 ⟨rfl, by7⟩; have u_7 := Dg.below u_6 by7; have l_7 := Dg.below l_6 by7; have BB7 := BB6.trans (by7.mono BB6.size)))
        go_ret
        exact ⟨ret_bool (by first | rfl | (simp; done) | (simp; omega) | omega), BB7⟩
end Go.Proofs.Ytjfopggpohakkaa
