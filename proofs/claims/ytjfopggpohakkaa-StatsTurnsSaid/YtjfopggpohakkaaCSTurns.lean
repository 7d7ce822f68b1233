/- StatsTurns: the walk. -/
import Derived.Test.YtjfopggpohakkaaSs
namespace Go.Proofs.Ytjfopggpohakkaa
open Go.RowKit

set_option maxRecDepth 100000 in
set_option maxHeartbeats 6400000 in
theorem walk_statsTurns (w : World) (t : Int) (_t1 : -9223372036854775808 ≤ t) (_t2 : t ≤ 9223372036854775807) (u : Int) (_u1 : -9223372036854775808 ≤ u) (_u2 : u ≤ 9223372036854775807) (s : Int) (_s1 : -9223372036854775808 ≤ s) (_s2 : s ≤ 9223372036854775807) (r : Int) (_r1 : -9223372036854775808 ≤ r) (_r2 : r ≤ 9223372036854775807) :
    Calls Try.prog 9 #[.int .i64 t, .int .i64 u, .int .i64 s, .int .i64 r] w fun e w' => e = .returned (.bool true) ∧ Below w.heap.size w w' := by
  obtain ⟨n, en, hn⟩ := picked t 101 (by omega)
  obtain ⟨k, ek, hk⟩ := picked u ((n : Int) + 1) (by omega)
  obtain ⟨p, ep, hp⟩ := picked s 10001 (by omega)
  obtain ⟨a0, ea, ha⟩ := picked r 2000 (by omega)
  obtain ⟨a, haa⟩ : ∃ a, a = 1 + a0 := ⟨_, rfl⟩
  have AW := Lib.hid (fun w' => awake4_any w')
  have PT := Lib.hid (fun w' => trials4 t u 100 w' (by omega) (by omega))
  have PS := Lib.hid (fun w' => share4 s w')
  have PR := Lib.hid (fun w' => risk4 r w')
  simp only [show (100 : Int) + 1 = 101 by decide, en, ek] at PT
  rw [ep] at PS
  rw [ea, show (1 : Int) + (a0 : Int) = (a : Int) by omega] at PR
  have a1 : 1 ≤ a := by omega
  have a2 : a ≤ 2000 := by omega
  have n5 : n ≤ 500 := by omega
  have kn : k ≤ n := by omega
  have p4 : p ≤ 10000 := by omega
  clear en ek ep ea haa ha
  obtain ⟨m, hm⟩ : ∃ m, m = n - k := ⟨_, rfl⟩
  obtain ⟨q, hq⟩ : ∃ q, q = 10000 - p := ⟨_, rfl⟩
  have mn : m ≤ n := by rw [hm]; exact Nat.sub_le _ _
  have q4 : q ≤ 10000 := by rw [hq]; exact Nat.sub_le _ _
  have em : (n : Int) - (k : Int) = (m : Int) := by omega
  have eq : (10000 : Int) - (p : Int) = (q : Int) := by omega
  have n1 : (n : Int) ≤ 100 := by omega
  have k1 : (k : Int) ≤ 100 := by omega
  have m1 : (m : Int) ≤ 100 := by omega
  have p1 : (p : Int) ≤ 10000 := by omega
  have q1 : (q : Int) ≤ 10000 := by omega
  have UP := Lib.hid (fun w' => upper_ok n k p w' n5 kn p4)
  have LO : Hid (∀ w', Calls Try.prog 29 #[.int .i64 n, .int .i64 m, .int .i64 q] w' (NumE (Bn.Up n k p) 0 w')) := fun w' => by
    have := lower_ok n m q w' n5 mn q4
    rw [hm, hq, show Bn.Lo n (n - k) (10000 - p) = Bn.Up n k p from (Bn.Up_Lo kn (by unfold Bn.W; omega)).symm, ← hm, ← hq] at this; exact this
  have C1 := Lib.hid (fun w' => choose_ok n k w' n5 kn)
  have C2 : Hid (∀ w', Calls Try.prog 32 #[.int .i64 n, .int .i64 m] w' (NumE (Bn.T 1 1 n k) 0 w')) := fun w' => by
    have := choose_ok n m w' n5 mn
    rw [hm, ← Bn.T_sym 1 1 n k kn, ← hm] at this; exact this
  have S1 := Lib.hid (fun v v' w' (h : Dg w' v (Bn.Up n k p)) (h' : Dg w' v' (Bn.Up n k p)) => same_dig v v' _ _ w' h h' (by have := Up_top (k := k) (y := 1) n5 p4 (by omega); omega))
  have S2 := Lib.hid (fun v v' w' (h : Dg w' v (Bn.T 1 1 n k)) (h' : Dg w' v' (Bn.T 1 1 n k)) => same_dig v v' _ _ w' h h' (by have := T_top (n := n) (k := k) (a := 1) (b := 1) (y := 1) n5 (by omega) (by omega); omega))
  simp only [decide_true] at S1 S2
  have LE := Lib.hid (fun w' => least_ok n k a w' n5 kn a1 a2)
  have GR := Lib.hid (fun w' => greatest_ok n m a w' n5 mn a1 a2)
  have LL := Bn.low_turn (n := n) (k := k) (r := a) kn
  rw [← hm] at LL
  obtain ⟨lo, hlo⟩ : ∃ lo, lo = Bn.low n k a := ⟨_, rfl⟩
  obtain ⟨hi, hhi⟩ : ∃ hi, hi = Bn.high n m a := ⟨_, rfl⟩
  have h4 : hi ≤ 10000 := by rw [hhi]; exact high_le _ _ _
  rw [← hlo, ← hhi] at LL
  rw [← hlo] at LE
  rw [← hhi] at GR
  have el : (10000 : Int) - (hi : Int) = (lo : Int) := by unfold Bn.W at LL; omega
  have l1 : (lo : Int) ≤ 10000 := by omega
  have h1 : (hi : Int) ≤ 10000 := by omega
  have B0 : Below w.heap.size w w := Below.refl _ _
  clear hm hq hlo hhi LL hn hk hp
  go_enter Try.func9, Try.ntmps9
  go_wp2_with (first
    | (go_at_call 14; with_reducible refine (AW.out w).mono ?_; rintro e y1 ⟨rfl, by1⟩; have BB1 := B0.trans (by1.mono B0.size))
    | (go_at_call 27; with_reducible refine (PT.out _).mono ?_; rintro e w' ⟨rfl, rfl⟩)
    | (go_at_call 20; with_reducible refine (PS.out _).mono ?_; rintro e w' ⟨rfl, rfl⟩)
    | (go_at_call 21; with_reducible refine (PR.out _).mono ?_; rintro e w' ⟨rfl, rfl⟩)
    | (go_at_call 28; with_reducible refine (UP.out y1).mono ?_; intro e y2 hq; obtain ⟨xa2, xm2, xc2, rfl, dn2, by2⟩ := NumE.out hq; clear hq; have BB2 := BB1.trans (by2.mono BB1.size))
    | (go_at_call 29; with_reducible refine (LO.out y2).mono ?_; intro e y3 hq; obtain ⟨xa3, xm3, xc3, rfl, dn3, by3⟩ := NumE.out hq; clear hq; have u_3 := Dg.below dn2 by3; have BB3 := BB2.trans (by3.mono BB2.size))
    | (go_at_call 32; with_reducible refine (C1.out y3).mono ?_; intro e y4 hq; obtain ⟨xa4, xm4, xc4, rfl, dn4, by4⟩ := NumE.out hq; clear hq; have u_4 := Dg.below u_3 by4; have l_4 := Dg.below dn3 by4; have BB4 := BB3.trans (by4.mono BB3.size))
    | (go_at_call 32; with_reducible refine (C2.out y4).mono ?_; intro e y5 hq; obtain ⟨xa5, xm5, xc5, rfl, dn5, by5⟩ := NumE.out hq; clear hq; have u_5 := Dg.below u_4 by5; have l_5 := Dg.below l_4 by5; have c_5 := Dg.below dn4 by5; have BB5 := BB4.trans (by5.mono BB4.size))
    | (go_at_call 30; with_reducible refine (S1.out _ _ _ u_5 l_5).mono ?_; rintro e y6 ⟨rfl, by6⟩; have u_6 := Dg.below u_5 by6; have l_6 := Dg.below l_5 by6; have c_6 := Dg.below c_5 by6; have d_6 := Dg.below dn5 by6; have BB6 := BB5.trans (by6.mono BB5.size))
    | (go_at_call 30; with_reducible refine (S2.out _ _ _ c_6 d_6).mono ?_; rintro e y7 ⟨rfl, by7⟩; have u_7 := Dg.below u_6 by7; have l_7 := Dg.below l_6 by7; have c_7 := Dg.below c_6 by7; have d_7 := Dg.below d_6 by7; have BB7 := BB6.trans (by7.mono BB6.size))
    | (go_at_call 23; with_reducible refine (LE.out y7).mono ?_; rintro e y8 ⟨rfl, by8⟩; have BB8 := BB7.trans (by8.mono BB7.size))
    | (go_at_call 24; with_reducible refine (GR.out y8).mono ?_; rintro e y9 ⟨rfl, by9⟩; have BB9 := BB8.trans (by9.mono BB8.size)))
  go_ret
  exact ⟨rfl, BB9⟩
end Go.Proofs.Ytjfopggpohakkaa
