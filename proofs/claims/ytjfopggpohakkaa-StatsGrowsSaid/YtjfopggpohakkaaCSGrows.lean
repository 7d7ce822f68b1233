/- StatsGrows: the walk. -/
import Derived.Test.YtjfopggpohakkaaSs
namespace Go.Proofs.Ytjfopggpohakkaa
open Go.RowKit

theorem ord_le {x y : Nat} (h : x ≤ y) : Nt.ord x y ≤ 0 := by
  unfold Nt.ord
  split
  · omega
  · rw [if_neg (by omega)]; omega
theorem ord_b (x y : Nat) : -1 ≤ Nt.ord x y ∧ Nt.ord x y ≤ 1 := by
  unfold Nt.ord
  split
  · omega
  · split <;> omega
set_option maxRecDepth 100000 in
set_option maxHeartbeats 6400000 in
theorem walk_statsGrows (w : World) (t : Int) (_t1 : -9223372036854775808 ≤ t) (_t2 : t ≤ 9223372036854775807) (u : Int) (_u1 : -9223372036854775808 ≤ u) (_u2 : u ≤ 9223372036854775807) (s : Int) (_s1 : -9223372036854775808 ≤ s) (_s2 : s ≤ 9223372036854775807) (r : Int) (_r1 : -9223372036854775808 ≤ r) (_r2 : r ≤ 9223372036854775807) (m : Int) (_m1 : -9223372036854775808 ≤ m) (_m2 : m ≤ 9223372036854775807) :
    Calls Try.prog 10 #[.int .i64 t, .int .i64 u, .int .i64 s, .int .i64 r, .int .i64 m] w fun e w' => e = .returned (.bool true) ∧ Below w.heap.size w w' := by
  obtain ⟨n, en, hn⟩ := picked t 101 (by omega)
  obtain ⟨k, ek, hk⟩ := picked u ((n : Int) + 1) (by omega)
  obtain ⟨p0, ep, hp⟩ := picked s 10001 (by omega)
  obtain ⟨q0, eq, hq⟩ := picked m 10001 (by omega)
  obtain ⟨a0, ea, ha⟩ := picked r 2000 (by omega)
  obtain ⟨b0, eb, hb⟩ := picked m 2000 (by omega)
  have AW := Lib.hid (fun w' => awake4_any w')
  have PT := Lib.hid (fun w' => trials4 t u 100 w' (by omega) (by omega))
  have PS := Lib.hid (fun w' => share4 s w')
  have PS2 := Lib.hid (fun w' => share4 m w')
  have PR := Lib.hid (fun w' => risk4 r w')
  have PR2 := Lib.hid (fun w' => risk4 m w')
  simp only [show (100 : Int) + 1 = 101 by decide, en, ek] at PT
  rw [ep] at PS
  rw [eq] at PS2
  obtain ⟨a1, ha1⟩ : ∃ a, a = 1 + a0 := ⟨_, rfl⟩
  obtain ⟨b1, hb1⟩ : ∃ b, b = 1 + b0 := ⟨_, rfl⟩
  rw [ea, show (1 : Int) + (a0 : Int) = (a1 : Int) by omega] at PR
  rw [eb, show (1 : Int) + (b0 : Int) = (b1 : Int) by omega] at PR2
  obtain ⟨p, hpp⟩ : ∃ p, p = min p0 q0 := ⟨_, rfl⟩
  obtain ⟨q, hqq⟩ : ∃ q, q = max p0 q0 := ⟨_, rfl⟩
  obtain ⟨a, haa⟩ : ∃ a, a = min a1 b1 := ⟨_, rfl⟩
  obtain ⟨b, hbb⟩ : ∃ b, b = max a1 b1 := ⟨_, rfl⟩
  have m1 : min (p0 : Int) (q0 : Int) = (p : Int) := by omega
  have m2 : max (p0 : Int) (q0 : Int) = (q : Int) := by omega
  have m3 : min (a1 : Int) (b1 : Int) = (a : Int) := by omega
  have m4 : max (a1 : Int) (b1 : Int) = (b : Int) := by omega
  have n5 : n ≤ 500 := by omega
  have kn : k ≤ n := by omega
  have p4 : p ≤ 10000 := by omega
  have q4 : q ≤ 10000 := by omega
  have pq : p ≤ q := by omega
  have x1 : 1 ≤ a := by omega
  have x2 : a ≤ 2000 := by omega
  have y1 : 1 ≤ b := by omega
  have y2 : b ≤ 2000 := by omega
  have ab : a ≤ b := by omega
  clear en ek ep eq ea eb ha hb ha1 hb1 hpp hqq haa hbb
  have UP := Lib.hid (fun w' => upper_ok n k p w' n5 kn p4)
  have UQ := Lib.hid (fun w' => upper_ok n k q w' n5 kn q4)
  have tu : Bn.Up n k p < Nt.top := by have := Up_top (n := n) (k := k) (p := p) (y := 1) n5 p4 (by omega); omega
  have tv : Bn.Up n k q < Nt.top := by have := Up_top (n := n) (k := k) (p := q) (y := 1) n5 q4 (by omega); omega
  have tz : Bn.Up n (k + 1) p < Nt.top := by have := Up_top (n := n) (k := k + 1) (p := p) (y := 1) n5 p4 (by omega); omega
  have CM := Lib.hid (fun v v' w' (h : Dg w' v (Bn.Up n k p)) (h' : Dg w' v' (Bn.Up n k q)) => cmp_dig v v' _ _ w' h h' tu tv)
  have o1 := ord_le (Bn.Up_mono n k pq (by unfold Bn.W; omega))
  have o2 := (ord_b (Bn.Up n k p) (Bn.Up n k q)).1
  obtain ⟨c, hc⟩ : ∃ c, c = Nt.ord (Bn.Up n k p) (Bn.Up n k q) := ⟨_, rfl⟩
  rw [← hc] at CM o1 o2
  have LA := Lib.hid (fun w' => least_ok n k a w' n5 kn x1 x2)
  have LB := Lib.hid (fun w' => least_ok n k b w' n5 kn y1 y2)
  have l1 := Bn.low_risk (n := n) (k := k) kn ab (by unfold Bn.W; omega)
  have l2 := low_le4 n k b
  have LN := Lib.hid (fun (h : k + 1 ≤ n) w' => least_ok n (k + 1) a w' n5 h x1 x2)
  have l3 := fun (h : k + 1 ≤ n) => Bn.low_more (n := n) (k := k) (r := a) h (by unfold Bn.W; omega)
  have l4 := low_le4 n (k + 1) a
  obtain ⟨lo, hlo⟩ : ∃ lo, lo = Bn.low n k a := ⟨_, rfl⟩
  obtain ⟨hi, hhi⟩ : ∃ hi, hi = Bn.low n k b := ⟨_, rfl⟩
  obtain ⟨nx, hnx⟩ : ∃ nx, nx = Bn.low n (k + 1) a := ⟨_, rfl⟩
  rw [← hlo] at LA l1 l3
  rw [← hhi] at LB l1 l2
  rw [← hnx] at LN l3 l4
  obtain ⟨kk, hkk⟩ : ∃ kk, kk = k + 1 := ⟨_, rfl⟩
  have UN := Lib.hid (fun (h : k + 1 ≤ n) w' => upper_ok n (k + 1) p w' n5 h p4)
  have CZ := Lib.hid (fun (_ : k + 1 ≤ n) v v' w' (h : Dg w' v (Bn.Up n (k + 1) p)) (h' : Dg w' v' (Bn.Up n k p)) => cmp_dig v v' _ _ w' h h' tz tu)
  have o3 := ord_le (Bn.Up_anti n p (Nat.le_succ k))
  have o4 := (ord_b (Bn.Up n (k + 1) p) (Bn.Up n k p)).1
  obtain ⟨d, hd⟩ : ∃ d, d = Nt.ord (Bn.Up n (k + 1) p) (Bn.Up n k p) := ⟨_, rfl⟩
  rw [← hd] at CZ
  change Nt.ord (Bn.Up n (k + 1) p) (Bn.Up n k p) ≤ 0 at o3
  rw [← hd] at o3 o4
  rw [← hkk] at UN CZ LN
  have n1 : (n : Int) ≤ 100 := by omega
  have k1 : (k : Int) ≤ 100 := by omega
  have e1 : (k : Int) + 1 = (kk : Int) := by omega
  have g1 : (lo : Int) ≤ (hi : Int) := by omega
  have g2 : (hi : Int) ≤ 10000 := by omega
  have g3 : (nx : Int) ≤ 10000 := by omega
  have B0 : Below w.heap.size w w := Below.refl _ _
  clear hc hd hlo hhi hnx tu tv tz hn hk hp hq
  by_cases hkn : k + 1 ≤ n
  · have nk : ((k : Int) == (n : Int)) = false := by rw [beq_eq_false_iff_ne]; omega
    have g4 : (lo : Int) ≤ (nx : Int) := by have := l3 hkn; omega
    have hk2 : kk ≤ n := by omega
    clear hkk l3
    go_enter Try.func10, Try.ntmps10
    go_wp2_with (first
      | (go_at_call 14; with_reducible refine (AW.out w).mono ?_; rintro e y1 ⟨rfl, by1⟩; have BB1 := B0.trans (by1.mono B0.size))
      | (go_at_call 27; with_reducible refine (PT.out _).mono ?_; rintro e w' ⟨rfl, rfl⟩)
      | (go_at_call 20; with_reducible refine (PS.out _).mono ?_; rintro e w' ⟨rfl, rfl⟩)
      | (go_at_call 20; with_reducible refine (PS2.out _).mono ?_; rintro e w' ⟨rfl, rfl⟩)
      | (go_at_call 28; with_reducible refine (UP.out y1).mono ?_; intro e y2 hq; obtain ⟨xa2, xm2, xc2, rfl, dn2, by2⟩ := NumE.out hq; clear hq; have BB2 := BB1.trans (by2.mono BB1.size))
      | (go_at_call 28; with_reducible refine (UQ.out y2).mono ?_; intro e y3 hq; obtain ⟨xa3, xm3, xc3, rfl, dn3, by3⟩ := NumE.out hq; clear hq; have u_3 := Dg.below dn2 by3; have BB3 := BB2.trans (by3.mono BB2.size))
      | (go_at_call 36; with_reducible refine (CM.out _ _ _ u_3 dn3).mono ?_; rintro e y4 ⟨rfl, by4⟩; have u_4 := Dg.below u_3 by4; have v_4 := Dg.below dn3 by4; have BB4 := BB3.trans (by4.mono BB3.size))
      | (go_at_call 21; with_reducible refine (PR.out _).mono ?_; rintro e w' ⟨rfl, rfl⟩)
      | (go_at_call 21; with_reducible refine (PR2.out _).mono ?_; rintro e w' ⟨rfl, rfl⟩)
      | (go_at_call 23; with_reducible refine (LA.out y4).mono ?_; rintro e y5 ⟨rfl, by5⟩; have u_5 := Dg.below u_4 by5; have BB5 := BB4.trans (by5.mono BB4.size))
      | (go_at_call 23; with_reducible refine (LB.out y5).mono ?_; rintro e y6 ⟨rfl, by6⟩; have u_6 := Dg.below u_5 by6; have BB6 := BB5.trans (by6.mono BB5.size))
      | (go_at_call 28; with_reducible refine (UN.out hk2 y6).mono ?_; intro e y7 hq; obtain ⟨xa7, xm7, xc7, rfl, dn7, by7⟩ := NumE.out hq; clear hq; have u_7 := Dg.below u_6 by7; have BB7 := BB6.trans (by7.mono BB6.size))
      | (go_at_call 23; with_reducible refine (LN.out hk2 y7).mono ?_; rintro e y8 ⟨rfl, by8⟩; have u_8 := Dg.below u_7 by8; have z_8 := Dg.below dn7 by8; have BB8 := BB7.trans (by8.mono BB7.size))
      | (go_at_call 36; with_reducible refine (CZ.out hk2 _ _ _ z_8 u_8).mono ?_; rintro e y9 ⟨rfl, by9⟩; have u_9 := Dg.below u_8 by9; have z_9 := Dg.below z_8 by9; have BB9 := BB8.trans (by9.mono BB8.size)))
    go_ret
    exact ⟨ret_bool (by first | rfl | (simp; done) | (simp; omega)), BB9⟩
  · have nk : ((k : Int) == (n : Int)) = true := by rw [beq_iff_eq]; omega
    clear hkk l3 e1
    go_enter Try.func10, Try.ntmps10
    go_wp2_with (first
      | (go_at_call 14; with_reducible refine (AW.out w).mono ?_; rintro e y1 ⟨rfl, by1⟩; have BB1 := B0.trans (by1.mono B0.size))
      | (go_at_call 27; with_reducible refine (PT.out _).mono ?_; rintro e w' ⟨rfl, rfl⟩)
      | (go_at_call 20; with_reducible refine (PS.out _).mono ?_; rintro e w' ⟨rfl, rfl⟩)
      | (go_at_call 20; with_reducible refine (PS2.out _).mono ?_; rintro e w' ⟨rfl, rfl⟩)
      | (go_at_call 28; with_reducible refine (UP.out y1).mono ?_; intro e y2 hq; obtain ⟨xa2, xm2, xc2, rfl, dn2, by2⟩ := NumE.out hq; clear hq; have BB2 := BB1.trans (by2.mono BB1.size))
      | (go_at_call 28; with_reducible refine (UQ.out y2).mono ?_; intro e y3 hq; obtain ⟨xa3, xm3, xc3, rfl, dn3, by3⟩ := NumE.out hq; clear hq; have u_3 := Dg.below dn2 by3; have BB3 := BB2.trans (by3.mono BB2.size))
      | (go_at_call 36; with_reducible refine (CM.out _ _ _ u_3 dn3).mono ?_; rintro e y4 ⟨rfl, by4⟩; have u_4 := Dg.below u_3 by4; have v_4 := Dg.below dn3 by4; have BB4 := BB3.trans (by4.mono BB3.size))
      | (go_at_call 21; with_reducible refine (PR.out _).mono ?_; rintro e w' ⟨rfl, rfl⟩)
      | (go_at_call 21; with_reducible refine (PR2.out _).mono ?_; rintro e w' ⟨rfl, rfl⟩)
      | (go_at_call 23; with_reducible refine (LA.out y4).mono ?_; rintro e y5 ⟨rfl, by5⟩; have u_5 := Dg.below u_4 by5; have BB5 := BB4.trans (by5.mono BB4.size))
      | (go_at_call 23; with_reducible refine (LB.out y5).mono ?_; rintro e y6 ⟨rfl, by6⟩; have u_6 := Dg.below u_5 by6; have BB6 := BB5.trans (by6.mono BB5.size)))
    go_ret
    exact ⟨rfl, BB6⟩
end Go.Proofs.Ytjfopggpohakkaa
