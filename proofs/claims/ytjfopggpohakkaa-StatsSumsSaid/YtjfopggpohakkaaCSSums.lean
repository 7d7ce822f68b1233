/- StatsSums: the walk. -/
import Derived.Test.YtjfopggpohakkaaSs
namespace Go.Proofs.Ytjfopggpohakkaa
open Go.RowKit

theorem Dg.made {w : World} {v : Value} {x : Nat} (h : Dg w v x) (o : Obj) : Dg (w.alloc o) v x := h.below ((Below.refl _ _).alloc (Nat.le_refl _) o)
theorem made_b {w w' : World} (h : Below w.heap.size w w') (o : Obj) : Below w.heap.size w (w'.alloc o) := h.alloc h.size o
theorem Dg.empty (w : World) (a : Addr) (c : Nat) : Dg w (.slice (some a) 0 c) 0 := ⟨some a, c, rfl, Nt.fit_nil, (fun e => by cases e), Nat.zero_le _, .inl rfl⟩
set_option maxRecDepth 100000 in
set_option maxHeartbeats 6400000 in
theorem walk_statsSums (w : World) (t : Int) (_t1 : -9223372036854775808 ≤ t) (_t2 : t ≤ 9223372036854775807) (u : Int) (_u1 : -9223372036854775808 ≤ u) (_u2 : u ≤ 9223372036854775807) (s : Int) (_s1 : -9223372036854775808 ≤ s) (_s2 : s ≤ 9223372036854775807) :
    Calls Try.prog 8 #[.int .i64 t, .int .i64 u, .int .i64 s] w fun e w' => e = .returned (.bool true) ∧ Below w.heap.size w w' := by
  obtain ⟨n, en, hn⟩ := picked t 201 (by omega)
  obtain ⟨k, ek, hk⟩ := picked u ((n : Int) + 1) (by omega)
  obtain ⟨p, ep, hp⟩ := picked s 10001 (by omega)
  have AW := Lib.hid (fun w' => awake4_any w')
  have PT := Lib.hid (fun w' => trials4 t u 200 w' (by omega) (by omega))
  have PS := Lib.hid (fun w' => share4 s w')
  simp only [show (200 : Int) + 1 = 201 by decide, en, ek] at PT
  rw [ep] at PS
  have n5 : n ≤ 500 := by omega
  have n2 : n ≤ 200 := by omega
  have kn : k ≤ n := by omega
  have p4 : p ≤ 10000 := by omega
  have pW : p ≤ Bn.W := p4
  clear en ek ep
  have UP := Lib.hid (fun w' => upper_ok n k p w' n5 kn p4)
  have CH := Lib.hid (fun w' => chance_ok n k p w' n5 kn p4)
  obtain ⟨kk, hkk⟩ : ∃ kk, kk = k + 1 := ⟨_, rfl⟩
  obtain ⟨kp, hkp⟩ : ∃ kp, kp = k - 1 := ⟨_, rfl⟩
  have UN := Lib.hid (fun (h : kk ≤ n) w' => upper_ok n kk p w' n5 h p4)
  have LN := Lib.hid (fun (h : 0 < k) w' => by
    have := lower_ok n kp p w' n5 (by omega) p4
    rw [show Bn.Lo n kp p = Bn.S p (10000 - p) n k by unfold Bn.Lo Bn.W; rw [show kp + 1 = k by omega]] at this; exact this)
  have AL := Lib.hid (fun w' => all4 n w' n5)
  have TW : 10000 * 10000 ^ n < Nt.top := top_W n5 (by omega)
  have s1 := Bn.Up_S (n := n) (k := k) (p := p) (by omega) pW
  have s2 := Bn.Up_step n k p kn
  change Bn.Up n k p + Bn.S p (10000 - p) n k = 10000 ^ n at s1
  change Bn.Up n k p = Bn.Up n (k + 1) p + Bn.T p (10000 - p) n k at s2
  rw [← hkk] at s2
  have AD1 := Lib.hid (fun v v' w' (h : Dg w' v (Bn.Up n k p)) (h' : Dg w' v' (Bn.S p (10000 - p) n k)) => by
    have := add_dig v v' _ _ w' h h' (by omega)
    rw [s1] at this; exact this)
  have AD2 := Lib.hid (fun v v' w' (h : Dg w' v (Bn.Up n kk p)) (h' : Dg w' v' (Bn.T p (10000 - p) n k)) => by
    have := add_dig v v' _ _ w' h h' (by omega)
    rw [← s2] at this; exact this)
  have S1 := Lib.hid (fun v v' w' (h : Dg w' v (10000 ^ n)) (h' : Dg w' v' (10000 ^ n)) => same_dig v v' _ _ w' h h' (by omega))
  have S2 := Lib.hid (fun v v' w' (h : Dg w' v (Bn.Up n k p)) (h' : Dg w' v' (Bn.Up n k p)) => same_dig v v' _ _ w' h h' (by omega))
  have H : Bn.T 5000 5000 n k = Bn.T 1 1 n k * 5000 ^ n := by
    have := Bn.T_scale 5000 1 1 n k
    rw [Nat.mul_one, Nat.mul_comm] at this; exact this
  have hl : Bn.T 5000 5000 n k ≤ 10000 ^ n := T_W (by omega)
  have cl : Bn.T 1 1 n k ≤ 10000 ^ n := T_W (by omega)
  have pl : (5000 : Nat) ^ n ≤ 10000 ^ n := Nat.pow_le_pow_left (by omega) n
  have CF : Hid (∀ w', Calls Try.prog 22 #[.int .i64 n, .int .i64 k, .int .i64 5000] w' (NumE (Bn.T 5000 5000 n k) 0 w')) := fun w' => chance_ok n k 5000 w' n5 kn (by omega)
  have CC := Lib.hid (fun w' => choose_ok n k w' n5 kn)
  have tw := top_word
  have OF : Hid (∀ w', Calls Try.prog 34 #[.int .u64 5000] w' fun e w'' => ∃ a k c, e = .returned (.slice a k c) ∧ Dg w'' (.slice a k c) 5000 ∧ Below w'.heap.size w' w'') := fun w' => of_dg 5000 w' (by omega)
  have PW := Lib.hid (fun v w' (h : Dg w' v 5000) => show Calls Try.prog 33 #[v, .int .i64 n] w' (fun e w'' => ∃ a n2 c, e = .returned (.tuple #[.slice a n2 c, .int .i64 0]) ∧ Dg w'' (.slice a n2 c) (5000 ^ n) ∧ Below w'.heap.size w' w'') by
    have := pow3_any v _ (n : Int) w' h (by omega)
    rw [powR_dig (by omega) (by omega)] at this; exact this)
  have MU := Lib.hid (fun v v' w' (h : Dg w' v (Bn.T 1 1 n k)) (h' : Dg w' v' (5000 ^ n)) => by
    have := mul_dg v v' _ _ w' h h' (by omega) (by omega) (by omega)
    rw [← H] at this; exact this)
  have S3 := Lib.hid (fun v v' w' (h : Dg w' v (Bn.T 5000 5000 n k)) (h' : Dg w' v' (Bn.T 5000 5000 n k)) => same_dig v v' _ _ w' h h' (by omega))
  simp only [decide_true] at S1 S2 S3
  have n1 : (n : Int) ≤ 200 := by omega
  have k1 : (k : Int) ≤ 200 := by omega
  have e1 : (k : Int) + 1 = (kk : Int) := by omega
  have fp : Hid (0 < k → (k : Int) - 1 = (kp : Int)) := fun h => by show _ = _; omega
  have fz : Hid (k = 0 → Bn.S p (10000 - p) n k = 0) := fun h => by show _ = _; rw [h]; rfl
  have fn : Hid (k = n → Bn.Up n kk p = 0) := fun h => by show _ = _; rw [hkk, h]; exact Bn.Up_last n p
  have B0 : Below w.heap.size w w := Below.refl _ _
  have HK := Lib.hid hkk
  clear TW s1 s2 H hl cl pl tw hn hk hp hkk hkp pW
  by_cases h1 : k < n
  · have hn1 : Hid (kk ≤ n) := by have := HK.out; show _ ≤ _; omega
    by_cases h2 : 0 < k
    · have h01 : Hid (0 < k) := h2
      have e2 := fp.out h2
      go_enter Try.func8, Try.ntmps8
      go_wp2_with (first
        | (go_at_call 14; with_reducible refine (AW.out w).mono ?_; rintro e y1 ⟨rfl, by1⟩; have BB1 := B0.trans (by1.mono B0.size))
        | (go_at_call 27; with_reducible refine (PT.out _).mono ?_; rintro e w' ⟨rfl, rfl⟩)
        | (go_at_call 20; with_reducible refine (PS.out _).mono ?_; rintro e w' ⟨rfl, rfl⟩)
        | (go_at_call 28; with_reducible refine (UP.out y1).mono ?_; intro e y2 hq; obtain ⟨xa2, xm2, xc2, rfl, dn2, by2⟩ := NumE.out hq; clear hq; have BB2 := BB1.trans (by2.mono BB1.size))
        | (go_at_call 22; with_reducible refine (CH.out y2).mono ?_; intro e y3 hq; obtain ⟨xa3, xm3, xc3, rfl, dn3, by3⟩ := NumE.out hq; clear hq; have u_3 := Dg.below dn2 by3; have BB3 := BB2.trans (by3.mono BB2.size))
        | (go_at_call 28; with_reducible refine (UN.out hn1.out _).mono ?_; intro e y4 hq; obtain ⟨xa4, xm4, xc4, rfl, dn4, by4⟩ := NumE.out hq; clear hq; have u_4 := Dg.below (Dg.made (Dg.made (u_3) _) _) by4; have x_4 := Dg.below (Dg.made (Dg.made (dn3) _) _) by4; have BB4 := (made_b (made_b (BB3) _) _).trans (by4.mono (made_b (made_b (BB3) _) _).size))
        | (go_at_call 29; with_reducible refine (LN.out h01.out y4).mono ?_; intro e y5 hq; obtain ⟨xa5, xm5, xc5, rfl, dn5, by5⟩ := NumE.out hq; clear hq; have u_5 := Dg.below u_4 by5; have x_5 := Dg.below x_4 by5; have m_5 := Dg.below dn4 by5; have BB5 := BB4.trans (by5.mono BB4.size))
        | (go_at_call 25; with_reducible refine (AD1.out _ _ _ u_5 dn5).mono ?_; rintro e y6 ⟨xa6, xm6, xc6, rfl, dn6, by6⟩; have u_6 := Dg.below u_5 by6; have x_6 := Dg.below x_5 by6; have m_6 := Dg.below m_5 by6; have l_6 := Dg.below dn5 by6; have BB6 := BB5.trans (by6.mono BB5.size))
        | (go_at_call 25; with_reducible refine (AD2.out _ _ _ m_6 x_6).mono ?_; rintro e y7 ⟨xa7, xm7, xc7, rfl, dn7, by7⟩; have u_7 := Dg.below u_6 by7; have x_7 := Dg.below x_6 by7; have m_7 := Dg.below m_6 by7; have l_7 := Dg.below l_6 by7; have a_7 := Dg.below dn6 by7; have BB7 := BB6.trans (by7.mono BB6.size))
        | (go_at_call 31; with_reducible refine (AL.out y7).mono ?_; intro e y8 hq; obtain ⟨xa8, xm8, xc8, rfl, dn8, by8⟩ := Num.out hq; clear hq; have u_8 := Dg.below u_7 by8; have a_8 := Dg.below a_7 by8; have b_8 := Dg.below dn7 by8; have BB8 := BB7.trans (by8.mono BB7.size))
        | (go_at_call 30; with_reducible refine (S1.out _ _ _ a_8 dn8).mono ?_; rintro e y9 ⟨rfl, by9⟩; have u_9 := Dg.below u_8 by9; have a_9 := Dg.below a_8 by9; have b_9 := Dg.below b_8 by9; have al_9 := Dg.below dn8 by9; have BB9 := BB8.trans (by9.mono BB8.size))
        | (go_at_call 30; with_reducible refine (S2.out _ _ _ b_9 u_9).mono ?_; rintro e y10 ⟨rfl, by10⟩; have u_10 := Dg.below u_9 by10; have b_10 := Dg.below b_9 by10; have BB10 := BB9.trans (by10.mono BB9.size))
        | (go_at_call 22; with_reducible refine (CF.out y10).mono ?_; intro e y11 hq; obtain ⟨xa11, xm11, xc11, rfl, dn11, by11⟩ := NumE.out hq; clear hq; have BB11 := BB10.trans (by11.mono BB10.size))
        | (go_at_call 32; with_reducible refine (CC.out y11).mono ?_; intro e y12 hq; obtain ⟨xa12, xm12, xc12, rfl, dn12, by12⟩ := NumE.out hq; clear hq; have hf_12 := Dg.below dn11 by12; have BB12 := BB11.trans (by12.mono BB11.size))
        | (go_at_call 34; with_reducible refine (OF.out y12).mono ?_; rintro e y13 ⟨xa13, xm13, xc13, rfl, dn13, by13⟩; have hf_13 := Dg.below hf_12 by13; have c_13 := Dg.below dn12 by13; have BB13 := BB12.trans (by13.mono BB12.size))
        | (go_at_call 33; with_reducible refine (PW.out _ _ dn13).mono ?_; rintro e y14 ⟨xa14, xm14, xc14, rfl, dn14, by14⟩; have hf_14 := Dg.below hf_13 by14; have c_14 := Dg.below c_13 by14; have o_14 := Dg.below dn13 by14; have BB14 := BB13.trans (by14.mono BB13.size))
        | (go_at_call 35; with_reducible refine (MU.out _ _ _ c_14 dn14).mono ?_; rintro e y15 ⟨xa15, xm15, xc15, rfl, dn15, by15⟩; have hf_15 := Dg.below hf_14 by15; have c_15 := Dg.below c_14 by15; have p_15 := Dg.below dn14 by15; have BB15 := BB14.trans (by15.mono BB14.size))
        | (go_at_call 30; with_reducible refine (S3.out _ _ _ hf_15 dn15).mono ?_; rintro e y16 ⟨rfl, by16⟩; have hf_16 := Dg.below hf_15 by16; have q_16 := Dg.below dn15 by16; have BB16 := BB15.trans (by16.mono BB15.size)))
      go_ret
      exact ⟨rfl, BB16⟩
    · have z2 := fz.out (by omega)
      rw [z2] at AD1
      clear z2
      go_enter Try.func8, Try.ntmps8
      go_wp2_with (first
        | (go_at_call 14; with_reducible refine (AW.out w).mono ?_; rintro e y1 ⟨rfl, by1⟩; have BB1 := B0.trans (by1.mono B0.size))
        | (go_at_call 27; with_reducible refine (PT.out _).mono ?_; rintro e w' ⟨rfl, rfl⟩)
        | (go_at_call 20; with_reducible refine (PS.out _).mono ?_; rintro e w' ⟨rfl, rfl⟩)
        | (go_at_call 28; with_reducible refine (UP.out y1).mono ?_; intro e y2 hq; obtain ⟨xa2, xm2, xc2, rfl, dn2, by2⟩ := NumE.out hq; clear hq; have BB2 := BB1.trans (by2.mono BB1.size))
        | (go_at_call 22; with_reducible refine (CH.out y2).mono ?_; intro e y3 hq; obtain ⟨xa3, xm3, xc3, rfl, dn3, by3⟩ := NumE.out hq; clear hq; have u_3 := Dg.below dn2 by3; have BB3 := BB2.trans (by3.mono BB2.size))
        | (go_at_call 28; with_reducible refine (UN.out hn1.out _).mono ?_; intro e y4 hq; obtain ⟨xa4, xm4, xc4, rfl, dn4, by4⟩ := NumE.out hq; clear hq; have u_4 := Dg.below (Dg.made (Dg.made (u_3) _) _) by4; have x_4 := Dg.below (Dg.made (Dg.made (dn3) _) _) by4; have BB4 := (made_b (made_b (BB3) _) _).trans (by4.mono (made_b (made_b (BB3) _) _).size))
        | (go_at_call 25; with_reducible refine (AD1.out _ _ _ u_4 (Dg.empty _ _ _)).mono ?_; rintro e y5 ⟨xa5, xm5, xc5, rfl, dn5, by5⟩; have u_5 := Dg.below u_4 by5; have x_5 := Dg.below x_4 by5; have m_5 := Dg.below dn4 by5; have BB5 := BB4.trans (by5.mono BB4.size))
        | (go_at_call 25; with_reducible refine (AD2.out _ _ _ m_5 x_5).mono ?_; rintro e y6 ⟨xa6, xm6, xc6, rfl, dn6, by6⟩; have u_6 := Dg.below u_5 by6; have x_6 := Dg.below x_5 by6; have m_6 := Dg.below m_5 by6; have a_6 := Dg.below dn5 by6; have BB6 := BB5.trans (by6.mono BB5.size))
        | (go_at_call 31; with_reducible refine (AL.out y6).mono ?_; intro e y7 hq; obtain ⟨xa7, xm7, xc7, rfl, dn7, by7⟩ := Num.out hq; clear hq; have u_7 := Dg.below u_6 by7; have a_7 := Dg.below a_6 by7; have b_7 := Dg.below dn6 by7; have BB7 := BB6.trans (by7.mono BB6.size))
        | (go_at_call 30; with_reducible refine (S1.out _ _ _ a_7 dn7).mono ?_; rintro e y8 ⟨rfl, by8⟩; have u_8 := Dg.below u_7 by8; have a_8 := Dg.below a_7 by8; have b_8 := Dg.below b_7 by8; have al_8 := Dg.below dn7 by8; have BB8 := BB7.trans (by8.mono BB7.size))
        | (go_at_call 30; with_reducible refine (S2.out _ _ _ b_8 u_8).mono ?_; rintro e y9 ⟨rfl, by9⟩; have u_9 := Dg.below u_8 by9; have b_9 := Dg.below b_8 by9; have BB9 := BB8.trans (by9.mono BB8.size))
        | (go_at_call 22; with_reducible refine (CF.out y9).mono ?_; intro e y10 hq; obtain ⟨xa10, xm10, xc10, rfl, dn10, by10⟩ := NumE.out hq; clear hq; have BB10 := BB9.trans (by10.mono BB9.size))
        | (go_at_call 32; with_reducible refine (CC.out y10).mono ?_; intro e y11 hq; obtain ⟨xa11, xm11, xc11, rfl, dn11, by11⟩ := NumE.out hq; clear hq; have hf_11 := Dg.below dn10 by11; have BB11 := BB10.trans (by11.mono BB10.size))
        | (go_at_call 34; with_reducible refine (OF.out y11).mono ?_; rintro e y12 ⟨xa12, xm12, xc12, rfl, dn12, by12⟩; have hf_12 := Dg.below hf_11 by12; have c_12 := Dg.below dn11 by12; have BB12 := BB11.trans (by12.mono BB11.size))
        | (go_at_call 33; with_reducible refine (PW.out _ _ dn12).mono ?_; rintro e y13 ⟨xa13, xm13, xc13, rfl, dn13, by13⟩; have hf_13 := Dg.below hf_12 by13; have c_13 := Dg.below c_12 by13; have o_13 := Dg.below dn12 by13; have BB13 := BB12.trans (by13.mono BB12.size))
        | (go_at_call 35; with_reducible refine (MU.out _ _ _ c_13 dn13).mono ?_; rintro e y14 ⟨xa14, xm14, xc14, rfl, dn14, by14⟩; have hf_14 := Dg.below hf_13 by14; have c_14 := Dg.below c_13 by14; have p_14 := Dg.below dn13 by14; have BB14 := BB13.trans (by14.mono BB13.size))
        | (go_at_call 30; with_reducible refine (S3.out _ _ _ hf_14 dn14).mono ?_; rintro e y15 ⟨rfl, by15⟩; have hf_15 := Dg.below hf_14 by15; have q_15 := Dg.below dn14 by15; have BB15 := BB14.trans (by15.mono BB14.size)))
      go_ret
      exact ⟨rfl, BB15⟩
  · have z1 := fn.out (by omega)
    rw [z1] at AD2
    clear z1
    by_cases h2 : 0 < k
    · have h01 : Hid (0 < k) := h2
      have e2 := fp.out h2
      go_enter Try.func8, Try.ntmps8
      go_wp2_with (first
        | (go_at_call 14; with_reducible refine (AW.out w).mono ?_; rintro e y1 ⟨rfl, by1⟩; have BB1 := B0.trans (by1.mono B0.size))
        | (go_at_call 27; with_reducible refine (PT.out _).mono ?_; rintro e w' ⟨rfl, rfl⟩)
        | (go_at_call 20; with_reducible refine (PS.out _).mono ?_; rintro e w' ⟨rfl, rfl⟩)
        | (go_at_call 28; with_reducible refine (UP.out y1).mono ?_; intro e y2 hq; obtain ⟨xa2, xm2, xc2, rfl, dn2, by2⟩ := NumE.out hq; clear hq; have BB2 := BB1.trans (by2.mono BB1.size))
        | (go_at_call 22; with_reducible refine (CH.out y2).mono ?_; intro e y3 hq; obtain ⟨xa3, xm3, xc3, rfl, dn3, by3⟩ := NumE.out hq; clear hq; have u_3 := Dg.below dn2 by3; have BB3 := BB2.trans (by3.mono BB2.size))
        | (go_at_call 29; with_reducible refine (LN.out h01.out _).mono ?_; intro e y4 hq; obtain ⟨xa4, xm4, xc4, rfl, dn4, by4⟩ := NumE.out hq; clear hq; have u_4 := Dg.below (Dg.made (Dg.made (u_3) _) _) by4; have x_4 := Dg.below (Dg.made (Dg.made (dn3) _) _) by4; have BB4 := (made_b (made_b (BB3) _) _).trans (by4.mono (made_b (made_b (BB3) _) _).size))
        | (go_at_call 25; with_reducible refine (AD1.out _ _ _ u_4 dn4).mono ?_; rintro e y5 ⟨xa5, xm5, xc5, rfl, dn5, by5⟩; have u_5 := Dg.below u_4 by5; have x_5 := Dg.below x_4 by5; have l_5 := Dg.below dn4 by5; have BB5 := BB4.trans (by5.mono BB4.size))
        | (go_at_call 25; with_reducible refine (AD2.out _ _ _ (Dg.empty _ _ _) x_5).mono ?_; rintro e y6 ⟨xa6, xm6, xc6, rfl, dn6, by6⟩; have u_6 := Dg.below u_5 by6; have x_6 := Dg.below x_5 by6; have l_6 := Dg.below l_5 by6; have a_6 := Dg.below dn5 by6; have BB6 := BB5.trans (by6.mono BB5.size))
        | (go_at_call 31; with_reducible refine (AL.out y6).mono ?_; intro e y7 hq; obtain ⟨xa7, xm7, xc7, rfl, dn7, by7⟩ := Num.out hq; clear hq; have u_7 := Dg.below u_6 by7; have a_7 := Dg.below a_6 by7; have b_7 := Dg.below dn6 by7; have BB7 := BB6.trans (by7.mono BB6.size))
        | (go_at_call 30; with_reducible refine (S1.out _ _ _ a_7 dn7).mono ?_; rintro e y8 ⟨rfl, by8⟩; have u_8 := Dg.below u_7 by8; have a_8 := Dg.below a_7 by8; have b_8 := Dg.below b_7 by8; have al_8 := Dg.below dn7 by8; have BB8 := BB7.trans (by8.mono BB7.size))
        | (go_at_call 30; with_reducible refine (S2.out _ _ _ b_8 u_8).mono ?_; rintro e y9 ⟨rfl, by9⟩; have u_9 := Dg.below u_8 by9; have b_9 := Dg.below b_8 by9; have BB9 := BB8.trans (by9.mono BB8.size))
        | (go_at_call 22; with_reducible refine (CF.out y9).mono ?_; intro e y10 hq; obtain ⟨xa10, xm10, xc10, rfl, dn10, by10⟩ := NumE.out hq; clear hq; have BB10 := BB9.trans (by10.mono BB9.size))
        | (go_at_call 32; with_reducible refine (CC.out y10).mono ?_; intro e y11 hq; obtain ⟨xa11, xm11, xc11, rfl, dn11, by11⟩ := NumE.out hq; clear hq; have hf_11 := Dg.below dn10 by11; have BB11 := BB10.trans (by11.mono BB10.size))
        | (go_at_call 34; with_reducible refine (OF.out y11).mono ?_; rintro e y12 ⟨xa12, xm12, xc12, rfl, dn12, by12⟩; have hf_12 := Dg.below hf_11 by12; have c_12 := Dg.below dn11 by12; have BB12 := BB11.trans (by12.mono BB11.size))
        | (go_at_call 33; with_reducible refine (PW.out _ _ dn12).mono ?_; rintro e y13 ⟨xa13, xm13, xc13, rfl, dn13, by13⟩; have hf_13 := Dg.below hf_12 by13; have c_13 := Dg.below c_12 by13; have o_13 := Dg.below dn12 by13; have BB13 := BB12.trans (by13.mono BB12.size))
        | (go_at_call 35; with_reducible refine (MU.out _ _ _ c_13 dn13).mono ?_; rintro e y14 ⟨xa14, xm14, xc14, rfl, dn14, by14⟩; have hf_14 := Dg.below hf_13 by14; have c_14 := Dg.below c_13 by14; have p_14 := Dg.below dn13 by14; have BB14 := BB13.trans (by14.mono BB13.size))
        | (go_at_call 30; with_reducible refine (S3.out _ _ _ hf_14 dn14).mono ?_; rintro e y15 ⟨rfl, by15⟩; have hf_15 := Dg.below hf_14 by15; have q_15 := Dg.below dn14 by15; have BB15 := BB14.trans (by15.mono BB14.size)))
      go_ret
      exact ⟨rfl, BB15⟩
    · have z2 := fz.out (by omega)
      rw [z2] at AD1
      clear z2
      go_enter Try.func8, Try.ntmps8
      go_wp2_with (first
        | (go_at_call 14; with_reducible refine (AW.out w).mono ?_; rintro e y1 ⟨rfl, by1⟩; have BB1 := B0.trans (by1.mono B0.size))
        | (go_at_call 27; with_reducible refine (PT.out _).mono ?_; rintro e w' ⟨rfl, rfl⟩)
        | (go_at_call 20; with_reducible refine (PS.out _).mono ?_; rintro e w' ⟨rfl, rfl⟩)
        | (go_at_call 28; with_reducible refine (UP.out y1).mono ?_; intro e y2 hq; obtain ⟨xa2, xm2, xc2, rfl, dn2, by2⟩ := NumE.out hq; clear hq; have BB2 := BB1.trans (by2.mono BB1.size))
        | (go_at_call 22; with_reducible refine (CH.out y2).mono ?_; intro e y3 hq; obtain ⟨xa3, xm3, xc3, rfl, dn3, by3⟩ := NumE.out hq; clear hq; have u_3 := Dg.below dn2 by3; have BB3 := BB2.trans (by3.mono BB2.size))
        | (go_at_call 25; with_reducible refine (AD1.out _ _ _ (Dg.made (Dg.made (u_3) _) _) (Dg.empty _ _ _)).mono ?_; rintro e y4 ⟨xa4, xm4, xc4, rfl, dn4, by4⟩; have u_4 := Dg.below (Dg.made (Dg.made (u_3) _) _) by4; have x_4 := Dg.below (Dg.made (Dg.made (dn3) _) _) by4; have BB4 := (made_b (made_b (BB3) _) _).trans (by4.mono (made_b (made_b (BB3) _) _).size))
        | (go_at_call 25; with_reducible refine (AD2.out _ _ _ (Dg.empty _ _ _) x_4).mono ?_; rintro e y5 ⟨xa5, xm5, xc5, rfl, dn5, by5⟩; have u_5 := Dg.below u_4 by5; have x_5 := Dg.below x_4 by5; have a_5 := Dg.below dn4 by5; have BB5 := BB4.trans (by5.mono BB4.size))
        | (go_at_call 31; with_reducible refine (AL.out y5).mono ?_; intro e y6 hq; obtain ⟨xa6, xm6, xc6, rfl, dn6, by6⟩ := Num.out hq; clear hq; have u_6 := Dg.below u_5 by6; have a_6 := Dg.below a_5 by6; have b_6 := Dg.below dn5 by6; have BB6 := BB5.trans (by6.mono BB5.size))
        | (go_at_call 30; with_reducible refine (S1.out _ _ _ a_6 dn6).mono ?_; rintro e y7 ⟨rfl, by7⟩; have u_7 := Dg.below u_6 by7; have a_7 := Dg.below a_6 by7; have b_7 := Dg.below b_6 by7; have al_7 := Dg.below dn6 by7; have BB7 := BB6.trans (by7.mono BB6.size))
        | (go_at_call 30; with_reducible refine (S2.out _ _ _ b_7 u_7).mono ?_; rintro e y8 ⟨rfl, by8⟩; have u_8 := Dg.below u_7 by8; have b_8 := Dg.below b_7 by8; have BB8 := BB7.trans (by8.mono BB7.size))
        | (go_at_call 22; with_reducible refine (CF.out y8).mono ?_; intro e y9 hq; obtain ⟨xa9, xm9, xc9, rfl, dn9, by9⟩ := NumE.out hq; clear hq; have BB9 := BB8.trans (by9.mono BB8.size))
        | (go_at_call 32; with_reducible refine (CC.out y9).mono ?_; intro e y10 hq; obtain ⟨xa10, xm10, xc10, rfl, dn10, by10⟩ := NumE.out hq; clear hq; have hf_10 := Dg.below dn9 by10; have BB10 := BB9.trans (by10.mono BB9.size))
        | (go_at_call 34; with_reducible refine (OF.out y10).mono ?_; rintro e y11 ⟨xa11, xm11, xc11, rfl, dn11, by11⟩; have hf_11 := Dg.below hf_10 by11; have c_11 := Dg.below dn10 by11; have BB11 := BB10.trans (by11.mono BB10.size))
        | (go_at_call 33; with_reducible refine (PW.out _ _ dn11).mono ?_; rintro e y12 ⟨xa12, xm12, xc12, rfl, dn12, by12⟩; have hf_12 := Dg.below hf_11 by12; have c_12 := Dg.below c_11 by12; have o_12 := Dg.below dn11 by12; have BB12 := BB11.trans (by12.mono BB11.size))
        | (go_at_call 35; with_reducible refine (MU.out _ _ _ c_12 dn12).mono ?_; rintro e y13 ⟨xa13, xm13, xc13, rfl, dn13, by13⟩; have hf_13 := Dg.below hf_12 by13; have c_13 := Dg.below c_12 by13; have p_13 := Dg.below dn12 by13; have BB13 := BB12.trans (by13.mono BB12.size))
        | (go_at_call 30; with_reducible refine (S3.out _ _ _ hf_13 dn13).mono ?_; rintro e y14 ⟨rfl, by14⟩; have hf_14 := Dg.below hf_13 by14; have q_14 := Dg.below dn13 by14; have BB14 := BB13.trans (by14.mono BB13.size)))
      go_ret
      exact ⟨rfl, BB14⟩
end Go.Proofs.Ytjfopggpohakkaa
