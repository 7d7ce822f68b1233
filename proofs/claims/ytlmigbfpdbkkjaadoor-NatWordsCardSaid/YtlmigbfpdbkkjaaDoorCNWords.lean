/- NatWords: its walk, from the contracts of layer 3's functions. -/
import Derived.Test.YtlmigbfpdbkkjaaDoorCNOrder
namespace Go.Proofs.YtlmigbfpdbkkjaaDoor
open Go.RowKit
namespace Nt
theorem word_top {n : Nat} (h : n < 18446744073709551616) : n < top := by
  obtain ⟨f, hf⟩ : ∃ f, f = 1024 := ⟨_, rfl⟩
  rw [top_pow hf]
  exact Nat.lt_of_lt_of_le (Nat.lt_of_lt_of_le h (show 18446744073709551616 ≤ B ^ 2 by decide)) (Nat.pow_le_pow_right (by decide) (by omega))
theorem word_ok {n : Nat} (h : n < 18446744073709551616) : wordV (dig n) = n ∧ wordO (dig n) = true ∧ rg (dig n) = true ∧ (dig n).length ≤ 2 := by
  have r := rg_yes (word_top h)
  have k : rg (dig n) = true ∧ val (dig n) < 18446744073709551616 := ⟨r, by rw [val_dig]; exact h⟩
  refine ⟨?_, decide_eq_true k, r, (Pos.dig_len two_B n 2).2 (Nat.lt_of_lt_of_le h (by decide))⟩
  unfold wordV; rw [if_pos k, val_dig]
end Nt
theorem ofc {G : World → Prop} (C : NatC G) {n : Nat} {x : Int} (e : x = n) (h : n < 18446744073709551616) (w : World) (g : G w) :
    Calls Tryd.prog 22 #[.int .u64 x] w fun e w' => ∃ a k c, e = .returned (.slice a k c) ∧ Lm w' (.slice a k c) (Nt.dig n) ∧ Below w.heap.size w w' := by
  subst e
  have := C.of (n : Int) w (by omega) (by omega) g
  rw [Int.toNat_natCast] at this; exact this
theorem uintc {G : World → Prop} (C : NatC G) {l : List Nat} {x : Int} {b : Bool} (e : Nt.wordV l = x) (f : Nt.wordO l = b) (v : Value) (w : World) (g : G w) (h : Lm w v l) :
    Calls Tryd.prog 24 #[v] w fun e w' => e = .returned (.tuple #[.int .u64 x, .bool b]) ∧ Below w.heap.size w w' := by
  have := C.uint v l w g h; rw [e, f] at this; exact this
theorem rightc {G : World → Prop} (C : NatC G) {l : List Nat} {b : Bool} (e : Nt.rg l = b) (v : Value) (w : World) (g : G w) (h : Lm w v l) :
    Calls Tryd.prog 18 #[v] w fun e w' => e = .returned (.bool b) ∧ Below w.heap.size w w' := by
  have := C.right v l w g h; rw [e] at this; exact this
set_option maxRecDepth 100000 in
set_option maxHeartbeats 3200000 in
theorem words_lt {G : World → Prop} (C : NatC G) (X Y : Nat) (w : World) (g : G w) (hx : X < 18446744073709551616) (hy : Y < 18446744073709551616) (hc : X < Y) :
    Calls Tryd.prog 7 #[.int .u64 (X : Nat), .int .u64 (Y : Nat)] w fun e w' => e = .returned (.bool true) ∧ Below w.heap.size w w' := by
  obtain ⟨x1, x2, x3, x4⟩ := Nt.word_ok hx
  obtain ⟨N, hN⟩ : ∃ N, N = (Nt.dig X).length := ⟨_, rfl⟩
  rw [← hN] at x4
  have HN := Lib.hid hN
  clear hN
  have OX := Lib.hid (ofc C (n := X) rfl hx)
  have OY := Lib.hid (ofc C (n := Y) rfl hy)
  have UX := Lib.hid (uintc C x1 x2)
  have RX := Lib.hid (rightc C x3)
  obtain ⟨A, hA⟩ : ∃ A, A = X / 4294967296 := ⟨_, rfl⟩
  obtain ⟨D, hD⟩ : ∃ D, D = Y / 4294967296 := ⟨_, rfl⟩
  have ad : A * D ≤ 4294967295 * 4294967295 := Nat.mul_le_mul (by omega) (by omega)
  have O1 := Lib.hid (ofc C (n := X / 2) (x := (X : Int) / 2) (by omega) (by omega))
  have O2 := Lib.hid (ofc C (n := Y / 2) (x := (Y : Int) / 2) (by omega) (by omega))
  have O3 := Lib.hid (ofc C (n := A) (x := (X : Int) / 4294967296) (by omega) (by omega))
  have O4 := Lib.hid (ofc C (n := D) (x := (Y : Int) / 4294967296) (by omega) (by omega))
  obtain ⟨s1, s2, _, _⟩ := Nt.word_ok (show X / 2 + Y / 2 < 18446744073709551616 by omega)
  obtain ⟨p1, p2, _, _⟩ := Nt.word_ok (show A * D < 18446744073709551616 by omega)
  have ea : Nt.addR (Nt.dig (X / 2)) (Nt.dig (Y / 2)) = (Nt.dig (X / 2 + Y / 2), 0) := by
    have := Nt.add_ok (Nt.rg_yes (Nt.word_top (show X / 2 < 18446744073709551616 by omega))) (Nt.rg_yes (Nt.word_top (show Y / 2 < 18446744073709551616 by omega))) (by simp only [Nt.val_dig]; exact Nt.word_top (by omega))
    simp only [Nt.val_dig] at this; exact this
  have em : Nt.mulR (Nt.dig A) (Nt.dig D) = (Nt.dig (A * D), 0) := by
    have := Nt.mul_ok (Nt.rg_yes (Nt.word_top (show A < 18446744073709551616 by omega))) (Nt.rg_yes (Nt.word_top (show D < 18446744073709551616 by omega))) (by simp only [Nt.val_dig]; exact Nt.word_top (by omega))
    simp only [Nt.val_dig] at this; exact this
  have FA := Lib.hid (addc C ea)
  have FM := Lib.hid (mulc C em)
  have US := Lib.hid (uintc C (x := (X : Int) / 2 + (Y : Int) / 2) (s1.trans (by omega)) s2)
  have hp : ((A * D : Nat) : Int) = (X : Int) / 4294967296 * ((Y : Int) / 4294967296) := by
    rw [Int.natCast_mul, hA, hD]; simp only [Int.natCast_ediv]; rfl
  obtain ⟨Q, hQ⟩ : ∃ Q, Q = (X : Int) / 4294967296 * ((Y : Int) / 4294967296) := ⟨_, rfl⟩
  rw [← hQ] at hp
  have q1 : 0 ≤ Q := by omega
  have q2 : Q ≤ 18446744073709551615 := by omega
  have UP := Lib.hid (uintc C (p1.trans hp) p2)
  have HQ := Lib.hid hQ
  have WQ : IntKind.u64.wrap ((X : Int) / 4294967296 * ((Y : Int) / 4294967296)) = Q := by
    rw [← hQ, show IntKind.u64.wrap Q = Q % 18446744073709551616 from rfl, Int.emod_eq_of_lt q1 (by omega)]
  have cc := Nt.cmp_ok (l := Nt.dig X) (m := Nt.dig Y) x3 (Nt.word_ok hy).2.2.1
  simp only [Nt.val_dig] at cc
  have FC := Lib.hid (cmpc C (cc.1.trans (Nt.ord_lt hc)) cc.2)
  have nd : Hid ((N : Int) ≤ 2) := by show _ ≤ _; omega
  obtain ⟨d1, d2, d3⟩ := Nt.div_ok (l := Nt.dig X) (m := Nt.dig Y) x3 (Nt.word_ok hy).2.2.1 (fun e => by have := Nt.val_dig Y; rw [e, Nt.val_nil] at this; omega)
  simp only [Nt.val_dig] at d1 d2
  have g1 : X / Y ≤ X := Nat.div_le_self _ _
  have g2 : X % Y ≤ X := Nat.mod_le _ _
  obtain ⟨u1, u2, _, _⟩ := Nt.word_ok (show X / Y < 18446744073709551616 by omega)
  obtain ⟨v1, v2, _, _⟩ := Nt.word_ok (show X % Y < 18446744073709551616 by omega)
  have FD := Lib.hid (fun v u w (g : G w) h h' => C.divmod v u (Nt.dig X) (Nt.dig Y) w g h h')
  rw [d1, d2, d3] at FD
  obtain ⟨q0, hq0⟩ : ∃ q0, ((X / Y : Nat) : Int) = q0 := ⟨_, rfl⟩
  obtain ⟨r0, hr0⟩ : ∃ r0, ((X % Y : Nat) : Int) = r0 := ⟨_, rfl⟩
  have UQ := Lib.hid (uintc C (u1.trans hq0) u2)
  have UR := Lib.hid (uintc C (v1.trans hr0) v2)
  have M1 : Hid ((q0 == (X : Int) / (Y : Int)) = true) := by show _ = _; rw [← hq0, Int.natCast_ediv]; exact beq_self_eq_true _
  have M2 : Hid ((r0 == (X : Int) % (Y : Int)) = true) := by show _ = _; rw [← hr0, Int.natCast_emod]; exact beq_self_eq_true _
  have M3 : Hid (q0 = IntKind.u64.wrap ((X : Int) / (Y : Int))) := by
    show _ = _
    have e : (X : Int) / (Y : Int) = q0 := by rw [← hq0, Int.natCast_ediv]
    rw [e, show IntKind.u64.wrap q0 = q0 % 18446744073709551616 from rfl, Int.emod_eq_of_lt (by rw [← hq0]; exact Int.natCast_nonneg _) (by rw [← hq0]; exact Int.ofNat_lt.2 (Nat.lt_of_le_of_lt g1 hx))]
  have y0 : ((Y : Int) == 0) = false := by simp; omega
  clear d1 d2 d3 g1 g2 u1 u2 v1 v2 hq0 hr0
  have l2 : ((X : Int) == (Y : Int)) = false := by simp; omega
  have W0 : Wd G w w := ⟨g, Below.refl _ _⟩
  clear g x1 x2 x3 hA hD ad s1 s2 p1 p2 ea em hp hQ cc q1 q2
  go_enter Tryd.func7, Tryd.ntmps7
  have nd := nd.out
  go_wp2_with (first | (go_at_call 12; (with_reducible refine (C.awake _ W0.g).mono ?_); rintro e w1 ⟨rfl, b1⟩; have W1 := W0.step C b1)  | (go_at_call 22; (with_reducible refine (OX.out _ W1.g).mono ?_); rintro e w2 ⟨ada, na, ca, rfl, La_2, b2⟩; have W2 := W1.step C b2; obtain ⟨_, za, _⟩ := La_2.cap; have za' : na = N := (by rw [HN.out]; exact za); clear za; subst za')  | (go_at_call 22; (with_reducible refine (OY.out _ W2.g).mono ?_); rintro e w3 ⟨adb, nb, cb, rfl, Lb_3, b3⟩; have W3 := W2.step C b3; have La_3 := La_2.below b3)  | (go_at_call 24; (with_reducible refine (UX.out _ _ W3.g La_3).mono ?_); rintro e w4 ⟨rfl, b4⟩; have W4 := W3.step C b4; have La_4 := La_3.below b4; have Lb_4 := Lb_3.below b4)  | (go_at_call 18; (with_reducible refine (RX.out _ _ W4.g La_4).mono ?_); rintro e w5 ⟨rfl, b5⟩; have W5 := W4.step C b5; have La_5 := La_4.below b5; have Lb_5 := Lb_4.below b5)  | (go_at_call 22; (with_reducible refine (O1.out _ W5.g).mono ?_); rintro e w6 ⟨adi1, ni1, ci1, rfl, Li1_6, b6⟩; have W6 := W5.step C b6; have La_6 := La_5.below b6; have Lb_6 := Lb_5.below b6)  | (go_at_call 22; (with_reducible refine (O2.out _ W6.g).mono ?_); rintro e w7 ⟨adi2, ni2, ci2, rfl, Li2_7, b7⟩; have W7 := W6.step C b7; have La_7 := La_6.below b7; have Lb_7 := Lb_6.below b7; have Li1_7 := Li1_6.below b7)  | (go_at_call 17; (with_reducible refine (FA.out _ _ _ W7.g Li1_7 Li2_7).mono ?_); rintro e w8 ⟨ads, ns, cs, rfl, Ls_8, b8⟩; have W8 := W7.step C b8; have La_8 := La_7.below b8; have Lb_8 := Lb_7.below b8)  | (go_at_call 22; (with_reducible refine (O3.out _ W8.g).mono ?_); rintro e w9 ⟨adi3, ni3, ci3, rfl, Li3_9, b9⟩; have W9 := W8.step C b9; have La_9 := La_8.below b9; have Lb_9 := Lb_8.below b9; have Ls_9 := Ls_8.below b9)  | (go_at_call 22; (with_reducible refine (O4.out _ W9.g).mono ?_); rintro e w10 ⟨adi4, ni4, ci4, rfl, Li4_10, b10⟩; have W10 := W9.step C b10; have La_10 := La_9.below b10; have Lb_10 := Lb_9.below b10; have Ls_10 := Ls_9.below b10; have Li3_10 := Li3_9.below b10)  | (go_at_call 16; (with_reducible refine (FM.out _ _ _ W10.g Li3_10 Li4_10).mono ?_); rintro e w11 ⟨adp, np, cp, rfl, Lp_11, b11⟩; have W11 := W10.step C b11; have La_11 := La_10.below b11; have Lb_11 := Lb_10.below b11; have Ls_11 := Ls_10.below b11)  | (go_at_call 24; (with_reducible refine (US.out _ _ W11.g Ls_11).mono ?_); rintro e w12 ⟨rfl, b12⟩; have W12 := W11.step C b12; have La_12 := La_11.below b12; have Lb_12 := Lb_11.below b12; have Lp_12 := Lp_11.below b12)  | (go_at_call 24; (with_reducible refine (UP.out _ _ W12.g Lp_12).mono ?_); rintro e w13 ⟨rfl, b13⟩; have W13 := W12.step C b13; have La_13 := La_12.below b13; have Lb_13 := Lb_12.below b13)  | (go_at_call 23; (with_reducible refine (FC.out _ _ _ W13.g La_13 Lb_13).mono ?_); rintro e w14 ⟨rfl, b14⟩; have W14 := W13.step C b14; have La_14 := La_13.below b14; have Lb_14 := Lb_13.below b14)  | (go_at_call 15; (with_reducible refine (FD.out _ _ _ W14.g La_14 Lb_14).mono ?_); rintro e w15 ⟨adq, nq, cq, adr, nr, cr, rfl, Lq_15, Lr_15, b15⟩; have W15 := W14.step C b15)  | (go_at_call 24; (with_reducible refine (UQ.out _ _ W15.g Lq_15).mono ?_); rintro e w16 ⟨rfl, b16⟩; have W16 := W15.step C b16; have Lr_16 := Lr_15.below b16)  | (go_at_call 24; (with_reducible refine (UR.out _ _ W16.g Lr_16).mono ?_); rintro e w17 ⟨rfl, b17⟩; have W17 := W16.step C b17))
  all_goals first | (exfalso; rename_i hh; exact hh M3.out) | (go_ret; exact ⟨ret_bool M2.out, W17.bl⟩)
set_option maxRecDepth 100000 in
set_option maxHeartbeats 3200000 in
theorem words_eq {G : World → Prop} (C : NatC G) (X : Nat) (w : World) (g : G w) (hx : X < 18446744073709551616) (hy : X < 18446744073709551616) (hY : 0 < X) :
    Calls Tryd.prog 7 #[.int .u64 (X : Nat), .int .u64 (X : Nat)] w fun e w' => e = .returned (.bool true) ∧ Below w.heap.size w w' := by
  obtain ⟨x1, x2, x3, x4⟩ := Nt.word_ok hx
  obtain ⟨N, hN⟩ : ∃ N, N = (Nt.dig X).length := ⟨_, rfl⟩
  rw [← hN] at x4
  have HN := Lib.hid hN
  clear hN
  have OX := Lib.hid (ofc C (n := X) rfl hx)
  have OY := Lib.hid (ofc C (n := X) rfl hy)
  have UX := Lib.hid (uintc C x1 x2)
  have RX := Lib.hid (rightc C x3)
  obtain ⟨A, hA⟩ : ∃ A, A = X / 4294967296 := ⟨_, rfl⟩
  obtain ⟨D, hD⟩ : ∃ D, D = X / 4294967296 := ⟨_, rfl⟩
  have ad : A * D ≤ 4294967295 * 4294967295 := Nat.mul_le_mul (by omega) (by omega)
  have O1 := Lib.hid (ofc C (n := X / 2) (x := (X : Int) / 2) (by omega) (by omega))
  have O2 := Lib.hid (ofc C (n := X / 2) (x := (X : Int) / 2) (by omega) (by omega))
  have O3 := Lib.hid (ofc C (n := A) (x := (X : Int) / 4294967296) (by omega) (by omega))
  have O4 := Lib.hid (ofc C (n := D) (x := (X : Int) / 4294967296) (by omega) (by omega))
  obtain ⟨s1, s2, _, _⟩ := Nt.word_ok (show X / 2 + X / 2 < 18446744073709551616 by omega)
  obtain ⟨p1, p2, _, _⟩ := Nt.word_ok (show A * D < 18446744073709551616 by omega)
  have ea : Nt.addR (Nt.dig (X / 2)) (Nt.dig (X / 2)) = (Nt.dig (X / 2 + X / 2), 0) := by
    have := Nt.add_ok (Nt.rg_yes (Nt.word_top (show X / 2 < 18446744073709551616 by omega))) (Nt.rg_yes (Nt.word_top (show X / 2 < 18446744073709551616 by omega))) (by simp only [Nt.val_dig]; exact Nt.word_top (by omega))
    simp only [Nt.val_dig] at this; exact this
  have em : Nt.mulR (Nt.dig A) (Nt.dig D) = (Nt.dig (A * D), 0) := by
    have := Nt.mul_ok (Nt.rg_yes (Nt.word_top (show A < 18446744073709551616 by omega))) (Nt.rg_yes (Nt.word_top (show D < 18446744073709551616 by omega))) (by simp only [Nt.val_dig]; exact Nt.word_top (by omega))
    simp only [Nt.val_dig] at this; exact this
  have FA := Lib.hid (addc C ea)
  have FM := Lib.hid (mulc C em)
  have US := Lib.hid (uintc C (x := (X : Int) / 2 + (X : Int) / 2) (s1.trans (by omega)) s2)
  have hp : ((A * D : Nat) : Int) = (X : Int) / 4294967296 * ((X : Int) / 4294967296) := by
    rw [Int.natCast_mul, hA, hD]; simp only [Int.natCast_ediv]; rfl
  obtain ⟨Q, hQ⟩ : ∃ Q, Q = (X : Int) / 4294967296 * ((X : Int) / 4294967296) := ⟨_, rfl⟩
  rw [← hQ] at hp
  have q1 : 0 ≤ Q := by omega
  have q2 : Q ≤ 18446744073709551615 := by omega
  have UP := Lib.hid (uintc C (p1.trans hp) p2)
  have HQ := Lib.hid hQ
  have WQ : IntKind.u64.wrap ((X : Int) / 4294967296 * ((X : Int) / 4294967296)) = Q := by
    rw [← hQ, show IntKind.u64.wrap Q = Q % 18446744073709551616 from rfl, Int.emod_eq_of_lt q1 (by omega)]
  have cc := Nt.cmp_ok (l := Nt.dig X) (m := Nt.dig X) x3 (Nt.word_ok hy).2.2.1
  simp only [Nt.val_dig] at cc
  have FC := Lib.hid (cmpc C (cc.1.trans (Nt.ord_eq rfl)) cc.2)
  have nd : Hid ((N : Int) ≤ 2) := by show _ ≤ _; omega
  obtain ⟨d1, d2, d3⟩ := Nt.div_ok (l := Nt.dig X) (m := Nt.dig X) x3 (Nt.word_ok hy).2.2.1 (fun e => by have := Nt.val_dig X; rw [e, Nt.val_nil] at this; omega)
  simp only [Nt.val_dig] at d1 d2
  have g1 : X / X ≤ X := Nat.div_le_self _ _
  have g2 : X % X ≤ X := Nat.mod_le _ _
  obtain ⟨u1, u2, _, _⟩ := Nt.word_ok (show X / X < 18446744073709551616 by omega)
  obtain ⟨v1, v2, _, _⟩ := Nt.word_ok (show X % X < 18446744073709551616 by omega)
  have FD := Lib.hid (fun v u w (g : G w) h h' => C.divmod v u (Nt.dig X) (Nt.dig X) w g h h')
  rw [d1, d2, d3] at FD
  obtain ⟨q0, hq0⟩ : ∃ q0, ((X / X : Nat) : Int) = q0 := ⟨_, rfl⟩
  obtain ⟨r0, hr0⟩ : ∃ r0, ((X % X : Nat) : Int) = r0 := ⟨_, rfl⟩
  have UQ := Lib.hid (uintc C (u1.trans hq0) u2)
  have UR := Lib.hid (uintc C (v1.trans hr0) v2)
  have M1 : Hid ((q0 == (X : Int) / (X : Int)) = true) := by show _ = _; rw [← hq0, Int.natCast_ediv]; exact beq_self_eq_true _
  have M2 : Hid ((r0 == (X : Int) % (X : Int)) = true) := by show _ = _; rw [← hr0, Int.natCast_emod]; exact beq_self_eq_true _
  have M4 : Hid ((r0 == 0) = true) := by show _ = _; rw [← hr0, Nat.mod_self]; rfl
  have M3 : Hid (q0 = IntKind.u64.wrap ((X : Int) / (X : Int))) := by
    show _ = _
    have e : (X : Int) / (X : Int) = q0 := by rw [← hq0, Int.natCast_ediv]
    rw [e, show IntKind.u64.wrap q0 = q0 % 18446744073709551616 from rfl, Int.emod_eq_of_lt (by rw [← hq0]; exact Int.natCast_nonneg _) (by rw [← hq0]; exact Int.ofNat_lt.2 (Nat.lt_of_le_of_lt g1 hx))]
  have y0 : ((X : Int) == 0) = false := by simp; omega
  clear d1 d2 d3 g1 g2 u1 u2 v1 v2 hq0 hr0
  have W0 : Wd G w w := ⟨g, Below.refl _ _⟩
  clear g x1 x2 x3 hA hD ad s1 s2 p1 p2 ea em hp hQ cc q1 q2
  go_enter Tryd.func7, Tryd.ntmps7
  have nd := nd.out
  go_wp2_with (first | (go_at_call 12; (with_reducible refine (C.awake _ W0.g).mono ?_); rintro e w1 ⟨rfl, b1⟩; have W1 := W0.step C b1)  | (go_at_call 22; (with_reducible refine (OX.out _ W1.g).mono ?_); rintro e w2 ⟨ada, na, ca, rfl, La_2, b2⟩; have W2 := W1.step C b2; obtain ⟨_, za, _⟩ := La_2.cap; have za' : na = N := (by rw [HN.out]; exact za); clear za; subst za')  | (go_at_call 22; (with_reducible refine (OY.out _ W2.g).mono ?_); rintro e w3 ⟨adb, nb, cb, rfl, Lb_3, b3⟩; have W3 := W2.step C b3; have La_3 := La_2.below b3)  | (go_at_call 24; (with_reducible refine (UX.out _ _ W3.g La_3).mono ?_); rintro e w4 ⟨rfl, b4⟩; have W4 := W3.step C b4; have La_4 := La_3.below b4; have Lb_4 := Lb_3.below b4)  | (go_at_call 18; (with_reducible refine (RX.out _ _ W4.g La_4).mono ?_); rintro e w5 ⟨rfl, b5⟩; have W5 := W4.step C b5; have La_5 := La_4.below b5; have Lb_5 := Lb_4.below b5)  | (go_at_call 22; (with_reducible refine (O1.out _ W5.g).mono ?_); rintro e w6 ⟨adi1, ni1, ci1, rfl, Li1_6, b6⟩; have W6 := W5.step C b6; have La_6 := La_5.below b6; have Lb_6 := Lb_5.below b6)  | (go_at_call 22; (with_reducible refine (O2.out _ W6.g).mono ?_); rintro e w7 ⟨adi2, ni2, ci2, rfl, Li2_7, b7⟩; have W7 := W6.step C b7; have La_7 := La_6.below b7; have Lb_7 := Lb_6.below b7; have Li1_7 := Li1_6.below b7)  | (go_at_call 17; (with_reducible refine (FA.out _ _ _ W7.g Li1_7 Li2_7).mono ?_); rintro e w8 ⟨ads, ns, cs, rfl, Ls_8, b8⟩; have W8 := W7.step C b8; have La_8 := La_7.below b8; have Lb_8 := Lb_7.below b8)  | (go_at_call 22; (with_reducible refine (O3.out _ W8.g).mono ?_); rintro e w9 ⟨adi3, ni3, ci3, rfl, Li3_9, b9⟩; have W9 := W8.step C b9; have La_9 := La_8.below b9; have Lb_9 := Lb_8.below b9; have Ls_9 := Ls_8.below b9)  | (go_at_call 22; (with_reducible refine (O4.out _ W9.g).mono ?_); rintro e w10 ⟨adi4, ni4, ci4, rfl, Li4_10, b10⟩; have W10 := W9.step C b10; have La_10 := La_9.below b10; have Lb_10 := Lb_9.below b10; have Ls_10 := Ls_9.below b10; have Li3_10 := Li3_9.below b10)  | (go_at_call 16; (with_reducible refine (FM.out _ _ _ W10.g Li3_10 Li4_10).mono ?_); rintro e w11 ⟨adp, np, cp, rfl, Lp_11, b11⟩; have W11 := W10.step C b11; have La_11 := La_10.below b11; have Lb_11 := Lb_10.below b11; have Ls_11 := Ls_10.below b11)  | (go_at_call 24; (with_reducible refine (US.out _ _ W11.g Ls_11).mono ?_); rintro e w12 ⟨rfl, b12⟩; have W12 := W11.step C b12; have La_12 := La_11.below b12; have Lb_12 := Lb_11.below b12; have Lp_12 := Lp_11.below b12)  | (go_at_call 24; (with_reducible refine (UP.out _ _ W12.g Lp_12).mono ?_); rintro e w13 ⟨rfl, b13⟩; have W13 := W12.step C b13; have La_13 := La_12.below b13; have Lb_13 := Lb_12.below b13)  | (go_at_call 23; (with_reducible refine (FC.out _ _ _ W13.g La_13 Lb_13).mono ?_); rintro e w14 ⟨rfl, b14⟩; have W14 := W13.step C b14; have La_14 := La_13.below b14; have Lb_14 := Lb_13.below b14)  | (go_at_call 15; (with_reducible refine (FD.out _ _ _ W14.g La_14 Lb_14).mono ?_); rintro e w15 ⟨adq, nq, cq, adr, nr, cr, rfl, Lq_15, Lr_15, b15⟩; have W15 := W14.step C b15)  | (go_at_call 24; (with_reducible refine (UQ.out _ _ W15.g Lq_15).mono ?_); rintro e w16 ⟨rfl, b16⟩; have W16 := W15.step C b16; have Lr_16 := Lr_15.below b16)  | (go_at_call 24; (with_reducible refine (UR.out _ _ W16.g Lr_16).mono ?_); rintro e w17 ⟨rfl, b17⟩; have W17 := W16.step C b17))
  all_goals first | (exfalso; rename_i hh; exact hh M3.out) | (go_ret; exact ⟨ret_bool M4.out, W17.bl⟩)
set_option maxRecDepth 100000 in
set_option maxHeartbeats 3200000 in
theorem words_gt {G : World → Prop} (C : NatC G) (X Y : Nat) (w : World) (g : G w) (hx : X < 18446744073709551616) (hy : Y < 18446744073709551616) (hc : Y < X) (hY : 0 < Y) :
    Calls Tryd.prog 7 #[.int .u64 (X : Nat), .int .u64 (Y : Nat)] w fun e w' => e = .returned (.bool true) ∧ Below w.heap.size w w' := by
  obtain ⟨x1, x2, x3, x4⟩ := Nt.word_ok hx
  obtain ⟨N, hN⟩ : ∃ N, N = (Nt.dig X).length := ⟨_, rfl⟩
  rw [← hN] at x4
  have HN := Lib.hid hN
  clear hN
  have OX := Lib.hid (ofc C (n := X) rfl hx)
  have OY := Lib.hid (ofc C (n := Y) rfl hy)
  have UX := Lib.hid (uintc C x1 x2)
  have RX := Lib.hid (rightc C x3)
  obtain ⟨A, hA⟩ : ∃ A, A = X / 4294967296 := ⟨_, rfl⟩
  obtain ⟨D, hD⟩ : ∃ D, D = Y / 4294967296 := ⟨_, rfl⟩
  have ad : A * D ≤ 4294967295 * 4294967295 := Nat.mul_le_mul (by omega) (by omega)
  have O1 := Lib.hid (ofc C (n := X / 2) (x := (X : Int) / 2) (by omega) (by omega))
  have O2 := Lib.hid (ofc C (n := Y / 2) (x := (Y : Int) / 2) (by omega) (by omega))
  have O3 := Lib.hid (ofc C (n := A) (x := (X : Int) / 4294967296) (by omega) (by omega))
  have O4 := Lib.hid (ofc C (n := D) (x := (Y : Int) / 4294967296) (by omega) (by omega))
  obtain ⟨s1, s2, _, _⟩ := Nt.word_ok (show X / 2 + Y / 2 < 18446744073709551616 by omega)
  obtain ⟨p1, p2, _, _⟩ := Nt.word_ok (show A * D < 18446744073709551616 by omega)
  have ea : Nt.addR (Nt.dig (X / 2)) (Nt.dig (Y / 2)) = (Nt.dig (X / 2 + Y / 2), 0) := by
    have := Nt.add_ok (Nt.rg_yes (Nt.word_top (show X / 2 < 18446744073709551616 by omega))) (Nt.rg_yes (Nt.word_top (show Y / 2 < 18446744073709551616 by omega))) (by simp only [Nt.val_dig]; exact Nt.word_top (by omega))
    simp only [Nt.val_dig] at this; exact this
  have em : Nt.mulR (Nt.dig A) (Nt.dig D) = (Nt.dig (A * D), 0) := by
    have := Nt.mul_ok (Nt.rg_yes (Nt.word_top (show A < 18446744073709551616 by omega))) (Nt.rg_yes (Nt.word_top (show D < 18446744073709551616 by omega))) (by simp only [Nt.val_dig]; exact Nt.word_top (by omega))
    simp only [Nt.val_dig] at this; exact this
  have FA := Lib.hid (addc C ea)
  have FM := Lib.hid (mulc C em)
  have US := Lib.hid (uintc C (x := (X : Int) / 2 + (Y : Int) / 2) (s1.trans (by omega)) s2)
  have hp : ((A * D : Nat) : Int) = (X : Int) / 4294967296 * ((Y : Int) / 4294967296) := by
    rw [Int.natCast_mul, hA, hD]; simp only [Int.natCast_ediv]; rfl
  obtain ⟨Q, hQ⟩ : ∃ Q, Q = (X : Int) / 4294967296 * ((Y : Int) / 4294967296) := ⟨_, rfl⟩
  rw [← hQ] at hp
  have q1 : 0 ≤ Q := by omega
  have q2 : Q ≤ 18446744073709551615 := by omega
  have UP := Lib.hid (uintc C (p1.trans hp) p2)
  have HQ := Lib.hid hQ
  have WQ : IntKind.u64.wrap ((X : Int) / 4294967296 * ((Y : Int) / 4294967296)) = Q := by
    rw [← hQ, show IntKind.u64.wrap Q = Q % 18446744073709551616 from rfl, Int.emod_eq_of_lt q1 (by omega)]
  have cc := Nt.cmp_ok (l := Nt.dig X) (m := Nt.dig Y) x3 (Nt.word_ok hy).2.2.1
  simp only [Nt.val_dig] at cc
  have FC := Lib.hid (cmpc C (cc.1.trans (Nt.ord_gt hc)) cc.2)
  have nd : Hid ((N : Int) ≤ 2) := by show _ ≤ _; omega
  obtain ⟨d1, d2, d3⟩ := Nt.div_ok (l := Nt.dig X) (m := Nt.dig Y) x3 (Nt.word_ok hy).2.2.1 (fun e => by have := Nt.val_dig Y; rw [e, Nt.val_nil] at this; omega)
  simp only [Nt.val_dig] at d1 d2
  have g1 : X / Y ≤ X := Nat.div_le_self _ _
  have g2 : X % Y ≤ X := Nat.mod_le _ _
  obtain ⟨u1, u2, _, _⟩ := Nt.word_ok (show X / Y < 18446744073709551616 by omega)
  obtain ⟨v1, v2, _, _⟩ := Nt.word_ok (show X % Y < 18446744073709551616 by omega)
  have FD := Lib.hid (fun v u w (g : G w) h h' => C.divmod v u (Nt.dig X) (Nt.dig Y) w g h h')
  rw [d1, d2, d3] at FD
  obtain ⟨q0, hq0⟩ : ∃ q0, ((X / Y : Nat) : Int) = q0 := ⟨_, rfl⟩
  obtain ⟨r0, hr0⟩ : ∃ r0, ((X % Y : Nat) : Int) = r0 := ⟨_, rfl⟩
  have UQ := Lib.hid (uintc C (u1.trans hq0) u2)
  have UR := Lib.hid (uintc C (v1.trans hr0) v2)
  have M1 : Hid ((q0 == (X : Int) / (Y : Int)) = true) := by show _ = _; rw [← hq0, Int.natCast_ediv]; exact beq_self_eq_true _
  have M2 : Hid ((r0 == (X : Int) % (Y : Int)) = true) := by show _ = _; rw [← hr0, Int.natCast_emod]; exact beq_self_eq_true _
  have M3 : Hid (q0 = IntKind.u64.wrap ((X : Int) / (Y : Int))) := by
    show _ = _
    have e : (X : Int) / (Y : Int) = q0 := by rw [← hq0, Int.natCast_ediv]
    rw [e, show IntKind.u64.wrap q0 = q0 % 18446744073709551616 from rfl, Int.emod_eq_of_lt (by rw [← hq0]; exact Int.natCast_nonneg _) (by rw [← hq0]; exact Int.ofNat_lt.2 (Nat.lt_of_le_of_lt g1 hx))]
  have y0 : ((Y : Int) == 0) = false := by simp; omega
  clear d1 d2 d3 g1 g2 u1 u2 v1 v2 hq0 hr0
  have l2 : ((X : Int) == (Y : Int)) = false := by simp; omega
  have W0 : Wd G w w := ⟨g, Below.refl _ _⟩
  clear g x1 x2 x3 hA hD ad s1 s2 p1 p2 ea em hp hQ cc q1 q2
  go_enter Tryd.func7, Tryd.ntmps7
  have nd := nd.out
  go_wp2_with (first | (go_at_call 12; (with_reducible refine (C.awake _ W0.g).mono ?_); rintro e w1 ⟨rfl, b1⟩; have W1 := W0.step C b1)  | (go_at_call 22; (with_reducible refine (OX.out _ W1.g).mono ?_); rintro e w2 ⟨ada, na, ca, rfl, La_2, b2⟩; have W2 := W1.step C b2; obtain ⟨_, za, _⟩ := La_2.cap; have za' : na = N := (by rw [HN.out]; exact za); clear za; subst za')  | (go_at_call 22; (with_reducible refine (OY.out _ W2.g).mono ?_); rintro e w3 ⟨adb, nb, cb, rfl, Lb_3, b3⟩; have W3 := W2.step C b3; have La_3 := La_2.below b3)  | (go_at_call 24; (with_reducible refine (UX.out _ _ W3.g La_3).mono ?_); rintro e w4 ⟨rfl, b4⟩; have W4 := W3.step C b4; have La_4 := La_3.below b4; have Lb_4 := Lb_3.below b4)  | (go_at_call 18; (with_reducible refine (RX.out _ _ W4.g La_4).mono ?_); rintro e w5 ⟨rfl, b5⟩; have W5 := W4.step C b5; have La_5 := La_4.below b5; have Lb_5 := Lb_4.below b5)  | (go_at_call 22; (with_reducible refine (O1.out _ W5.g).mono ?_); rintro e w6 ⟨adi1, ni1, ci1, rfl, Li1_6, b6⟩; have W6 := W5.step C b6; have La_6 := La_5.below b6; have Lb_6 := Lb_5.below b6)  | (go_at_call 22; (with_reducible refine (O2.out _ W6.g).mono ?_); rintro e w7 ⟨adi2, ni2, ci2, rfl, Li2_7, b7⟩; have W7 := W6.step C b7; have La_7 := La_6.below b7; have Lb_7 := Lb_6.below b7; have Li1_7 := Li1_6.below b7)  | (go_at_call 17; (with_reducible refine (FA.out _ _ _ W7.g Li1_7 Li2_7).mono ?_); rintro e w8 ⟨ads, ns, cs, rfl, Ls_8, b8⟩; have W8 := W7.step C b8; have La_8 := La_7.below b8; have Lb_8 := Lb_7.below b8)  | (go_at_call 22; (with_reducible refine (O3.out _ W8.g).mono ?_); rintro e w9 ⟨adi3, ni3, ci3, rfl, Li3_9, b9⟩; have W9 := W8.step C b9; have La_9 := La_8.below b9; have Lb_9 := Lb_8.below b9; have Ls_9 := Ls_8.below b9)  | (go_at_call 22; (with_reducible refine (O4.out _ W9.g).mono ?_); rintro e w10 ⟨adi4, ni4, ci4, rfl, Li4_10, b10⟩; have W10 := W9.step C b10; have La_10 := La_9.below b10; have Lb_10 := Lb_9.below b10; have Ls_10 := Ls_9.below b10; have Li3_10 := Li3_9.below b10)  | (go_at_call 16; (with_reducible refine (FM.out _ _ _ W10.g Li3_10 Li4_10).mono ?_); rintro e w11 ⟨adp, np, cp, rfl, Lp_11, b11⟩; have W11 := W10.step C b11; have La_11 := La_10.below b11; have Lb_11 := Lb_10.below b11; have Ls_11 := Ls_10.below b11)  | (go_at_call 24; (with_reducible refine (US.out _ _ W11.g Ls_11).mono ?_); rintro e w12 ⟨rfl, b12⟩; have W12 := W11.step C b12; have La_12 := La_11.below b12; have Lb_12 := Lb_11.below b12; have Lp_12 := Lp_11.below b12)  | (go_at_call 24; (with_reducible refine (UP.out _ _ W12.g Lp_12).mono ?_); rintro e w13 ⟨rfl, b13⟩; have W13 := W12.step C b13; have La_13 := La_12.below b13; have Lb_13 := Lb_12.below b13)  | (go_at_call 23; (with_reducible refine (FC.out _ _ _ W13.g La_13 Lb_13).mono ?_); rintro e w14 ⟨rfl, b14⟩; have W14 := W13.step C b14; have La_14 := La_13.below b14; have Lb_14 := Lb_13.below b14)  | (go_at_call 15; (with_reducible refine (FD.out _ _ _ W14.g La_14 Lb_14).mono ?_); rintro e w15 ⟨adq, nq, cq, adr, nr, cr, rfl, Lq_15, Lr_15, b15⟩; have W15 := W14.step C b15)  | (go_at_call 24; (with_reducible refine (UQ.out _ _ W15.g Lq_15).mono ?_); rintro e w16 ⟨rfl, b16⟩; have W16 := W15.step C b16; have Lr_16 := Lr_15.below b16)  | (go_at_call 24; (with_reducible refine (UR.out _ _ W16.g Lr_16).mono ?_); rintro e w17 ⟨rfl, b17⟩; have W17 := W16.step C b17))
  all_goals first | (exfalso; rename_i hh; exact hh M3.out) | (go_ret; exact ⟨ret_bool M2.out, W17.bl⟩)
set_option maxRecDepth 100000 in
set_option maxHeartbeats 3200000 in
theorem words_eqz {G : World → Prop} (C : NatC G) (X : Nat) (w : World) (g : G w) (hx : X < 18446744073709551616) (hy : X < 18446744073709551616) (hY : X = 0) :
    Calls Tryd.prog 7 #[.int .u64 (X : Nat), .int .u64 (X : Nat)] w fun e w' => e = .returned (.bool true) ∧ Below w.heap.size w w' := by
  obtain ⟨x1, x2, x3, x4⟩ := Nt.word_ok hx
  obtain ⟨N, hN⟩ : ∃ N, N = (Nt.dig X).length := ⟨_, rfl⟩
  rw [← hN] at x4
  have HN := Lib.hid hN
  clear hN
  have OX := Lib.hid (ofc C (n := X) rfl hx)
  have OY := Lib.hid (ofc C (n := X) rfl hy)
  have UX := Lib.hid (uintc C x1 x2)
  have RX := Lib.hid (rightc C x3)
  obtain ⟨A, hA⟩ : ∃ A, A = X / 4294967296 := ⟨_, rfl⟩
  obtain ⟨D, hD⟩ : ∃ D, D = X / 4294967296 := ⟨_, rfl⟩
  have ad : A * D ≤ 4294967295 * 4294967295 := Nat.mul_le_mul (by omega) (by omega)
  have O1 := Lib.hid (ofc C (n := X / 2) (x := (X : Int) / 2) (by omega) (by omega))
  have O2 := Lib.hid (ofc C (n := X / 2) (x := (X : Int) / 2) (by omega) (by omega))
  have O3 := Lib.hid (ofc C (n := A) (x := (X : Int) / 4294967296) (by omega) (by omega))
  have O4 := Lib.hid (ofc C (n := D) (x := (X : Int) / 4294967296) (by omega) (by omega))
  obtain ⟨s1, s2, _, _⟩ := Nt.word_ok (show X / 2 + X / 2 < 18446744073709551616 by omega)
  obtain ⟨p1, p2, _, _⟩ := Nt.word_ok (show A * D < 18446744073709551616 by omega)
  have ea : Nt.addR (Nt.dig (X / 2)) (Nt.dig (X / 2)) = (Nt.dig (X / 2 + X / 2), 0) := by
    have := Nt.add_ok (Nt.rg_yes (Nt.word_top (show X / 2 < 18446744073709551616 by omega))) (Nt.rg_yes (Nt.word_top (show X / 2 < 18446744073709551616 by omega))) (by simp only [Nt.val_dig]; exact Nt.word_top (by omega))
    simp only [Nt.val_dig] at this; exact this
  have em : Nt.mulR (Nt.dig A) (Nt.dig D) = (Nt.dig (A * D), 0) := by
    have := Nt.mul_ok (Nt.rg_yes (Nt.word_top (show A < 18446744073709551616 by omega))) (Nt.rg_yes (Nt.word_top (show D < 18446744073709551616 by omega))) (by simp only [Nt.val_dig]; exact Nt.word_top (by omega))
    simp only [Nt.val_dig] at this; exact this
  have FA := Lib.hid (addc C ea)
  have FM := Lib.hid (mulc C em)
  have US := Lib.hid (uintc C (x := (X : Int) / 2 + (X : Int) / 2) (s1.trans (by omega)) s2)
  have hp : ((A * D : Nat) : Int) = (X : Int) / 4294967296 * ((X : Int) / 4294967296) := by
    rw [Int.natCast_mul, hA, hD]; simp only [Int.natCast_ediv]; rfl
  obtain ⟨Q, hQ⟩ : ∃ Q, Q = (X : Int) / 4294967296 * ((X : Int) / 4294967296) := ⟨_, rfl⟩
  rw [← hQ] at hp
  have q1 : 0 ≤ Q := by omega
  have q2 : Q ≤ 18446744073709551615 := by omega
  have UP := Lib.hid (uintc C (p1.trans hp) p2)
  have HQ := Lib.hid hQ
  have WQ : IntKind.u64.wrap ((X : Int) / 4294967296 * ((X : Int) / 4294967296)) = Q := by
    rw [← hQ, show IntKind.u64.wrap Q = Q % 18446744073709551616 from rfl, Int.emod_eq_of_lt q1 (by omega)]
  have cc := Nt.cmp_ok (l := Nt.dig X) (m := Nt.dig X) x3 (Nt.word_ok hy).2.2.1
  simp only [Nt.val_dig] at cc
  have FC := Lib.hid (cmpc C (cc.1.trans (Nt.ord_eq rfl)) cc.2)
  have nd : Hid ((N : Int) ≤ 2) := by show _ ≤ _; omega
  have y0 : ((X : Int) == 0) = true := by simp; omega
  have W0 : Wd G w w := ⟨g, Below.refl _ _⟩
  clear hY g x1 x2 x3 hA hD ad s1 s2 p1 p2 ea em hp hQ cc q1 q2
  go_enter Tryd.func7, Tryd.ntmps7
  have nd := nd.out
  go_wp2_with (first | (go_at_call 12; (with_reducible refine (C.awake _ W0.g).mono ?_); rintro e w1 ⟨rfl, b1⟩; have W1 := W0.step C b1)  | (go_at_call 22; (with_reducible refine (OX.out _ W1.g).mono ?_); rintro e w2 ⟨ada, na, ca, rfl, La_2, b2⟩; have W2 := W1.step C b2; obtain ⟨_, za, _⟩ := La_2.cap; have za' : na = N := (by rw [HN.out]; exact za); clear za; subst za')  | (go_at_call 22; (with_reducible refine (OY.out _ W2.g).mono ?_); rintro e w3 ⟨adb, nb, cb, rfl, Lb_3, b3⟩; have W3 := W2.step C b3; have La_3 := La_2.below b3)  | (go_at_call 24; (with_reducible refine (UX.out _ _ W3.g La_3).mono ?_); rintro e w4 ⟨rfl, b4⟩; have W4 := W3.step C b4; have La_4 := La_3.below b4; have Lb_4 := Lb_3.below b4)  | (go_at_call 18; (with_reducible refine (RX.out _ _ W4.g La_4).mono ?_); rintro e w5 ⟨rfl, b5⟩; have W5 := W4.step C b5; have La_5 := La_4.below b5; have Lb_5 := Lb_4.below b5)  | (go_at_call 22; (with_reducible refine (O1.out _ W5.g).mono ?_); rintro e w6 ⟨adi1, ni1, ci1, rfl, Li1_6, b6⟩; have W6 := W5.step C b6; have La_6 := La_5.below b6; have Lb_6 := Lb_5.below b6)  | (go_at_call 22; (with_reducible refine (O2.out _ W6.g).mono ?_); rintro e w7 ⟨adi2, ni2, ci2, rfl, Li2_7, b7⟩; have W7 := W6.step C b7; have La_7 := La_6.below b7; have Lb_7 := Lb_6.below b7; have Li1_7 := Li1_6.below b7)  | (go_at_call 17; (with_reducible refine (FA.out _ _ _ W7.g Li1_7 Li2_7).mono ?_); rintro e w8 ⟨ads, ns, cs, rfl, Ls_8, b8⟩; have W8 := W7.step C b8; have La_8 := La_7.below b8; have Lb_8 := Lb_7.below b8)  | (go_at_call 22; (with_reducible refine (O3.out _ W8.g).mono ?_); rintro e w9 ⟨adi3, ni3, ci3, rfl, Li3_9, b9⟩; have W9 := W8.step C b9; have La_9 := La_8.below b9; have Lb_9 := Lb_8.below b9; have Ls_9 := Ls_8.below b9)  | (go_at_call 22; (with_reducible refine (O4.out _ W9.g).mono ?_); rintro e w10 ⟨adi4, ni4, ci4, rfl, Li4_10, b10⟩; have W10 := W9.step C b10; have La_10 := La_9.below b10; have Lb_10 := Lb_9.below b10; have Ls_10 := Ls_9.below b10; have Li3_10 := Li3_9.below b10)  | (go_at_call 16; (with_reducible refine (FM.out _ _ _ W10.g Li3_10 Li4_10).mono ?_); rintro e w11 ⟨adp, np, cp, rfl, Lp_11, b11⟩; have W11 := W10.step C b11; have La_11 := La_10.below b11; have Lb_11 := Lb_10.below b11; have Ls_11 := Ls_10.below b11)  | (go_at_call 24; (with_reducible refine (US.out _ _ W11.g Ls_11).mono ?_); rintro e w12 ⟨rfl, b12⟩; have W12 := W11.step C b12; have La_12 := La_11.below b12; have Lb_12 := Lb_11.below b12; have Lp_12 := Lp_11.below b12)  | (go_at_call 24; (with_reducible refine (UP.out _ _ W12.g Lp_12).mono ?_); rintro e w13 ⟨rfl, b13⟩; have W13 := W12.step C b13; have La_13 := La_12.below b13; have Lb_13 := Lb_12.below b13)  | (go_at_call 23; (with_reducible refine (FC.out _ _ _ W13.g La_13 Lb_13).mono ?_); rintro e w14 ⟨rfl, b14⟩; have W14 := W13.step C b14))
  go_ret
  exact ⟨rfl, W14.bl⟩
set_option maxRecDepth 100000 in
set_option maxHeartbeats 3200000 in
theorem words_gtz {G : World → Prop} (C : NatC G) (X Y : Nat) (w : World) (g : G w) (hx : X < 18446744073709551616) (hy : Y < 18446744073709551616) (hc : Y < X) (hY : Y = 0) :
    Calls Tryd.prog 7 #[.int .u64 (X : Nat), .int .u64 (Y : Nat)] w fun e w' => e = .returned (.bool true) ∧ Below w.heap.size w w' := by
  obtain ⟨x1, x2, x3, x4⟩ := Nt.word_ok hx
  obtain ⟨N, hN⟩ : ∃ N, N = (Nt.dig X).length := ⟨_, rfl⟩
  rw [← hN] at x4
  have HN := Lib.hid hN
  clear hN
  have OX := Lib.hid (ofc C (n := X) rfl hx)
  have OY := Lib.hid (ofc C (n := Y) rfl hy)
  have UX := Lib.hid (uintc C x1 x2)
  have RX := Lib.hid (rightc C x3)
  obtain ⟨A, hA⟩ : ∃ A, A = X / 4294967296 := ⟨_, rfl⟩
  obtain ⟨D, hD⟩ : ∃ D, D = Y / 4294967296 := ⟨_, rfl⟩
  have ad : A * D ≤ 4294967295 * 4294967295 := Nat.mul_le_mul (by omega) (by omega)
  have O1 := Lib.hid (ofc C (n := X / 2) (x := (X : Int) / 2) (by omega) (by omega))
  have O2 := Lib.hid (ofc C (n := Y / 2) (x := (Y : Int) / 2) (by omega) (by omega))
  have O3 := Lib.hid (ofc C (n := A) (x := (X : Int) / 4294967296) (by omega) (by omega))
  have O4 := Lib.hid (ofc C (n := D) (x := (Y : Int) / 4294967296) (by omega) (by omega))
  obtain ⟨s1, s2, _, _⟩ := Nt.word_ok (show X / 2 + Y / 2 < 18446744073709551616 by omega)
  obtain ⟨p1, p2, _, _⟩ := Nt.word_ok (show A * D < 18446744073709551616 by omega)
  have ea : Nt.addR (Nt.dig (X / 2)) (Nt.dig (Y / 2)) = (Nt.dig (X / 2 + Y / 2), 0) := by
    have := Nt.add_ok (Nt.rg_yes (Nt.word_top (show X / 2 < 18446744073709551616 by omega))) (Nt.rg_yes (Nt.word_top (show Y / 2 < 18446744073709551616 by omega))) (by simp only [Nt.val_dig]; exact Nt.word_top (by omega))
    simp only [Nt.val_dig] at this; exact this
  have em : Nt.mulR (Nt.dig A) (Nt.dig D) = (Nt.dig (A * D), 0) := by
    have := Nt.mul_ok (Nt.rg_yes (Nt.word_top (show A < 18446744073709551616 by omega))) (Nt.rg_yes (Nt.word_top (show D < 18446744073709551616 by omega))) (by simp only [Nt.val_dig]; exact Nt.word_top (by omega))
    simp only [Nt.val_dig] at this; exact this
  have FA := Lib.hid (addc C ea)
  have FM := Lib.hid (mulc C em)
  have US := Lib.hid (uintc C (x := (X : Int) / 2 + (Y : Int) / 2) (s1.trans (by omega)) s2)
  have hp : ((A * D : Nat) : Int) = (X : Int) / 4294967296 * ((Y : Int) / 4294967296) := by
    rw [Int.natCast_mul, hA, hD]; simp only [Int.natCast_ediv]; rfl
  obtain ⟨Q, hQ⟩ : ∃ Q, Q = (X : Int) / 4294967296 * ((Y : Int) / 4294967296) := ⟨_, rfl⟩
  rw [← hQ] at hp
  have q1 : 0 ≤ Q := by omega
  have q2 : Q ≤ 18446744073709551615 := by omega
  have UP := Lib.hid (uintc C (p1.trans hp) p2)
  have HQ := Lib.hid hQ
  have WQ : IntKind.u64.wrap ((X : Int) / 4294967296 * ((Y : Int) / 4294967296)) = Q := by
    rw [← hQ, show IntKind.u64.wrap Q = Q % 18446744073709551616 from rfl, Int.emod_eq_of_lt q1 (by omega)]
  have cc := Nt.cmp_ok (l := Nt.dig X) (m := Nt.dig Y) x3 (Nt.word_ok hy).2.2.1
  simp only [Nt.val_dig] at cc
  have FC := Lib.hid (cmpc C (cc.1.trans (Nt.ord_gt hc)) cc.2)
  have nd : Hid ((N : Int) ≤ 2) := by show _ ≤ _; omega
  have y0 : ((Y : Int) == 0) = true := by simp; omega
  have l2 : ((X : Int) == (Y : Int)) = false := by simp; omega
  have W0 : Wd G w w := ⟨g, Below.refl _ _⟩
  clear hY g x1 x2 x3 hA hD ad s1 s2 p1 p2 ea em hp hQ cc q1 q2
  go_enter Tryd.func7, Tryd.ntmps7
  have nd := nd.out
  go_wp2_with (first | (go_at_call 12; (with_reducible refine (C.awake _ W0.g).mono ?_); rintro e w1 ⟨rfl, b1⟩; have W1 := W0.step C b1)  | (go_at_call 22; (with_reducible refine (OX.out _ W1.g).mono ?_); rintro e w2 ⟨ada, na, ca, rfl, La_2, b2⟩; have W2 := W1.step C b2; obtain ⟨_, za, _⟩ := La_2.cap; have za' : na = N := (by rw [HN.out]; exact za); clear za; subst za')  | (go_at_call 22; (with_reducible refine (OY.out _ W2.g).mono ?_); rintro e w3 ⟨adb, nb, cb, rfl, Lb_3, b3⟩; have W3 := W2.step C b3; have La_3 := La_2.below b3)  | (go_at_call 24; (with_reducible refine (UX.out _ _ W3.g La_3).mono ?_); rintro e w4 ⟨rfl, b4⟩; have W4 := W3.step C b4; have La_4 := La_3.below b4; have Lb_4 := Lb_3.below b4)  | (go_at_call 18; (with_reducible refine (RX.out _ _ W4.g La_4).mono ?_); rintro e w5 ⟨rfl, b5⟩; have W5 := W4.step C b5; have La_5 := La_4.below b5; have Lb_5 := Lb_4.below b5)  | (go_at_call 22; (with_reducible refine (O1.out _ W5.g).mono ?_); rintro e w6 ⟨adi1, ni1, ci1, rfl, Li1_6, b6⟩; have W6 := W5.step C b6; have La_6 := La_5.below b6; have Lb_6 := Lb_5.below b6)  | (go_at_call 22; (with_reducible refine (O2.out _ W6.g).mono ?_); rintro e w7 ⟨adi2, ni2, ci2, rfl, Li2_7, b7⟩; have W7 := W6.step C b7; have La_7 := La_6.below b7; have Lb_7 := Lb_6.below b7; have Li1_7 := Li1_6.below b7)  | (go_at_call 17; (with_reducible refine (FA.out _ _ _ W7.g Li1_7 Li2_7).mono ?_); rintro e w8 ⟨ads, ns, cs, rfl, Ls_8, b8⟩; have W8 := W7.step C b8; have La_8 := La_7.below b8; have Lb_8 := Lb_7.below b8)  | (go_at_call 22; (with_reducible refine (O3.out _ W8.g).mono ?_); rintro e w9 ⟨adi3, ni3, ci3, rfl, Li3_9, b9⟩; have W9 := W8.step C b9; have La_9 := La_8.below b9; have Lb_9 := Lb_8.below b9; have Ls_9 := Ls_8.below b9)  | (go_at_call 22; (with_reducible refine (O4.out _ W9.g).mono ?_); rintro e w10 ⟨adi4, ni4, ci4, rfl, Li4_10, b10⟩; have W10 := W9.step C b10; have La_10 := La_9.below b10; have Lb_10 := Lb_9.below b10; have Ls_10 := Ls_9.below b10; have Li3_10 := Li3_9.below b10)  | (go_at_call 16; (with_reducible refine (FM.out _ _ _ W10.g Li3_10 Li4_10).mono ?_); rintro e w11 ⟨adp, np, cp, rfl, Lp_11, b11⟩; have W11 := W10.step C b11; have La_11 := La_10.below b11; have Lb_11 := Lb_10.below b11; have Ls_11 := Ls_10.below b11)  | (go_at_call 24; (with_reducible refine (US.out _ _ W11.g Ls_11).mono ?_); rintro e w12 ⟨rfl, b12⟩; have W12 := W11.step C b12; have La_12 := La_11.below b12; have Lb_12 := Lb_11.below b12; have Lp_12 := Lp_11.below b12)  | (go_at_call 24; (with_reducible refine (UP.out _ _ W12.g Lp_12).mono ?_); rintro e w13 ⟨rfl, b13⟩; have W13 := W12.step C b13; have La_13 := La_12.below b13; have Lb_13 := Lb_12.below b13)  | (go_at_call 23; (with_reducible refine (FC.out _ _ _ W13.g La_13 Lb_13).mono ?_); rintro e w14 ⟨rfl, b14⟩; have W14 := W13.step C b14))
  go_ret
  exact ⟨rfl, W14.bl⟩
theorem words_any {G : World → Prop} (C : NatC G) (X Y : Nat) (w : World) (g : G w) (hx : X < 18446744073709551616) (hy : Y < 18446744073709551616) :
    Calls Tryd.prog 7 #[.int .u64 (X : Nat), .int .u64 (Y : Nat)] w fun e w' => e = .returned (.bool true) ∧ Below w.heap.size w w' := by
  rcases Nat.lt_trichotomy X Y with c | c | c
  · exact words_lt C X Y w g hx hy c
  · subst c
    by_cases z : X = 0
    · exact words_eqz C X w g hx hx z
    · exact words_eq C X w g hx hx (by omega)
  · by_cases z : Y = 0
    · exact words_gtz C X Y w g hx hy c z
    · exact words_gt C X Y w g hx hy c (by omega)
end Go.Proofs.YtlmigbfpdbkkjaaDoor
