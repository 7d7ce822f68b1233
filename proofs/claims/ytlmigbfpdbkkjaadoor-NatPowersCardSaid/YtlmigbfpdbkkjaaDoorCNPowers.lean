/- NatPowers: its walk, from the contracts of layer 3's functions. -/
import Derived.Test.YtlmigbfpdbkkjaaDoorCNRing
import Derived.Test.YtlmigbfpdbkkjaaDoorTc
namespace Go.Proofs.YtlmigbfpdbkkjaaDoor
open Go.RowKit

namespace Nt
theorem pow_small {z e n : Nat} (hz : z ≤ B ^ e) (hn : e * n ≤ 1000) : z ^ n < top := by
  obtain ⟨k, hk⟩ : ∃ k, k = 1024 := ⟨_, rfl⟩
  rw [top_pow hk]
  refine Nat.lt_of_le_of_lt (Nat.pow_le_pow_left hz n) ?_
  rw [← Nat.pow_mul]
  exact Nat.pow_lt_pow_right (by decide) (by omega)
theorem pow_ok {l : List Nat} {n : Nat} {x : Int} (hx : x = (n : Nat)) (h : rg l = true) (s : val l ^ n < top) : powR l x = (dig (val l ^ n), 0) := by
  subst hx
  unfold powR numR
  rw [if_pos ⟨h, Int.natCast_nonneg _⟩, Int.toNat_natCast, if_pos s]
/-- Powers of numbers of up to 8 limbs, exponents up to 20. -/
theorem powers {a b : List Nat} (ha : Fit a) (hb : Fit b) (ra : rg a = true) (rb : rg b = true) (ka : a.length ≤ 8) (kb : b.length ≤ 8) {i k : Nat} (hi : i ≤ 20) (hk : k ≤ 20) :
    let x := val a; let y := val b
    powR a i = (dig (x ^ i), 0) ∧ powR a k = (dig (x ^ k), 0) ∧ mulR (dig (x ^ i)) (dig (x ^ k)) = (dig (x ^ (i + k)), 0) ∧ powR a ((i : Int) + (k : Int)) = (dig (x ^ (i + k)), 0) ∧
    mulR a b = (dig (x * y), 0) ∧ powR (dig (x * y)) i = (dig ((x * y) ^ i), 0) ∧ powR b i = (dig (y ^ i), 0) ∧ mulR (dig (x ^ i)) (dig (y ^ i)) = (dig ((x * y) ^ i), 0) ∧
    (dig (x ^ (i + k))).length ≤ 1000000 ∧ (dig ((x * y) ^ i)).length ≤ 1000000 := by
  intro x y
  obtain ⟨e, he⟩ : ∃ e, e = 8 := ⟨_, rfl⟩
  have bd : ∀ {l : List Nat}, Fit l → l.length ≤ 8 → val l ≤ B ^ e := fun {l} h k => Nat.le_of_lt (Nat.lt_of_lt_of_le (Pos.val_lt h) (Nat.pow_le_pow_right (by decide) (by rw [he]; exact k)))
  have hx : x ≤ B ^ e := bd ha ka
  have hy : y ≤ B ^ e := bd hb kb
  have hxy : x * y ≤ B ^ (e + e) := by rw [Nat.pow_add]; exact Nat.mul_le_mul hx hy
  have px : ∀ n, n ≤ 40 → x ^ n < top := fun n hn => pow_small hx (by subst he; omega)
  have py : ∀ n, n ≤ 40 → y ^ n < top := fun n hn => pow_small hy (by subst he; omega)
  have pxy : ∀ n, n ≤ 20 → (x * y) ^ n < top := fun n hn => pow_small hxy (by subst he; omega)
  have txy : x * y < top := by have := pxy 1 (by decide); rw [Nat.pow_one] at this; exact this
  have L : ∀ {n : Nat}, n < top → (dig n).length ≤ 1000000 := fun {n} h => by
    have := ((rg_iff _).1 (rg_yes h)).1; omega
  have e1 : x ^ i * x ^ k = x ^ (i + k) := (Nat.pow_add _ _ _).symm
  have e2 : x ^ i * y ^ i = (x * y) ^ i := (Nat.mul_pow _ _ _).symm
  refine ⟨pow_ok rfl ra (px i (by omega)), pow_ok rfl ra (px k (by omega)), ?_, pow_ok (by omega) ra (px (i + k) (by omega)), mul_ok ra rb txy, ?_, pow_ok rfl rb (py i (by omega)), ?_, L (px (i + k) (by omega)), L (pxy i hi)⟩
  · have := mul_ok (rg_yes (px i (by omega))) (rg_yes (px k (by omega))) (by rw [val_dig, val_dig, e1]; exact px (i + k) (by omega))
    rw [val_dig, val_dig, e1] at this; exact this
  · have := pow_ok (l := dig (x * y)) (n := i) rfl (rg_yes txy) (by rw [val_dig]; exact pxy i hi)
    rw [val_dig] at this; exact this
  · have := mul_ok (rg_yes (px i (by omega))) (rg_yes (py i (by omega))) (by rw [val_dig, val_dig, e2]; exact pxy i hi)
    rw [val_dig, val_dig, e2] at this; exact this
end Nt
theorem powc {l r : List Nat} {n x : Int} (hn : n < 9223372036854775808) (e : Nt.powR l n = (r, x)) (v : Value) (w : World) (_ : True) (h : Lm w v l) :
    Calls Tryd.prog 27 #[v, .int .i64 n] w fun e w' => ∃ a n2 c, e = .returned (.tuple #[.slice a n2 c, .int .i64 x]) ∧ Lm w' (.slice a n2 c) r ∧ Below w.heap.size w w' := by
  have := pow3_any v l n w h hn; rw [e] at this; exact this
set_option maxRecDepth 100000 in
set_option maxHeartbeats 3200000 in
theorem powers_any (va vb : Value) (M K : Nat) (l m : List Nat) (w : World) (h : Lm w va l) (h' : Lm w vb m) (hl : l.length ≤ 9223372036854775807) (hl' : m.length ≤ 9223372036854775807) (hM : M < 256) (hK : K < 256) :
    Calls Tryd.prog 9 #[va, vb, .int .u8 (M : Nat), .int .u8 (K : Nat)] w fun e w' => e = .returned (.bool true) ∧ Below w.heap.size w w' := by
  have C := natc
  obtain ⟨ra, fa, ka⟩ := Nt.num_ok h.fit 8 (by omega)
  obtain ⟨rb, fb, kb⟩ := Nt.num_ok h'.fit 8 (by omega)
  obtain ⟨A, hA⟩ : ∃ A, Nt.num l 8 = A := ⟨_, rfl⟩
  obtain ⟨B, hB⟩ : ∃ B, Nt.num m 8 = B := ⟨_, rfl⟩
  have NA := Lib.hid (numc 8 (by omega) va l w h hl hA (x := 8) rfl)
  have NB := Lib.hid (numc 8 (by omega) vb m w h' hl' hB (x := 8) rfl)
  rw [hA] at ra fa ka
  rw [hB] at rb fb kb
  obtain ⟨i, hi⟩ : ∃ i, i = M % 21 := ⟨_, rfl⟩
  obtain ⟨k, hk⟩ : ∃ k, k = K % 21 := ⟨_, rfl⟩
  have EI : (M : Int) % 21 = (i : Int) := by omega
  have EK : (K : Int) % 21 = (k : Int) := by omega
  have i20 : i ≤ 20 := by omega
  have k20 : k ≤ 20 := by omega
  obtain ⟨e1, e2, e3, e4, e5, e6, e7, e8, s1, s2⟩ := Nt.powers fa fb ra rb ka kb i20 k20
  have F1 := Lib.hid (powc (by omega) e1)
  have F2 := Lib.hid (powc (by omega) e2)
  have F3 := Lib.hid (mulc C e3)
  have F4 := Lib.hid (powc (by omega) e4)
  have F5 := Lib.hid (mulc C e5)
  have F6 := Lib.hid (powc (by omega) e6)
  have F7 := Lib.hid (powc (by omega) e7)
  have F8 := Lib.hid (mulc C e8)
  have S1 := Lib.hid (samec s1)
  have S2 := Lib.hid (samec s2)
  have W0 : Wd (fun _ => True) w w := ⟨trivial, Below.refl _ _⟩
  clear e1 e2 e3 e4 e5 e6 e7 e8 s1 s2 hA hB h h' hl hl' ka kb hi hk ra rb fa fb
  go_enter Tryd.func9, Tryd.ntmps9
  go_wp2_with (first | (go_at_call 12; (with_reducible refine (C.awake _ W0.g).mono ?_); rintro e w1 ⟨rfl, b1⟩; have W1 := W0.step C b1)  | (go_at_call 14; (with_reducible refine (NA.out _ W1.bl).mono ?_); rintro e w2 ⟨ada, na, ca, rfl, La_2, b2⟩; have W2 := W1.step C b2)  | (go_at_call 14; (with_reducible refine (NB.out _ W2.bl).mono ?_); rintro e w3 ⟨adb, nb, cb, rfl, Lb_3, b3⟩; have W3 := W2.step C b3; have La_3 := La_2.below b3)  | (go_at_call 27; (with_reducible refine (F1.out _ _ W3.g La_3).mono ?_); rintro e w4 ⟨adp, np, cp, rfl, Lp_4, b4⟩; have W4 := W3.step C b4; have La_4 := La_3.below b4; have Lb_4 := Lb_3.below b4)  | (go_at_call 27; (with_reducible refine (F2.out _ _ W4.g La_4).mono ?_); rintro e w5 ⟨adq, nq, cq, rfl, Lq_5, b5⟩; have W5 := W4.step C b5; have La_5 := La_4.below b5; have Lb_5 := Lb_4.below b5; have Lp_5 := Lp_4.below b5)  | (go_at_call 16; (with_reducible refine (F3.out _ _ _ W5.g Lp_5 Lq_5).mono ?_); rintro e w6 ⟨adbo, nbo, cbo, rfl, Lbo_6, b6⟩; have W6 := W5.step C b6; have La_6 := La_5.below b6; have Lb_6 := Lb_5.below b6; have Lp_6 := Lp_5.below b6)  | (go_at_call 27; (with_reducible refine (F4.out _ _ W6.g La_6).mono ?_); rintro e w7 ⟨adsu, nsu, csu, rfl, Lsu_7, b7⟩; have W7 := W6.step C b7; have La_7 := La_6.below b7; have Lb_7 := Lb_6.below b7; have Lp_7 := Lp_6.below b7; have Lbo_7 := Lbo_6.below b7)  | (go_at_call 20; (with_reducible refine (S1.out _ _ _ Lbo_7 Lsu_7).mono ?_); rintro e w8 ⟨rfl, q8⟩; have b8 := q8.bl; have W8 := W7.step C b8; have La_8 := La_7.below b8; have Lb_8 := Lb_7.below b8; have Lp_8 := Lp_7.below b8)  | (go_at_call 16; (with_reducible refine (F5.out _ _ _ W8.g La_8 Lb_8).mono ?_); rintro e w9 ⟨adab, nab, cab, rfl, Lab_9, b9⟩; have W9 := W8.step C b9; have Lb_9 := Lb_8.below b9; have Lp_9 := Lp_8.below b9)  | (go_at_call 27; (with_reducible refine (F6.out _ _ W9.g Lab_9).mono ?_); rintro e w10 ⟨adr, nr, cr, rfl, Lr_10, b10⟩; have W10 := W9.step C b10; have Lb_10 := Lb_9.below b10; have Lp_10 := Lp_9.below b10)  | (go_at_call 27; (with_reducible refine (F7.out _ _ W10.g Lb_10).mono ?_); rintro e w11 ⟨ads, ns, cs, rfl, Ls_11, b11⟩; have W11 := W10.step C b11; have Lp_11 := Lp_10.below b11; have Lr_11 := Lr_10.below b11)  | (go_at_call 16; (with_reducible refine (F8.out _ _ _ W11.g Lp_11 Ls_11).mono ?_); rintro e w12 ⟨adt, nt, ct, rfl, Lt_12, b12⟩; have W12 := W11.step C b12; have Lr_12 := Lr_11.below b12)  | (go_at_call 20; (with_reducible refine (S2.out _ _ _ Lr_12 Lt_12).mono ?_); rintro e w13 ⟨rfl, q13⟩; have b13 := q13.bl; have W13 := W12.step C b13))
  go_ret
  exact ⟨rfl, W13.bl⟩
end Go.Proofs.YtlmigbfpdbkkjaaDoor
