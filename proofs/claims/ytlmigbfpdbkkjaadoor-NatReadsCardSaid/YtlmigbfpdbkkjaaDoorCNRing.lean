/- NatRing: its walk, from the contracts of layer 3's functions. -/
import Derived.Test.YtlmigbfpdbkkjaaDoorCNDivides
namespace Go.Proofs.YtlmigbfpdbkkjaaDoor
open Go.RowKit

namespace Nt
/-- Numbers of up to 300 limbs: what is made of three of them fits. -/
theorem rings {a b c : List Nat} (ha : Fit a) (hb : Fit b) (hc : Fit c) (ra : rg a = true) (rb : rg b = true) (rc : rg c = true) (ka : a.length ≤ 300) (kb : b.length ≤ 300) (kc : c.length ≤ 300) :
    let x := val a; let y := val b; let z := val c
    addR a b = (dig (x + y), 0) ∧ addR b a = (dig (x + y), 0) ∧ addR (dig (x + y)) c = (dig (x + y + z), 0) ∧ addR b c = (dig (y + z), 0) ∧ addR a (dig (y + z)) = (dig (x + y + z), 0) ∧ subR (dig (x + y)) b = (a, 0) ∧
    mulR a b = (dig (x * y), 0) ∧ mulR b a = (dig (x * y), 0) ∧ mulR (dig (x * y)) c = (dig (x * y * z), 0) ∧ mulR b c = (dig (y * z), 0) ∧ mulR a (dig (y * z)) = (dig (x * y * z), 0) ∧
    mulR a (dig (y + z)) = (dig (x * (y + z)), 0) ∧ mulR a c = (dig (x * z), 0) ∧ addR (dig (x * y)) (dig (x * z)) = (dig (x * (y + z)), 0) ∧ mulR a (dig 1) = (a, 0) ∧ mulR a [] = ([], 0) ∧ addR a [] = (a, 0) ∧
    (dig (x + y)).length ≤ 1000000 ∧ (dig (x + y + z)).length ≤ 1000000 ∧ a.length ≤ 1000000 ∧ (dig (x * y)).length ≤ 1000000 ∧ (dig (x * y * z)).length ≤ 1000000 ∧ (dig (x * (y + z))).length ≤ 1000000 := by
  intro x y z
  obtain ⟨e, he⟩ : ∃ e, e = 300 := ⟨_, rfl⟩
  have bd : ∀ {l : List Nat}, Fit l → l.length ≤ 300 → val l < B ^ e := fun {l} h k => Nat.lt_of_lt_of_le (Pos.val_lt h) (Nat.pow_le_pow_right (by decide) (by rw [he]; exact k))
  have hx := bd ha ka
  have hy := bd hb kb
  have hz := bd hc kc
  obtain ⟨K, hK⟩ : ∃ K, K = B ^ e := ⟨_, rfl⟩
  have k4 : 4 ≤ K := by
    rw [hK]
    have : B ^ 1 ≤ B ^ e := Nat.pow_le_pow_right (by decide) (by omega)
    rw [Nat.pow_one] at this
    exact Nat.le_trans (by decide) this
  have kt : K * K * K ≤ top := by
    obtain ⟨f, hf⟩ : ∃ f, f = 1024 := ⟨_, rfl⟩
    rw [hK, top_pow hf, ← Nat.pow_add, ← Nat.pow_add]
    exact Nat.pow_le_pow_right (by decide) (by omega)
  rw [← hK] at hx hy hz
  clear hK bd
  have hx : x < K := hx
  have hy : y < K := hy
  have hz : z < K := hz
  have kk : 4 * K ≤ K * K := Nat.mul_le_mul_right K k4
  have kkk : 4 * (K * K) ≤ K * K * K := by rw [Nat.mul_comm 4]; exact Nat.mul_le_mul_left (K * K) k4
  have xy : x * y < K * K := Nat.mul_lt_mul'' hx hy
  have yz : y * z < K * K := Nat.mul_lt_mul'' hy hz
  have xz : x * z < K * K := Nat.mul_lt_mul'' hx hz
  have xyz : x * y * z < K * K * K := Nat.mul_lt_mul'' xy hz
  have d : x * (y + z) = x * y + x * z := Nat.mul_add _ _ _
  have m3 : x * (y * z) = x * y * z := (Nat.mul_assoc _ _ _).symm
  have L : ∀ {n : Nat}, n < top → (dig n).length ≤ 1000000 := fun {n} h => by
    have := ((rg_iff _).1 (rg_yes h)).1; omega
  have ea : dig x = a := dig_of ha ra
  have add : ∀ {l m : List Nat} {n : Nat}, rg l = true → rg m = true → val l + val m = n → n < top → addR l m = (dig n, 0) := fun {l m n} h h' e t => by subst e; exact add_ok h h' t
  have mul : ∀ {l m : List Nat} {n : Nat}, rg l = true → rg m = true → val l * val m = n → n < top → mulR l m = (dig n, 0) := fun {l m n} h h' e t => by subst e; exact mul_ok h h' t
  have t1 : 1 < top := by omega
  refine ⟨add ra rb rfl (by omega), add rb ra (Nat.add_comm _ _) (by omega), add (rg_yes (by omega)) rc (by rw [val_dig]) (by omega), add rb rc rfl (by omega), add ra (rg_yes (by omega)) (by rw [val_dig]; show x + (y + z) = _; omega) (by omega), ?_,
    mul ra rb rfl (by omega), mul rb ra (Nat.mul_comm _ _) (by omega), mul (rg_yes (by omega)) rc (by rw [val_dig]) (by omega), mul rb rc rfl (by omega), mul ra (rg_yes (by omega)) (by rw [val_dig]; exact m3) (by omega),
    mul ra (rg_yes (by omega)) (by rw [val_dig]) (by omega), mul ra rc rfl (by omega), add (rg_yes (by omega)) (rg_yes (by omega)) (by rw [val_dig, val_dig]; exact d.symm) (by omega), ?_, ?_, ?_,
    L (by omega), L (by omega), by omega, L (by omega), L (by omega), L (by omega)⟩
  · have := sub_ok (l := dig (x + y)) (m := b) (rg_yes (by omega)) rb (by rw [val_dig]; show y ≤ x + y; omega)
    rw [this, val_dig]
    have : x + y - val b = x := by show x + y - y = x; omega
    rw [this, ea]
  · have := mul (l := a) (m := dig 1) (n := x) ra (rg_yes t1) (by rw [val_dig, Nat.mul_one]) (by omega)
    rw [this, ea]
  · have := mul (l := a) (m := []) (n := 0) ra rg_nil (by rw [val_nil, Nat.mul_zero]) (by omega)
    rw [this, dig_zero]
  · have := add (l := a) (m := []) (n := x) ra rg_nil (by rw [val_nil, Nat.add_zero]) (by omega)
    rw [this, ea]
end Nt
theorem addc {G : World → Prop} (C : NatC G) {l m r : List Nat} {x : Int} (e : Nt.addR l m = (r, x)) (v u : Value) (w : World) (g : G w) (h : Lm w v l) (h' : Lm w u m) :
    Calls Tryd.prog 17 #[v, u] w fun e w' => ∃ a n c, e = .returned (.tuple #[.slice a n c, .int .i64 x]) ∧ Lm w' (.slice a n c) r ∧ Below w.heap.size w w' := by
  have := C.add v u l m w g h h'; rw [e] at this; exact this
theorem subc {G : World → Prop} (C : NatC G) {l m r : List Nat} {x : Int} (e : Nt.subR l m = (r, x)) (v u : Value) (w : World) (g : G w) (h : Lm w v l) (h' : Lm w u m) :
    Calls Tryd.prog 21 #[v, u] w fun e w' => ∃ a n c, e = .returned (.tuple #[.slice a n c, .int .i64 x]) ∧ Lm w' (.slice a n c) r ∧ Below w.heap.size w w' := by
  have := C.sub v u l m w g h h'; rw [e] at this; exact this
theorem mulc {G : World → Prop} (C : NatC G) {l m r : List Nat} {x : Int} (e : Nt.mulR l m = (r, x)) (v u : Value) (w : World) (g : G w) (h : Lm w v l) (h' : Lm w u m) :
    Calls Tryd.prog 16 #[v, u] w fun e w' => ∃ a n c, e = .returned (.tuple #[.slice a n c, .int .i64 x]) ∧ Lm w' (.slice a n c) r ∧ Below w.heap.size w w' := by
  have := C.mul v u l m w g h h'; rw [e] at this; exact this
theorem samec {l : List Nat} (k : l.length ≤ 1000000) (v u : Value) (w : World) (h : Lm w v l) (h' : Lm w u l) :
    Calls Tryd.prog 20 #[v, u] w fun e w' => e = .returned (.bool true) ∧ Qt w w' := by
  have := same3_any v u l l w h h' k; rw [decide_eq_true rfl] at this; exact this
theorem numc (most : Nat) (hm : most ≤ 1024) (v : Value) (l : List Nat) (w : World) (h : Lm w v l) (hl : l.length ≤ 9223372036854775807) {r : List Nat} (hr : Nt.num l most = r) {x : Int} (hx : (most : Int) = x) :
    ∀ w', Below w.heap.size w w' → Calls Tryd.prog 14 #[v, .int .i64 x] w' fun e w'' => ∃ a n c, e = .returned (.slice a n c) ∧ Lm w'' (.slice a n c) r ∧ Below w'.heap.size w' w'' := by
  subst hr hx
  exact fun w' b => number_any v l most w' (h.below b) hm hl
set_option maxRecDepth 100000 in
set_option maxHeartbeats 6400000 in
theorem ring_any {G : World → Prop} (C : NatC G) (va vb vc : Value) (l m k : List Nat) (w : World) (g : G w) (h : Lm w va l) (h' : Lm w vb m) (h'' : Lm w vc k) (hl : l.length ≤ 9223372036854775807) (hl' : m.length ≤ 9223372036854775807) (hl'' : k.length ≤ 9223372036854775807) :
    Calls Tryd.prog 5 #[va, vb, vc] w fun e w' => e = .returned (.bool true) ∧ Below w.heap.size w w' := by
  obtain ⟨ra, fa, ka⟩ := Nt.num_ok h.fit 300 (by omega)
  obtain ⟨rb, fb, kb⟩ := Nt.num_ok h'.fit 300 (by omega)
  obtain ⟨rc, fc, kc⟩ := Nt.num_ok h''.fit 300 (by omega)
  obtain ⟨A, hA⟩ : ∃ A, Nt.num l 300 = A := ⟨_, rfl⟩
  obtain ⟨B, hB⟩ : ∃ B, Nt.num m 300 = B := ⟨_, rfl⟩
  obtain ⟨D, hD⟩ : ∃ D, Nt.num k 300 = D := ⟨_, rfl⟩
  have NA := Lib.hid (numc 300 (by omega) va l w h hl hA (x := 300) rfl)
  have NB := Lib.hid (numc 300 (by omega) vb m w h' hl' hB (x := 300) rfl)
  have NC := Lib.hid (numc 300 (by omega) vc k w h'' hl'' hD (x := 300) rfl)
  rw [hA] at ra fa ka
  rw [hB] at rb fb kb
  rw [hD] at rc fc kc
  obtain ⟨e1, e2, e3, e4, e5, e6, e7, e8, e9, e10, e11, e12, e13, e14, e15, e16, e17, s1, s2, s3, s4, s5, s6⟩ := Nt.rings fa fb fc ra rb rc ka kb kc
  have F1 := Lib.hid (addc C e1)
  have F2 := Lib.hid (addc C e2)
  have F3 := Lib.hid (addc C e3)
  have F4 := Lib.hid (addc C e4)
  have F5 := Lib.hid (addc C e5)
  have F6 := Lib.hid (subc C e6)
  have F7 := Lib.hid (mulc C e7)
  have F8 := Lib.hid (mulc C e8)
  have F9 := Lib.hid (mulc C e9)
  have F10 := Lib.hid (mulc C e10)
  have F11 := Lib.hid (mulc C e11)
  have F12 := Lib.hid (mulc C e12)
  have F13 := Lib.hid (mulc C e13)
  have F14 := Lib.hid (addc C e14)
  have F15 := Lib.hid (mulc C e15)
  have F16 := Lib.hid (mulc C e16)
  have F17 := Lib.hid (addc C e17)
  have S1 := Lib.hid (samec s1)
  have S2 := Lib.hid (samec s2)
  have S3 := Lib.hid (samec s3)
  have S4 := Lib.hid (samec s4)
  have S5 := Lib.hid (samec s5)
  have S6 := Lib.hid (samec s6)
  have FO := Lib.hid (fun w g => C.of 1 w (by decide) (by decide) g)
  have W0 : Wd G w w := ⟨g, Below.refl _ _⟩
  clear e1 e2 e3 e4 e5 e6 e7 e8 e9 e10 e11 e12 e13 e14 e15 e16 e17 s1 s2 s3 s4 s5 s6 hA hB hD h h' h'' hl hl' hl'' g ka kb kc
  go_enter Tryd.func5, Tryd.ntmps5
  go_wp2_with (first | (go_at_call 12; (with_reducible refine (C.awake _ W0.g).mono ?_); rintro e w1 ⟨rfl, b1⟩; have W1 := W0.step C b1)  | (go_at_call 14; (with_reducible refine (NA.out _ W1.bl).mono ?_); rintro e w2 ⟨ada, na, ca, rfl, La_2, b2⟩; have W2 := W1.step C b2)  | (go_at_call 14; (with_reducible refine (NB.out _ W2.bl).mono ?_); rintro e w3 ⟨adb, nb, cb, rfl, Lb_3, b3⟩; have W3 := W2.step C b3; have La_3 := La_2.below b3)  | (go_at_call 14; (with_reducible refine (NC.out _ W3.bl).mono ?_); rintro e w4 ⟨adc, nc, cc, rfl, Lc_4, b4⟩; have W4 := W3.step C b4; have La_4 := La_3.below b4; have Lb_4 := Lb_3.below b4)  | (go_at_call 17; (with_reducible refine (F1.out _ _ _ W4.g La_4 Lb_4).mono ?_); rintro e w5 ⟨adab, nab, cab, rfl, Lab_5, b5⟩; have W5 := W4.step C b5; have La_5 := La_4.below b5; have Lb_5 := Lb_4.below b5; have Lc_5 := Lc_4.below b5)  | (go_at_call 17; (with_reducible refine (F2.out _ _ _ W5.g Lb_5 La_5).mono ?_); rintro e w6 ⟨adba, nba, cba, rfl, Lba_6, b6⟩; have W6 := W5.step C b6; have La_6 := La_5.below b6; have Lb_6 := Lb_5.below b6; have Lc_6 := Lc_5.below b6; have Lab_6 := Lab_5.below b6)  | (go_at_call 17; (with_reducible refine (F3.out _ _ _ W6.g Lab_6 Lc_6).mono ?_); rintro e w7 ⟨adabc, nabc, cabc, rfl, Labc_7, b7⟩; have W7 := W6.step C b7; have La_7 := La_6.below b7; have Lb_7 := Lb_6.below b7; have Lc_7 := Lc_6.below b7; have Lab_7 := Lab_6.below b7; have Lba_7 := Lba_6.below b7)  | (go_at_call 17; (with_reducible refine (F4.out _ _ _ W7.g Lb_7 Lc_7).mono ?_); rintro e w8 ⟨adbc, nbc, cbc, rfl, Lbc_8, b8⟩; have W8 := W7.step C b8; have La_8 := La_7.below b8; have Lb_8 := Lb_7.below b8; have Lc_8 := Lc_7.below b8; have Lab_8 := Lab_7.below b8; have Lba_8 := Lba_7.below b8; have Labc_8 := Labc_7.below b8)  | (go_at_call 17; (with_reducible refine (F5.out _ _ _ W8.g La_8 Lbc_8).mono ?_); rintro e w9 ⟨adot, not, cot, rfl, Lot_9, b9⟩; have W9 := W8.step C b9; have La_9 := La_8.below b9; have Lb_9 := Lb_8.below b9; have Lc_9 := Lc_8.below b9; have Lab_9 := Lab_8.below b9; have Lba_9 := Lba_8.below b9; have Labc_9 := Labc_8.below b9; have Lbc_9 := Lbc_8.below b9)  | (go_at_call 21; (with_reducible refine (F6.out _ _ _ W9.g Lab_9 Lb_9).mono ?_); rintro e w10 ⟨adbk, nbk, cbk, rfl, Lbk_10, b10⟩; have W10 := W9.step C b10; have La_10 := La_9.below b10; have Lb_10 := Lb_9.below b10; have Lc_10 := Lc_9.below b10; have Lab_10 := Lab_9.below b10; have Lba_10 := Lba_9.below b10; have Labc_10 := Labc_9.below b10; have Lbc_10 := Lbc_9.below b10; have Lot_10 := Lot_9.below b10)  | (go_at_call 20; (with_reducible refine (S1.out _ _ _ Lab_10 Lba_10).mono ?_); rintro e w11 ⟨rfl, q11⟩; have b11 := q11.bl; have W11 := W10.step C b11; have La_11 := La_10.below b11; have Lb_11 := Lb_10.below b11; have Lc_11 := Lc_10.below b11; have Labc_11 := Labc_10.below b11; have Lbc_11 := Lbc_10.below b11; have Lot_11 := Lot_10.below b11; have Lbk_11 := Lbk_10.below b11)  | (go_at_call 20; (with_reducible refine (S2.out _ _ _ Labc_11 Lot_11).mono ?_); rintro e w12 ⟨rfl, q12⟩; have b12 := q12.bl; have W12 := W11.step C b12; have La_12 := La_11.below b12; have Lb_12 := Lb_11.below b12; have Lc_12 := Lc_11.below b12; have Lbc_12 := Lbc_11.below b12; have Lbk_12 := Lbk_11.below b12)  | (go_at_call 20; (with_reducible refine (S3.out _ _ _ Lbk_12 La_12).mono ?_); rintro e w13 ⟨rfl, q13⟩; have b13 := q13.bl; have W13 := W12.step C b13; have La_13 := La_12.below b13; have Lb_13 := Lb_12.below b13; have Lc_13 := Lc_12.below b13; have Lbc_13 := Lbc_12.below b13)  | (go_at_call 16; (with_reducible refine (F7.out _ _ _ W13.g La_13 Lb_13).mono ?_); rintro e w14 ⟨adp, np, cp, rfl, Lp_14, b14⟩; have W14 := W13.step C b14; have La_14 := La_13.below b14; have Lb_14 := Lb_13.below b14; have Lc_14 := Lc_13.below b14; have Lbc_14 := Lbc_13.below b14)  | (go_at_call 16; (with_reducible refine (F8.out _ _ _ W14.g Lb_14 La_14).mono ?_); rintro e w15 ⟨adq, nq, cq, rfl, Lq_15, b15⟩; have W15 := W14.step C b15; have La_15 := La_14.below b15; have Lb_15 := Lb_14.below b15; have Lc_15 := Lc_14.below b15; have Lbc_15 := Lbc_14.below b15; have Lp_15 := Lp_14.below b15)  | (go_at_call 16; (with_reducible refine (F9.out _ _ _ W15.g Lp_15 Lc_15).mono ?_); rintro e w16 ⟨adpc, npc, cpc, rfl, Lpc_16, b16⟩; have W16 := W15.step C b16; have La_16 := La_15.below b16; have Lb_16 := Lb_15.below b16; have Lc_16 := Lc_15.below b16; have Lbc_16 := Lbc_15.below b16; have Lp_16 := Lp_15.below b16; have Lq_16 := Lq_15.below b16)  | (go_at_call 16; (with_reducible refine (F10.out _ _ _ W16.g Lb_16 Lc_16).mono ?_); rintro e w17 ⟨adr, nr, cr, rfl, Lr_17, b17⟩; have W17 := W16.step C b17; have La_17 := La_16.below b17; have Lc_17 := Lc_16.below b17; have Lbc_17 := Lbc_16.below b17; have Lp_17 := Lp_16.below b17; have Lq_17 := Lq_16.below b17; have Lpc_17 := Lpc_16.below b17)  | (go_at_call 16; (with_reducible refine (F11.out _ _ _ W17.g La_17 Lr_17).mono ?_); rintro e w18 ⟨adar, nar, car, rfl, Lar_18, b18⟩; have W18 := W17.step C b18; have La_18 := La_17.below b18; have Lc_18 := Lc_17.below b18; have Lbc_18 := Lbc_17.below b18; have Lp_18 := Lp_17.below b18; have Lq_18 := Lq_17.below b18; have Lpc_18 := Lpc_17.below b18)  | (go_at_call 20; (with_reducible refine (S4.out _ _ _ Lp_18 Lq_18).mono ?_); rintro e w19 ⟨rfl, q19⟩; have b19 := q19.bl; have W19 := W18.step C b19; have La_19 := La_18.below b19; have Lc_19 := Lc_18.below b19; have Lbc_19 := Lbc_18.below b19; have Lp_19 := Lp_18.below b19; have Lpc_19 := Lpc_18.below b19; have Lar_19 := Lar_18.below b19)  | (go_at_call 20; (with_reducible refine (S5.out _ _ _ Lpc_19 Lar_19).mono ?_); rintro e w20 ⟨rfl, q20⟩; have b20 := q20.bl; have W20 := W19.step C b20; have La_20 := La_19.below b20; have Lc_20 := Lc_19.below b20; have Lbc_20 := Lbc_19.below b20; have Lp_20 := Lp_19.below b20)  | (go_at_call 16; (with_reducible refine (F12.out _ _ _ W20.g La_20 Lbc_20).mono ?_); rintro e w21 ⟨ads, ns, cs, rfl, Ls_21, b21⟩; have W21 := W20.step C b21; have La_21 := La_20.below b21; have Lc_21 := Lc_20.below b21; have Lp_21 := Lp_20.below b21)  | (go_at_call 16; (with_reducible refine (F13.out _ _ _ W21.g La_21 Lc_21).mono ?_); rintro e w22 ⟨adt, nt, ct, rfl, Lt_22, b22⟩; have W22 := W21.step C b22; have La_22 := La_21.below b22; have Lp_22 := Lp_21.below b22; have Ls_22 := Ls_21.below b22)  | (go_at_call 17; (with_reducible refine (F14.out _ _ _ W22.g Lp_22 Lt_22).mono ?_); rintro e w23 ⟨adu, nu, cu, rfl, Lu_23, b23⟩; have W23 := W22.step C b23; have La_23 := La_22.below b23; have Ls_23 := Ls_22.below b23)  | (go_at_call 22; (with_reducible refine (FO.out _ W23.g).mono ?_); rintro e w24 ⟨ado1, no1, co1, rfl, Lo1_24, b24⟩; have W24 := W23.step C b24; have La_24 := La_23.below b24; have Ls_24 := Ls_23.below b24; have Lu_24 := Lu_23.below b24)  | (go_at_call 16; (with_reducible refine (F15.out _ _ _ W24.g La_24 Lo1_24).mono ?_); rintro e w25 ⟨adone, none, cone, rfl, Lone_25, b25⟩; have W25 := W24.step C b25; have La_25 := La_24.below b25; have Ls_25 := Ls_24.below b25; have Lu_25 := Lu_24.below b25)  | (go_at_call 16; (with_reducible refine (F16.out _ _ _ W25.g La_25 (Lm.nil _)).mono ?_); rintro e w26 ⟨adnone, nnone, cnone, rfl, Lnone_26, b26⟩; have W26 := W25.step C b26; have La_26 := La_25.below b26; have Ls_26 := Ls_25.below b26; have Lu_26 := Lu_25.below b26; have Lone_26 := Lone_25.below b26; obtain ⟨_, znone, _⟩ := Lnone_26.cap; have znone' : nnone = 0 := znone; clear znone; subst znone')  | (go_at_call 17; (with_reducible refine (F17.out _ _ _ W26.g La_26 (Lm.nil _)).mono ?_); rintro e w27 ⟨adv, nv, cv, rfl, Lv_27, b27⟩; have W27 := W26.step C b27; have La_27 := La_26.below b27; have Ls_27 := Ls_26.below b27; have Lu_27 := Lu_26.below b27; have Lone_27 := Lone_26.below b27)  | (go_at_call 20; (with_reducible refine (S6.out _ _ _ Ls_27 Lu_27).mono ?_); rintro e w28 ⟨rfl, q28⟩; have b28 := q28.bl; have W28 := W27.step C b28; have La_28 := La_27.below b28; have Lone_28 := Lone_27.below b28; have Lv_28 := Lv_27.below b28)  | (go_at_call 20; (with_reducible refine (S3.out _ _ _ Lone_28 La_28).mono ?_); rintro e w29 ⟨rfl, q29⟩; have b29 := q29.bl; have W29 := W28.step C b29; have La_29 := La_28.below b29; have Lv_29 := Lv_28.below b29)  | (go_at_call 20; (with_reducible refine (S3.out _ _ _ Lv_29 La_29).mono ?_); rintro e w30 ⟨rfl, q30⟩; have b30 := q30.bl; have W30 := W29.step C b30))
  go_ret
  exact ⟨rfl, W30.bl⟩
end Go.Proofs.YtlmigbfpdbkkjaaDoor
