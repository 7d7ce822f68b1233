/- NatOrder: its walk, from the contracts of layer 3's functions. -/
import Derived.Test.YtlmigbfpdbkkjaaDoorCNRing
namespace Go.Proofs.YtlmigbfpdbkkjaaDoor
open Go.RowKit
set_option linter.unusedVariables false

theorem cmpc {G : World → Prop} (C : NatC G) {l m : List Nat} {x y : Int} (e : Nt.cmpV l m = x) (f : Nt.cmpE l m = y) (v u : Value) (w : World) (g : G w) (h : Lm w v l) (h' : Lm w u m) :
    Calls Tryd.prog 23 #[v, u] w fun e w' => e = .returned (.tuple #[.int .i64 x, .int .i64 y]) ∧ Below w.heap.size w w' := by
  have := C.cmp v u l m w g h h'; rw [e, f] at this; exact this
theorem lessc {G : World → Prop} (C : NatC G) {l m : List Nat} {b : Bool} (hl : Nt.rg l = true) (hm : Nt.rg m = true) (e : decide (Nt.val l < Nt.val m) = b) (v u : Value) (w : World) (g : G w) (h : Lm w v l) (h' : Lm w u m) :
    Calls Tryd.prog 19 #[v, u] w fun e w' => e = .returned (.bool b) ∧ Below w.heap.size w w' := by
  subst e; exact less_any C v u l m w g h h' hl hm
theorem samed {l m : List Nat} {b : Bool} (k : l.length ≤ 1000000) (e : decide (l = m) = b) (v u : Value) (w : World) (h : Lm w v l) (h' : Lm w u m) :
    Calls Tryd.prog 20 #[v, u] w fun e w' => e = .returned (.bool b) ∧ Qt w w' := by
  subst e; exact same3_any v u l m w h h' k
namespace Nt
theorem ord_lt {x y : Nat} (h : x < y) : ord x y = -1 := by unfold ord; rw [if_pos h]
theorem ord_gt {x y : Nat} (h : y < x) : ord x y = 1 := by unfold ord; rw [if_neg (by omega), if_pos h]
theorem ord_eq {x y : Nat} (h : x = y) : ord x y = 0 := by unfold ord; rw [if_neg (by omega), if_neg (by omega)]
/-- Numbers of up to 500 limbs: what is made of two of them fits. -/
theorem orders {a b c : List Nat} (ha : Fit a) (hb : Fit b) (hc : Fit c) (ra : rg a = true) (rb : rg b = true) (rc : rg c = true) (ka : a.length ≤ 500) (kb : b.length ≤ 500) (kc : c.length ≤ 500) :
    let x := val a; let y := val b; let z := val c
    (cmpV a b = ord x y ∧ cmpE a b = 0 ∧ cmpV b a = ord y x ∧ cmpE b a = 0) ∧ addR a c = (dig (x + z), 0) ∧ addR b c = (dig (y + z), 0) ∧ mulR a c = (dig (x * z), 0) ∧ mulR b c = (dig (y * z), 0) ∧
    cmpV (dig (x + z)) (dig (y + z)) = ord (x + z) (y + z) ∧ cmpE (dig (x + z)) (dig (y + z)) = 0 ∧ cmpV (dig (x * z)) (dig (y * z)) = ord (x * z) (y * z) ∧ cmpE (dig (x * z)) (dig (y * z)) = 0 ∧
    addR a (dig 1) = (dig (x + 1), 0) ∧ rg (dig (x + 1)) = true ∧ decide (val a < val (dig (x + 1))) = true ∧ a.length ≤ 1000000 := by
  intro x y z
  obtain ⟨e, he⟩ : ∃ e, e = 500 := ⟨_, rfl⟩
  have bd : ∀ {l : List Nat}, Fit l → l.length ≤ 500 → val l < B ^ e := fun {l} h k => Nat.lt_of_lt_of_le (Pos.val_lt h) (Nat.pow_le_pow_right (by decide) (by rw [he]; exact k))
  have hx := bd ha ka
  have hy := bd hb kb
  have hz := bd hc kc
  obtain ⟨K, hK⟩ : ∃ K, K = B ^ e := ⟨_, rfl⟩
  have k4 : 4 ≤ K := by
    rw [hK]
    have : B ^ 1 ≤ B ^ e := Nat.pow_le_pow_right (by decide) (by omega)
    rw [Nat.pow_one] at this
    exact Nat.le_trans (by decide) this
  have kt : K * K ≤ top := by
    obtain ⟨f, hf⟩ : ∃ f, f = 1024 := ⟨_, rfl⟩
    rw [hK, top_pow hf, ← Nat.pow_add]
    exact Nat.pow_le_pow_right (by decide) (by omega)
  rw [← hK] at hx hy hz
  clear hK bd
  have hx : x < K := hx
  have hy : y < K := hy
  have hz : z < K := hz
  have kk : 4 * K ≤ K * K := Nat.mul_le_mul_right K k4
  have yz : y * z < K * K := Nat.mul_lt_mul'' hy hz
  have xz : x * z < K * K := Nat.mul_lt_mul'' hx hz
  have add : ∀ {l m : List Nat} {n : Nat}, rg l = true → rg m = true → val l + val m = n → n < top → addR l m = (dig n, 0) := fun {l m n} h h' e t => by subst e; exact add_ok h h' t
  have mul : ∀ {l m : List Nat} {n : Nat}, rg l = true → rg m = true → val l * val m = n → n < top → mulR l m = (dig n, 0) := fun {l m n} h h' e t => by subst e; exact mul_ok h h' t
  have cmp : ∀ {m n : Nat}, m < top → n < top → cmpV (dig m) (dig n) = ord m n ∧ cmpE (dig m) (dig n) = 0 := fun {m n} h h' => by
    have := cmp_ok (rg_yes h) (rg_yes h'); rw [val_dig, val_dig] at this; exact this
  have c1 := cmp_ok ra rb
  have c2 := cmp_ok rb ra
  have c3 := cmp (m := x + z) (n := y + z) (by omega) (by omega)
  have c4 := cmp (m := x * z) (n := y * z) (by omega) (by omega)
  exact ⟨⟨c1.1, c1.2, c2.1, c2.2⟩, add ra rc rfl (by omega), add rb rc rfl (by omega), mul ra rc rfl (by omega), mul rb rc rfl (by omega), c3.1, c3.2, c4.1, c4.2,
    add ra (rg_yes (by omega)) (by rw [val_dig]) (by omega), rg_yes (by omega), by rw [val_dig]; exact decide_eq_true (by show x < x + 1; omega), by omega⟩
end Nt

set_option maxRecDepth 100000 in
set_option maxHeartbeats 3200000 in
theorem order_ltZ {G : World → Prop} (C : NatC G) (va vb vc : Value) (w : World) (g : G w) {a b d s t p q up : List Nat}
    (NA : ∀ w', Below w.heap.size w w' → Calls Tryd.prog 14 #[va, .int .i64 500] w' fun e w'' => ∃ a' n c, e = .returned (.slice a' n c) ∧ Lm w'' (.slice a' n c) a ∧ Below w'.heap.size w' w'')
    (NB : ∀ w', Below w.heap.size w w' → Calls Tryd.prog 14 #[vb, .int .i64 500] w' fun e w'' => ∃ a' n c, e = .returned (.slice a' n c) ∧ Lm w'' (.slice a' n c) b ∧ Below w'.heap.size w' w'')
    (NC : ∀ w', Below w.heap.size w w' → Calls Tryd.prog 14 #[vc, .int .i64 500] w' fun e w'' => ∃ a' n c, e = .returned (.slice a' n c) ∧ Lm w'' (.slice a' n c) [] ∧ Below w'.heap.size w' w'')
    (h1 : Nt.cmpV a b = -1) (h2 : Nt.cmpE a b = 0) (h3 : Nt.cmpV b a = 1) (h4 : Nt.cmpE b a = 0) (h5 : decide (a = b) = false) (k : a.length ≤ 1000000) (h6 : Nt.subR a b = ([], 2))
    (h7 : Nt.addR a [] = (s, 0)) (h8 : Nt.addR b [] = (t, 0)) (h9 : Nt.mulR a [] = (p, 0)) (h10 : Nt.mulR b [] = (q, 0)) (h11 : Nt.cmpV s t = -1) (h12 : Nt.cmpE s t = 0) (h13 : Nt.cmpV p q = 0) (h14 : Nt.cmpE p q = 0)
    (h15 : Nt.addR a (Nt.dig 1) = (up, 0)) (ra : Nt.rg a = true) (ru : Nt.rg up = true) (h16 : decide (Nt.val a < Nt.val up) = true) :
    Calls Tryd.prog 6 #[va, vb, vc] w fun e w' => e = .returned (.bool true) ∧ Below w.heap.size w w' := by
  have NA := Lib.hid NA
  have NB := Lib.hid NB
  have NC := Lib.hid NC
  have F1 := Lib.hid (cmpc C h1 h2)
  have F2 := Lib.hid (cmpc C h3 h4)
  have S1 := Lib.hid (samed k h5)
  have F3 := Lib.hid (subc C h6)
  have F4 := Lib.hid (addc C h7)
  have F5 := Lib.hid (addc C h8)
  have F6 := Lib.hid (mulc C h9)
  have F7 := Lib.hid (mulc C h10)
  have F8 := Lib.hid (cmpc C h11 h12)
  have F9 := Lib.hid (cmpc C h13 h14)
  have FO := Lib.hid (fun w g => C.of 1 w (by decide) (by decide) g)
  have F10 := Lib.hid (addc C h15)
  have LS := Lib.hid (lessc C ra ru h16)
  have W0 : Wd G w w := ⟨g, Below.refl _ _⟩
  clear g h1 h2 h3 h4 h5 k h6 h7 h8 h9 h10 h11 h12 h13 h14 h15 ra ru h16
  go_enter Tryd.func6, Tryd.ntmps6
  go_wp2_with (first | (go_at_call 12; (with_reducible refine (C.awake _ W0.g).mono ?_); rintro e w1 ⟨rfl, b1⟩; have W1 := W0.step C b1)  | (go_at_call 14; (with_reducible refine (NA.out _ W1.bl).mono ?_); rintro e w2 ⟨ada, na, ca, rfl, La_2, b2⟩; have W2 := W1.step C b2)  | (go_at_call 14; (with_reducible refine (NB.out _ W2.bl).mono ?_); rintro e w3 ⟨adb, nb, cb, rfl, Lb_3, b3⟩; have W3 := W2.step C b3; have La_3 := La_2.below b3)  | (go_at_call 14; (with_reducible refine (NC.out _ W3.bl).mono ?_); rintro e w4 ⟨adc, nc, cc, rfl, Lc_4, b4⟩; have W4 := W3.step C b4; have La_4 := La_3.below b4; have Lb_4 := Lb_3.below b4; obtain ⟨_, zc, _⟩ := Lc_4.cap; have zc' : nc = 0 := zc; clear zc; subst zc')  | (go_at_call 23; (with_reducible refine (F1.out _ _ _ W4.g La_4 Lb_4).mono ?_); rintro e w5 ⟨rfl, b5⟩; have W5 := W4.step C b5; have La_5 := La_4.below b5; have Lb_5 := Lb_4.below b5; have Lc_5 := Lc_4.below b5)  | (go_at_call 23; (with_reducible refine (F2.out _ _ _ W5.g Lb_5 La_5).mono ?_); rintro e w6 ⟨rfl, b6⟩; have W6 := W5.step C b6; have La_6 := La_5.below b6; have Lb_6 := Lb_5.below b6; have Lc_6 := Lc_5.below b6)  | (go_at_call 20; (with_reducible refine (S1.out _ _ _ La_6 Lb_6).mono ?_); rintro e w7 ⟨rfl, q7⟩; have b7 := q7.bl; have W7 := W6.step C b7; have La_7 := La_6.below b7; have Lb_7 := Lb_6.below b7; have Lc_7 := Lc_6.below b7)  | (go_at_call 21; (with_reducible refine (F3.out _ _ _ W7.g La_7 Lb_7).mono ?_); rintro e w8 ⟨add, nd, cd, rfl, Ld_8, b8⟩; have W8 := W7.step C b8; have La_8 := La_7.below b8; have Lb_8 := Lb_7.below b8; have Lc_8 := Lc_7.below b8; obtain ⟨_, zd, _⟩ := Ld_8.cap; have zd' : nd = 0 := zd; clear zd; subst zd')  | (go_at_call 17; (with_reducible refine (F4.out _ _ _ W8.g La_8 Lc_8).mono ?_); rintro e w9 ⟨ads, ns, cs, rfl, Ls_9, b9⟩; have W9 := W8.step C b9; have La_9 := La_8.below b9; have Lb_9 := Lb_8.below b9; have Lc_9 := Lc_8.below b9)  | (go_at_call 17; (with_reducible refine (F5.out _ _ _ W9.g Lb_9 Lc_9).mono ?_); rintro e w10 ⟨adt, nt, ct, rfl, Lt_10, b10⟩; have W10 := W9.step C b10; have La_10 := La_9.below b10; have Lb_10 := Lb_9.below b10; have Lc_10 := Lc_9.below b10; have Ls_10 := Ls_9.below b10)  | (go_at_call 16; (with_reducible refine (F6.out _ _ _ W10.g La_10 Lc_10).mono ?_); rintro e w11 ⟨adp, np, cp, rfl, Lp_11, b11⟩; have W11 := W10.step C b11; have La_11 := La_10.below b11; have Lb_11 := Lb_10.below b11; have Lc_11 := Lc_10.below b11; have Ls_11 := Ls_10.below b11; have Lt_11 := Lt_10.below b11)  | (go_at_call 16; (with_reducible refine (F7.out _ _ _ W11.g Lb_11 Lc_11).mono ?_); rintro e w12 ⟨adq, nq, cq, rfl, Lq_12, b12⟩; have W12 := W11.step C b12; have La_12 := La_11.below b12; have Ls_12 := Ls_11.below b12; have Lt_12 := Lt_11.below b12; have Lp_12 := Lp_11.below b12)  | (go_at_call 23; (with_reducible refine (F8.out _ _ _ W12.g Ls_12 Lt_12).mono ?_); rintro e w13 ⟨rfl, b13⟩; have W13 := W12.step C b13; have La_13 := La_12.below b13; have Lp_13 := Lp_12.below b13; have Lq_13 := Lq_12.below b13)  | (go_at_call 23; (with_reducible refine (F9.out _ _ _ W13.g Lp_13 Lq_13).mono ?_); rintro e w14 ⟨rfl, b14⟩; have W14 := W13.step C b14; have La_14 := La_13.below b14)  | (go_at_call 22; (with_reducible refine (FO.out _ W14.g).mono ?_); rintro e w15 ⟨ado1, no1, co1, rfl, Lo1_15, b15⟩; have W15 := W14.step C b15; have La_15 := La_14.below b15)  | (go_at_call 17; (with_reducible refine (F10.out _ _ _ W15.g La_15 Lo1_15).mono ?_); rintro e w16 ⟨adup, nup, cup, rfl, Lup_16, b16⟩; have W16 := W15.step C b16; have La_16 := La_15.below b16)  | (go_at_call 19; (with_reducible refine (LS.out _ _ _ W16.g La_16 Lup_16).mono ?_); rintro e w17 ⟨rfl, b17⟩; have W17 := W16.step C b17))
  go_ret
  exact ⟨rfl, W17.bl⟩
set_option maxRecDepth 100000 in
set_option maxHeartbeats 3200000 in
theorem order_eqZ {G : World → Prop} (C : NatC G) (va vb vc : Value) (w : World) (g : G w) {a b d s t p q up : List Nat}
    (NA : ∀ w', Below w.heap.size w w' → Calls Tryd.prog 14 #[va, .int .i64 500] w' fun e w'' => ∃ a' n c, e = .returned (.slice a' n c) ∧ Lm w'' (.slice a' n c) a ∧ Below w'.heap.size w' w'')
    (NB : ∀ w', Below w.heap.size w w' → Calls Tryd.prog 14 #[vb, .int .i64 500] w' fun e w'' => ∃ a' n c, e = .returned (.slice a' n c) ∧ Lm w'' (.slice a' n c) b ∧ Below w'.heap.size w' w'')
    (NC : ∀ w', Below w.heap.size w w' → Calls Tryd.prog 14 #[vc, .int .i64 500] w' fun e w'' => ∃ a' n c, e = .returned (.slice a' n c) ∧ Lm w'' (.slice a' n c) [] ∧ Below w'.heap.size w' w'')
    (h1 : Nt.cmpV a b = 0) (h2 : Nt.cmpE a b = 0) (h3 : Nt.cmpV b a = 0) (h4 : Nt.cmpE b a = 0) (h5 : decide (a = b) = true) (k : a.length ≤ 1000000) (h6 : Nt.subR a b = ([], 0))
    (h7 : Nt.addR a [] = (s, 0)) (h8 : Nt.addR b [] = (t, 0)) (h9 : Nt.mulR a [] = (p, 0)) (h10 : Nt.mulR b [] = (q, 0)) (h11 : Nt.cmpV s t = 0) (h12 : Nt.cmpE s t = 0) (h13 : Nt.cmpV p q = 0) (h14 : Nt.cmpE p q = 0)
    (h15 : Nt.addR a (Nt.dig 1) = (up, 0)) (ra : Nt.rg a = true) (ru : Nt.rg up = true) (h16 : decide (Nt.val a < Nt.val up) = true) :
    Calls Tryd.prog 6 #[va, vb, vc] w fun e w' => e = .returned (.bool true) ∧ Below w.heap.size w w' := by
  have NA := Lib.hid NA
  have NB := Lib.hid NB
  have NC := Lib.hid NC
  have F1 := Lib.hid (cmpc C h1 h2)
  have F2 := Lib.hid (cmpc C h3 h4)
  have S1 := Lib.hid (samed k h5)
  have F3 := Lib.hid (subc C h6)
  have F4 := Lib.hid (addc C h7)
  have F5 := Lib.hid (addc C h8)
  have F6 := Lib.hid (mulc C h9)
  have F7 := Lib.hid (mulc C h10)
  have F8 := Lib.hid (cmpc C h11 h12)
  have F9 := Lib.hid (cmpc C h13 h14)
  have FO := Lib.hid (fun w g => C.of 1 w (by decide) (by decide) g)
  have F10 := Lib.hid (addc C h15)
  have LS := Lib.hid (lessc C ra ru h16)
  have W0 : Wd G w w := ⟨g, Below.refl _ _⟩
  clear g h1 h2 h3 h4 h5 k h6 h7 h8 h9 h10 h11 h12 h13 h14 h15 ra ru h16
  go_enter Tryd.func6, Tryd.ntmps6
  go_wp2_with (first | (go_at_call 12; (with_reducible refine (C.awake _ W0.g).mono ?_); rintro e w1 ⟨rfl, b1⟩; have W1 := W0.step C b1)  | (go_at_call 14; (with_reducible refine (NA.out _ W1.bl).mono ?_); rintro e w2 ⟨ada, na, ca, rfl, La_2, b2⟩; have W2 := W1.step C b2)  | (go_at_call 14; (with_reducible refine (NB.out _ W2.bl).mono ?_); rintro e w3 ⟨adb, nb, cb, rfl, Lb_3, b3⟩; have W3 := W2.step C b3; have La_3 := La_2.below b3)  | (go_at_call 14; (with_reducible refine (NC.out _ W3.bl).mono ?_); rintro e w4 ⟨adc, nc, cc, rfl, Lc_4, b4⟩; have W4 := W3.step C b4; have La_4 := La_3.below b4; have Lb_4 := Lb_3.below b4; obtain ⟨_, zc, _⟩ := Lc_4.cap; have zc' : nc = 0 := zc; clear zc; subst zc')  | (go_at_call 23; (with_reducible refine (F1.out _ _ _ W4.g La_4 Lb_4).mono ?_); rintro e w5 ⟨rfl, b5⟩; have W5 := W4.step C b5; have La_5 := La_4.below b5; have Lb_5 := Lb_4.below b5; have Lc_5 := Lc_4.below b5)  | (go_at_call 23; (with_reducible refine (F2.out _ _ _ W5.g Lb_5 La_5).mono ?_); rintro e w6 ⟨rfl, b6⟩; have W6 := W5.step C b6; have La_6 := La_5.below b6; have Lb_6 := Lb_5.below b6; have Lc_6 := Lc_5.below b6)  | (go_at_call 20; (with_reducible refine (S1.out _ _ _ La_6 Lb_6).mono ?_); rintro e w7 ⟨rfl, q7⟩; have b7 := q7.bl; have W7 := W6.step C b7; have La_7 := La_6.below b7; have Lb_7 := Lb_6.below b7; have Lc_7 := Lc_6.below b7)  | (go_at_call 21; (with_reducible refine (F3.out _ _ _ W7.g La_7 Lb_7).mono ?_); rintro e w8 ⟨add, nd, cd, rfl, Ld_8, b8⟩; have W8 := W7.step C b8; have La_8 := La_7.below b8; have Lb_8 := Lb_7.below b8; have Lc_8 := Lc_7.below b8; obtain ⟨_, zd, _⟩ := Ld_8.cap; have zd' : nd = 0 := zd; clear zd; subst zd')  | (go_at_call 17; (with_reducible refine (F4.out _ _ _ W8.g La_8 Lc_8).mono ?_); rintro e w9 ⟨ads, ns, cs, rfl, Ls_9, b9⟩; have W9 := W8.step C b9; have La_9 := La_8.below b9; have Lb_9 := Lb_8.below b9; have Lc_9 := Lc_8.below b9)  | (go_at_call 17; (with_reducible refine (F5.out _ _ _ W9.g Lb_9 Lc_9).mono ?_); rintro e w10 ⟨adt, nt, ct, rfl, Lt_10, b10⟩; have W10 := W9.step C b10; have La_10 := La_9.below b10; have Lb_10 := Lb_9.below b10; have Lc_10 := Lc_9.below b10; have Ls_10 := Ls_9.below b10)  | (go_at_call 16; (with_reducible refine (F6.out _ _ _ W10.g La_10 Lc_10).mono ?_); rintro e w11 ⟨adp, np, cp, rfl, Lp_11, b11⟩; have W11 := W10.step C b11; have La_11 := La_10.below b11; have Lb_11 := Lb_10.below b11; have Lc_11 := Lc_10.below b11; have Ls_11 := Ls_10.below b11; have Lt_11 := Lt_10.below b11)  | (go_at_call 16; (with_reducible refine (F7.out _ _ _ W11.g Lb_11 Lc_11).mono ?_); rintro e w12 ⟨adq, nq, cq, rfl, Lq_12, b12⟩; have W12 := W11.step C b12; have La_12 := La_11.below b12; have Ls_12 := Ls_11.below b12; have Lt_12 := Lt_11.below b12; have Lp_12 := Lp_11.below b12)  | (go_at_call 23; (with_reducible refine (F8.out _ _ _ W12.g Ls_12 Lt_12).mono ?_); rintro e w13 ⟨rfl, b13⟩; have W13 := W12.step C b13; have La_13 := La_12.below b13; have Lp_13 := Lp_12.below b13; have Lq_13 := Lq_12.below b13)  | (go_at_call 23; (with_reducible refine (F9.out _ _ _ W13.g Lp_13 Lq_13).mono ?_); rintro e w14 ⟨rfl, b14⟩; have W14 := W13.step C b14; have La_14 := La_13.below b14)  | (go_at_call 22; (with_reducible refine (FO.out _ W14.g).mono ?_); rintro e w15 ⟨ado1, no1, co1, rfl, Lo1_15, b15⟩; have W15 := W14.step C b15; have La_15 := La_14.below b15)  | (go_at_call 17; (with_reducible refine (F10.out _ _ _ W15.g La_15 Lo1_15).mono ?_); rintro e w16 ⟨adup, nup, cup, rfl, Lup_16, b16⟩; have W16 := W15.step C b16; have La_16 := La_15.below b16)  | (go_at_call 19; (with_reducible refine (LS.out _ _ _ W16.g La_16 Lup_16).mono ?_); rintro e w17 ⟨rfl, b17⟩; have W17 := W16.step C b17))
  go_ret
  exact ⟨rfl, W17.bl⟩
set_option maxRecDepth 100000 in
set_option maxHeartbeats 3200000 in
theorem order_gtZ {G : World → Prop} (C : NatC G) (va vb vc : Value) (w : World) (g : G w) {a b d s t p q up : List Nat}
    (NA : ∀ w', Below w.heap.size w w' → Calls Tryd.prog 14 #[va, .int .i64 500] w' fun e w'' => ∃ a' n c, e = .returned (.slice a' n c) ∧ Lm w'' (.slice a' n c) a ∧ Below w'.heap.size w' w'')
    (NB : ∀ w', Below w.heap.size w w' → Calls Tryd.prog 14 #[vb, .int .i64 500] w' fun e w'' => ∃ a' n c, e = .returned (.slice a' n c) ∧ Lm w'' (.slice a' n c) b ∧ Below w'.heap.size w' w'')
    (NC : ∀ w', Below w.heap.size w w' → Calls Tryd.prog 14 #[vc, .int .i64 500] w' fun e w'' => ∃ a' n c, e = .returned (.slice a' n c) ∧ Lm w'' (.slice a' n c) [] ∧ Below w'.heap.size w' w'')
    (h1 : Nt.cmpV a b = 1) (h2 : Nt.cmpE a b = 0) (h3 : Nt.cmpV b a = -1) (h4 : Nt.cmpE b a = 0) (h5 : decide (a = b) = false) (k : a.length ≤ 1000000) (h6 : Nt.subR a b = (d, 0))
    (h7 : Nt.addR a [] = (s, 0)) (h8 : Nt.addR b [] = (t, 0)) (h9 : Nt.mulR a [] = (p, 0)) (h10 : Nt.mulR b [] = (q, 0)) (h11 : Nt.cmpV s t = 1) (h12 : Nt.cmpE s t = 0) (h13 : Nt.cmpV p q = 0) (h14 : Nt.cmpE p q = 0)
    (h15 : Nt.addR a (Nt.dig 1) = (up, 0)) (ra : Nt.rg a = true) (ru : Nt.rg up = true) (h16 : decide (Nt.val a < Nt.val up) = true) :
    Calls Tryd.prog 6 #[va, vb, vc] w fun e w' => e = .returned (.bool true) ∧ Below w.heap.size w w' := by
  have NA := Lib.hid NA
  have NB := Lib.hid NB
  have NC := Lib.hid NC
  have F1 := Lib.hid (cmpc C h1 h2)
  have F2 := Lib.hid (cmpc C h3 h4)
  have S1 := Lib.hid (samed k h5)
  have F3 := Lib.hid (subc C h6)
  have F4 := Lib.hid (addc C h7)
  have F5 := Lib.hid (addc C h8)
  have F6 := Lib.hid (mulc C h9)
  have F7 := Lib.hid (mulc C h10)
  have F8 := Lib.hid (cmpc C h11 h12)
  have F9 := Lib.hid (cmpc C h13 h14)
  have FO := Lib.hid (fun w g => C.of 1 w (by decide) (by decide) g)
  have F10 := Lib.hid (addc C h15)
  have LS := Lib.hid (lessc C ra ru h16)
  have W0 : Wd G w w := ⟨g, Below.refl _ _⟩
  clear g h1 h2 h3 h4 h5 k h6 h7 h8 h9 h10 h11 h12 h13 h14 h15 ra ru h16
  go_enter Tryd.func6, Tryd.ntmps6
  go_wp2_with (first | (go_at_call 12; (with_reducible refine (C.awake _ W0.g).mono ?_); rintro e w1 ⟨rfl, b1⟩; have W1 := W0.step C b1)  | (go_at_call 14; (with_reducible refine (NA.out _ W1.bl).mono ?_); rintro e w2 ⟨ada, na, ca, rfl, La_2, b2⟩; have W2 := W1.step C b2)  | (go_at_call 14; (with_reducible refine (NB.out _ W2.bl).mono ?_); rintro e w3 ⟨adb, nb, cb, rfl, Lb_3, b3⟩; have W3 := W2.step C b3; have La_3 := La_2.below b3)  | (go_at_call 14; (with_reducible refine (NC.out _ W3.bl).mono ?_); rintro e w4 ⟨adc, nc, cc, rfl, Lc_4, b4⟩; have W4 := W3.step C b4; have La_4 := La_3.below b4; have Lb_4 := Lb_3.below b4; obtain ⟨_, zc, _⟩ := Lc_4.cap; have zc' : nc = 0 := zc; clear zc; subst zc')  | (go_at_call 23; (with_reducible refine (F1.out _ _ _ W4.g La_4 Lb_4).mono ?_); rintro e w5 ⟨rfl, b5⟩; have W5 := W4.step C b5; have La_5 := La_4.below b5; have Lb_5 := Lb_4.below b5; have Lc_5 := Lc_4.below b5)  | (go_at_call 23; (with_reducible refine (F2.out _ _ _ W5.g Lb_5 La_5).mono ?_); rintro e w6 ⟨rfl, b6⟩; have W6 := W5.step C b6; have La_6 := La_5.below b6; have Lb_6 := Lb_5.below b6; have Lc_6 := Lc_5.below b6)  | (go_at_call 20; (with_reducible refine (S1.out _ _ _ La_6 Lb_6).mono ?_); rintro e w7 ⟨rfl, q7⟩; have b7 := q7.bl; have W7 := W6.step C b7; have La_7 := La_6.below b7; have Lb_7 := Lb_6.below b7; have Lc_7 := Lc_6.below b7)  | (go_at_call 21; (with_reducible refine (F3.out _ _ _ W7.g La_7 Lb_7).mono ?_); rintro e w8 ⟨add, nd, cd, rfl, Ld_8, b8⟩; have W8 := W7.step C b8; have La_8 := La_7.below b8; have Lb_8 := Lb_7.below b8; have Lc_8 := Lc_7.below b8)  | (go_at_call 17; (with_reducible refine (F4.out _ _ _ W8.g La_8 Lc_8).mono ?_); rintro e w9 ⟨ads, ns, cs, rfl, Ls_9, b9⟩; have W9 := W8.step C b9; have La_9 := La_8.below b9; have Lb_9 := Lb_8.below b9; have Lc_9 := Lc_8.below b9)  | (go_at_call 17; (with_reducible refine (F5.out _ _ _ W9.g Lb_9 Lc_9).mono ?_); rintro e w10 ⟨adt, nt, ct, rfl, Lt_10, b10⟩; have W10 := W9.step C b10; have La_10 := La_9.below b10; have Lb_10 := Lb_9.below b10; have Lc_10 := Lc_9.below b10; have Ls_10 := Ls_9.below b10)  | (go_at_call 16; (with_reducible refine (F6.out _ _ _ W10.g La_10 Lc_10).mono ?_); rintro e w11 ⟨adp, np, cp, rfl, Lp_11, b11⟩; have W11 := W10.step C b11; have La_11 := La_10.below b11; have Lb_11 := Lb_10.below b11; have Lc_11 := Lc_10.below b11; have Ls_11 := Ls_10.below b11; have Lt_11 := Lt_10.below b11)  | (go_at_call 16; (with_reducible refine (F7.out _ _ _ W11.g Lb_11 Lc_11).mono ?_); rintro e w12 ⟨adq, nq, cq, rfl, Lq_12, b12⟩; have W12 := W11.step C b12; have La_12 := La_11.below b12; have Ls_12 := Ls_11.below b12; have Lt_12 := Lt_11.below b12; have Lp_12 := Lp_11.below b12)  | (go_at_call 23; (with_reducible refine (F8.out _ _ _ W12.g Ls_12 Lt_12).mono ?_); rintro e w13 ⟨rfl, b13⟩; have W13 := W12.step C b13; have La_13 := La_12.below b13; have Lp_13 := Lp_12.below b13; have Lq_13 := Lq_12.below b13)  | (go_at_call 23; (with_reducible refine (F9.out _ _ _ W13.g Lp_13 Lq_13).mono ?_); rintro e w14 ⟨rfl, b14⟩; have W14 := W13.step C b14; have La_14 := La_13.below b14)  | (go_at_call 22; (with_reducible refine (FO.out _ W14.g).mono ?_); rintro e w15 ⟨ado1, no1, co1, rfl, Lo1_15, b15⟩; have W15 := W14.step C b15; have La_15 := La_14.below b15)  | (go_at_call 17; (with_reducible refine (F10.out _ _ _ W15.g La_15 Lo1_15).mono ?_); rintro e w16 ⟨adup, nup, cup, rfl, Lup_16, b16⟩; have W16 := W15.step C b16; have La_16 := La_15.below b16)  | (go_at_call 19; (with_reducible refine (LS.out _ _ _ W16.g La_16 Lup_16).mono ?_); rintro e w17 ⟨rfl, b17⟩; have W17 := W16.step C b17))
  go_ret
  exact ⟨rfl, W17.bl⟩
set_option maxRecDepth 100000 in
set_option maxHeartbeats 3200000 in
theorem order_ltP {G : World → Prop} (C : NatC G) (va vb vc : Value) (w : World) (g : G w) {a b cc d s t p q up : List Nat}
    (NA : ∀ w', Below w.heap.size w w' → Calls Tryd.prog 14 #[va, .int .i64 500] w' fun e w'' => ∃ a' n c, e = .returned (.slice a' n c) ∧ Lm w'' (.slice a' n c) a ∧ Below w'.heap.size w' w'')
    (NB : ∀ w', Below w.heap.size w w' → Calls Tryd.prog 14 #[vb, .int .i64 500] w' fun e w'' => ∃ a' n c, e = .returned (.slice a' n c) ∧ Lm w'' (.slice a' n c) b ∧ Below w'.heap.size w' w'')
    (NC : ∀ w', Below w.heap.size w w' → Calls Tryd.prog 14 #[vc, .int .i64 500] w' fun e w'' => ∃ a' n c, e = .returned (.slice a' n c) ∧ Lm w'' (.slice a' n c) cc ∧ Below w'.heap.size w' w'')
    (h1 : Nt.cmpV a b = -1) (h2 : Nt.cmpE a b = 0) (h3 : Nt.cmpV b a = 1) (h4 : Nt.cmpE b a = 0) (h5 : decide (a = b) = false) (k : a.length ≤ 1000000) (h6 : Nt.subR a b = ([], 2))
    (h7 : Nt.addR a cc = (s, 0)) (h8 : Nt.addR b cc = (t, 0)) (h9 : Nt.mulR a cc = (p, 0)) (h10 : Nt.mulR b cc = (q, 0)) (h11 : Nt.cmpV s t = -1) (h12 : Nt.cmpE s t = 0) (h13 : Nt.cmpV p q = -1) (h14 : Nt.cmpE p q = 0)
    (h15 : Nt.addR a (Nt.dig 1) = (up, 0)) (ra : Nt.rg a = true) (ru : Nt.rg up = true) (h16 : decide (Nt.val a < Nt.val up) = true) (hp : 0 < cc.length) (hq : cc.length ≤ 1024) :
    Calls Tryd.prog 6 #[va, vb, vc] w fun e w' => e = .returned (.bool true) ∧ Below w.heap.size w w' := by
  have NA := Lib.hid NA
  have NB := Lib.hid NB
  have NC := Lib.hid NC
  have F1 := Lib.hid (cmpc C h1 h2)
  have F2 := Lib.hid (cmpc C h3 h4)
  have S1 := Lib.hid (samed k h5)
  have F3 := Lib.hid (subc C h6)
  have F4 := Lib.hid (addc C h7)
  have F5 := Lib.hid (addc C h8)
  have F6 := Lib.hid (mulc C h9)
  have F7 := Lib.hid (mulc C h10)
  have F8 := Lib.hid (cmpc C h11 h12)
  have F9 := Lib.hid (cmpc C h13 h14)
  have FO := Lib.hid (fun w g => C.of 1 w (by decide) (by decide) g)
  have F10 := Lib.hid (addc C h15)
  have LS := Lib.hid (lessc C ra ru h16)
  have W0 : Wd G w w := ⟨g, Below.refl _ _⟩
  obtain ⟨N, hN⟩ : ∃ N, N = cc.length := ⟨_, rfl⟩
  rw [← hN] at hp hq
  have HN := Lib.hid hN
  clear g h1 h2 h3 h4 h5 k h6 h7 h8 h9 h10 h11 h12 h13 h14 h15 ra ru h16 hN
  go_enter Tryd.func6, Tryd.ntmps6
  go_wp2_with (first | (go_at_call 12; (with_reducible refine (C.awake _ W0.g).mono ?_); rintro e w1 ⟨rfl, b1⟩; have W1 := W0.step C b1)  | (go_at_call 14; (with_reducible refine (NA.out _ W1.bl).mono ?_); rintro e w2 ⟨ada, na, ca, rfl, La_2, b2⟩; have W2 := W1.step C b2)  | (go_at_call 14; (with_reducible refine (NB.out _ W2.bl).mono ?_); rintro e w3 ⟨adb, nb, cb, rfl, Lb_3, b3⟩; have W3 := W2.step C b3; have La_3 := La_2.below b3)  | (go_at_call 14; (with_reducible refine (NC.out _ W3.bl).mono ?_); rintro e w4 ⟨adc, nc, cc, rfl, Lc_4, b4⟩; have W4 := W3.step C b4; have La_4 := La_3.below b4; have Lb_4 := Lb_3.below b4; obtain ⟨_, zc, _⟩ := Lc_4.cap; have zc' : nc = N := (by rw [HN.out]; exact zc); clear zc; subst zc')  | (go_at_call 23; (with_reducible refine (F1.out _ _ _ W4.g La_4 Lb_4).mono ?_); rintro e w5 ⟨rfl, b5⟩; have W5 := W4.step C b5; have La_5 := La_4.below b5; have Lb_5 := Lb_4.below b5; have Lc_5 := Lc_4.below b5)  | (go_at_call 23; (with_reducible refine (F2.out _ _ _ W5.g Lb_5 La_5).mono ?_); rintro e w6 ⟨rfl, b6⟩; have W6 := W5.step C b6; have La_6 := La_5.below b6; have Lb_6 := Lb_5.below b6; have Lc_6 := Lc_5.below b6)  | (go_at_call 20; (with_reducible refine (S1.out _ _ _ La_6 Lb_6).mono ?_); rintro e w7 ⟨rfl, q7⟩; have b7 := q7.bl; have W7 := W6.step C b7; have La_7 := La_6.below b7; have Lb_7 := Lb_6.below b7; have Lc_7 := Lc_6.below b7)  | (go_at_call 21; (with_reducible refine (F3.out _ _ _ W7.g La_7 Lb_7).mono ?_); rintro e w8 ⟨add, nd, cd, rfl, Ld_8, b8⟩; have W8 := W7.step C b8; have La_8 := La_7.below b8; have Lb_8 := Lb_7.below b8; have Lc_8 := Lc_7.below b8; obtain ⟨_, zd, _⟩ := Ld_8.cap; have zd' : nd = 0 := zd; clear zd; subst zd')  | (go_at_call 17; (with_reducible refine (F4.out _ _ _ W8.g La_8 Lc_8).mono ?_); rintro e w9 ⟨ads, ns, cs, rfl, Ls_9, b9⟩; have W9 := W8.step C b9; have La_9 := La_8.below b9; have Lb_9 := Lb_8.below b9; have Lc_9 := Lc_8.below b9)  | (go_at_call 17; (with_reducible refine (F5.out _ _ _ W9.g Lb_9 Lc_9).mono ?_); rintro e w10 ⟨adt, nt, ct, rfl, Lt_10, b10⟩; have W10 := W9.step C b10; have La_10 := La_9.below b10; have Lb_10 := Lb_9.below b10; have Lc_10 := Lc_9.below b10; have Ls_10 := Ls_9.below b10)  | (go_at_call 16; (with_reducible refine (F6.out _ _ _ W10.g La_10 Lc_10).mono ?_); rintro e w11 ⟨adp, np, cp, rfl, Lp_11, b11⟩; have W11 := W10.step C b11; have La_11 := La_10.below b11; have Lb_11 := Lb_10.below b11; have Lc_11 := Lc_10.below b11; have Ls_11 := Ls_10.below b11; have Lt_11 := Lt_10.below b11)  | (go_at_call 16; (with_reducible refine (F7.out _ _ _ W11.g Lb_11 Lc_11).mono ?_); rintro e w12 ⟨adq, nq, cq, rfl, Lq_12, b12⟩; have W12 := W11.step C b12; have La_12 := La_11.below b12; have Ls_12 := Ls_11.below b12; have Lt_12 := Lt_11.below b12; have Lp_12 := Lp_11.below b12)  | (go_at_call 23; (with_reducible refine (F8.out _ _ _ W12.g Ls_12 Lt_12).mono ?_); rintro e w13 ⟨rfl, b13⟩; have W13 := W12.step C b13; have La_13 := La_12.below b13; have Lp_13 := Lp_12.below b13; have Lq_13 := Lq_12.below b13)  | (go_at_call 23; (with_reducible refine (F9.out _ _ _ W13.g Lp_13 Lq_13).mono ?_); rintro e w14 ⟨rfl, b14⟩; have W14 := W13.step C b14; have La_14 := La_13.below b14)  | (go_at_call 22; (with_reducible refine (FO.out _ W14.g).mono ?_); rintro e w15 ⟨ado1, no1, co1, rfl, Lo1_15, b15⟩; have W15 := W14.step C b15; have La_15 := La_14.below b15)  | (go_at_call 17; (with_reducible refine (F10.out _ _ _ W15.g La_15 Lo1_15).mono ?_); rintro e w16 ⟨adup, nup, cup, rfl, Lup_16, b16⟩; have W16 := W15.step C b16; have La_16 := La_15.below b16)  | (go_at_call 19; (with_reducible refine (LS.out _ _ _ W16.g La_16 Lup_16).mono ?_); rintro e w17 ⟨rfl, b17⟩; have W17 := W16.step C b17))
  go_ret
  exact ⟨rfl, W17.bl⟩
set_option maxRecDepth 100000 in
set_option maxHeartbeats 3200000 in
theorem order_eqP {G : World → Prop} (C : NatC G) (va vb vc : Value) (w : World) (g : G w) {a b cc d s t p q up : List Nat}
    (NA : ∀ w', Below w.heap.size w w' → Calls Tryd.prog 14 #[va, .int .i64 500] w' fun e w'' => ∃ a' n c, e = .returned (.slice a' n c) ∧ Lm w'' (.slice a' n c) a ∧ Below w'.heap.size w' w'')
    (NB : ∀ w', Below w.heap.size w w' → Calls Tryd.prog 14 #[vb, .int .i64 500] w' fun e w'' => ∃ a' n c, e = .returned (.slice a' n c) ∧ Lm w'' (.slice a' n c) b ∧ Below w'.heap.size w' w'')
    (NC : ∀ w', Below w.heap.size w w' → Calls Tryd.prog 14 #[vc, .int .i64 500] w' fun e w'' => ∃ a' n c, e = .returned (.slice a' n c) ∧ Lm w'' (.slice a' n c) cc ∧ Below w'.heap.size w' w'')
    (h1 : Nt.cmpV a b = 0) (h2 : Nt.cmpE a b = 0) (h3 : Nt.cmpV b a = 0) (h4 : Nt.cmpE b a = 0) (h5 : decide (a = b) = true) (k : a.length ≤ 1000000) (h6 : Nt.subR a b = ([], 0))
    (h7 : Nt.addR a cc = (s, 0)) (h8 : Nt.addR b cc = (t, 0)) (h9 : Nt.mulR a cc = (p, 0)) (h10 : Nt.mulR b cc = (q, 0)) (h11 : Nt.cmpV s t = 0) (h12 : Nt.cmpE s t = 0) (h13 : Nt.cmpV p q = 0) (h14 : Nt.cmpE p q = 0)
    (h15 : Nt.addR a (Nt.dig 1) = (up, 0)) (ra : Nt.rg a = true) (ru : Nt.rg up = true) (h16 : decide (Nt.val a < Nt.val up) = true) (hp : 0 < cc.length) (hq : cc.length ≤ 1024) :
    Calls Tryd.prog 6 #[va, vb, vc] w fun e w' => e = .returned (.bool true) ∧ Below w.heap.size w w' := by
  have NA := Lib.hid NA
  have NB := Lib.hid NB
  have NC := Lib.hid NC
  have F1 := Lib.hid (cmpc C h1 h2)
  have F2 := Lib.hid (cmpc C h3 h4)
  have S1 := Lib.hid (samed k h5)
  have F3 := Lib.hid (subc C h6)
  have F4 := Lib.hid (addc C h7)
  have F5 := Lib.hid (addc C h8)
  have F6 := Lib.hid (mulc C h9)
  have F7 := Lib.hid (mulc C h10)
  have F8 := Lib.hid (cmpc C h11 h12)
  have F9 := Lib.hid (cmpc C h13 h14)
  have FO := Lib.hid (fun w g => C.of 1 w (by decide) (by decide) g)
  have F10 := Lib.hid (addc C h15)
  have LS := Lib.hid (lessc C ra ru h16)
  have W0 : Wd G w w := ⟨g, Below.refl _ _⟩
  obtain ⟨N, hN⟩ : ∃ N, N = cc.length := ⟨_, rfl⟩
  rw [← hN] at hp hq
  have HN := Lib.hid hN
  clear g h1 h2 h3 h4 h5 k h6 h7 h8 h9 h10 h11 h12 h13 h14 h15 ra ru h16 hN
  go_enter Tryd.func6, Tryd.ntmps6
  go_wp2_with (first | (go_at_call 12; (with_reducible refine (C.awake _ W0.g).mono ?_); rintro e w1 ⟨rfl, b1⟩; have W1 := W0.step C b1)  | (go_at_call 14; (with_reducible refine (NA.out _ W1.bl).mono ?_); rintro e w2 ⟨ada, na, ca, rfl, La_2, b2⟩; have W2 := W1.step C b2)  | (go_at_call 14; (with_reducible refine (NB.out _ W2.bl).mono ?_); rintro e w3 ⟨adb, nb, cb, rfl, Lb_3, b3⟩; have W3 := W2.step C b3; have La_3 := La_2.below b3)  | (go_at_call 14; (with_reducible refine (NC.out _ W3.bl).mono ?_); rintro e w4 ⟨adc, nc, cc, rfl, Lc_4, b4⟩; have W4 := W3.step C b4; have La_4 := La_3.below b4; have Lb_4 := Lb_3.below b4; obtain ⟨_, zc, _⟩ := Lc_4.cap; have zc' : nc = N := (by rw [HN.out]; exact zc); clear zc; subst zc')  | (go_at_call 23; (with_reducible refine (F1.out _ _ _ W4.g La_4 Lb_4).mono ?_); rintro e w5 ⟨rfl, b5⟩; have W5 := W4.step C b5; have La_5 := La_4.below b5; have Lb_5 := Lb_4.below b5; have Lc_5 := Lc_4.below b5)  | (go_at_call 23; (with_reducible refine (F2.out _ _ _ W5.g Lb_5 La_5).mono ?_); rintro e w6 ⟨rfl, b6⟩; have W6 := W5.step C b6; have La_6 := La_5.below b6; have Lb_6 := Lb_5.below b6; have Lc_6 := Lc_5.below b6)  | (go_at_call 20; (with_reducible refine (S1.out _ _ _ La_6 Lb_6).mono ?_); rintro e w7 ⟨rfl, q7⟩; have b7 := q7.bl; have W7 := W6.step C b7; have La_7 := La_6.below b7; have Lb_7 := Lb_6.below b7; have Lc_7 := Lc_6.below b7)  | (go_at_call 21; (with_reducible refine (F3.out _ _ _ W7.g La_7 Lb_7).mono ?_); rintro e w8 ⟨add, nd, cd, rfl, Ld_8, b8⟩; have W8 := W7.step C b8; have La_8 := La_7.below b8; have Lb_8 := Lb_7.below b8; have Lc_8 := Lc_7.below b8; obtain ⟨_, zd, _⟩ := Ld_8.cap; have zd' : nd = 0 := zd; clear zd; subst zd')  | (go_at_call 17; (with_reducible refine (F4.out _ _ _ W8.g La_8 Lc_8).mono ?_); rintro e w9 ⟨ads, ns, cs, rfl, Ls_9, b9⟩; have W9 := W8.step C b9; have La_9 := La_8.below b9; have Lb_9 := Lb_8.below b9; have Lc_9 := Lc_8.below b9)  | (go_at_call 17; (with_reducible refine (F5.out _ _ _ W9.g Lb_9 Lc_9).mono ?_); rintro e w10 ⟨adt, nt, ct, rfl, Lt_10, b10⟩; have W10 := W9.step C b10; have La_10 := La_9.below b10; have Lb_10 := Lb_9.below b10; have Lc_10 := Lc_9.below b10; have Ls_10 := Ls_9.below b10)  | (go_at_call 16; (with_reducible refine (F6.out _ _ _ W10.g La_10 Lc_10).mono ?_); rintro e w11 ⟨adp, np, cp, rfl, Lp_11, b11⟩; have W11 := W10.step C b11; have La_11 := La_10.below b11; have Lb_11 := Lb_10.below b11; have Lc_11 := Lc_10.below b11; have Ls_11 := Ls_10.below b11; have Lt_11 := Lt_10.below b11)  | (go_at_call 16; (with_reducible refine (F7.out _ _ _ W11.g Lb_11 Lc_11).mono ?_); rintro e w12 ⟨adq, nq, cq, rfl, Lq_12, b12⟩; have W12 := W11.step C b12; have La_12 := La_11.below b12; have Ls_12 := Ls_11.below b12; have Lt_12 := Lt_11.below b12; have Lp_12 := Lp_11.below b12)  | (go_at_call 23; (with_reducible refine (F8.out _ _ _ W12.g Ls_12 Lt_12).mono ?_); rintro e w13 ⟨rfl, b13⟩; have W13 := W12.step C b13; have La_13 := La_12.below b13; have Lp_13 := Lp_12.below b13; have Lq_13 := Lq_12.below b13)  | (go_at_call 23; (with_reducible refine (F9.out _ _ _ W13.g Lp_13 Lq_13).mono ?_); rintro e w14 ⟨rfl, b14⟩; have W14 := W13.step C b14; have La_14 := La_13.below b14)  | (go_at_call 22; (with_reducible refine (FO.out _ W14.g).mono ?_); rintro e w15 ⟨ado1, no1, co1, rfl, Lo1_15, b15⟩; have W15 := W14.step C b15; have La_15 := La_14.below b15)  | (go_at_call 17; (with_reducible refine (F10.out _ _ _ W15.g La_15 Lo1_15).mono ?_); rintro e w16 ⟨adup, nup, cup, rfl, Lup_16, b16⟩; have W16 := W15.step C b16; have La_16 := La_15.below b16)  | (go_at_call 19; (with_reducible refine (LS.out _ _ _ W16.g La_16 Lup_16).mono ?_); rintro e w17 ⟨rfl, b17⟩; have W17 := W16.step C b17))
  go_ret
  exact ⟨rfl, W17.bl⟩
set_option maxRecDepth 100000 in
set_option maxHeartbeats 3200000 in
theorem order_gtP {G : World → Prop} (C : NatC G) (va vb vc : Value) (w : World) (g : G w) {a b cc d s t p q up : List Nat}
    (NA : ∀ w', Below w.heap.size w w' → Calls Tryd.prog 14 #[va, .int .i64 500] w' fun e w'' => ∃ a' n c, e = .returned (.slice a' n c) ∧ Lm w'' (.slice a' n c) a ∧ Below w'.heap.size w' w'')
    (NB : ∀ w', Below w.heap.size w w' → Calls Tryd.prog 14 #[vb, .int .i64 500] w' fun e w'' => ∃ a' n c, e = .returned (.slice a' n c) ∧ Lm w'' (.slice a' n c) b ∧ Below w'.heap.size w' w'')
    (NC : ∀ w', Below w.heap.size w w' → Calls Tryd.prog 14 #[vc, .int .i64 500] w' fun e w'' => ∃ a' n c, e = .returned (.slice a' n c) ∧ Lm w'' (.slice a' n c) cc ∧ Below w'.heap.size w' w'')
    (h1 : Nt.cmpV a b = 1) (h2 : Nt.cmpE a b = 0) (h3 : Nt.cmpV b a = -1) (h4 : Nt.cmpE b a = 0) (h5 : decide (a = b) = false) (k : a.length ≤ 1000000) (h6 : Nt.subR a b = (d, 0))
    (h7 : Nt.addR a cc = (s, 0)) (h8 : Nt.addR b cc = (t, 0)) (h9 : Nt.mulR a cc = (p, 0)) (h10 : Nt.mulR b cc = (q, 0)) (h11 : Nt.cmpV s t = 1) (h12 : Nt.cmpE s t = 0) (h13 : Nt.cmpV p q = 1) (h14 : Nt.cmpE p q = 0)
    (h15 : Nt.addR a (Nt.dig 1) = (up, 0)) (ra : Nt.rg a = true) (ru : Nt.rg up = true) (h16 : decide (Nt.val a < Nt.val up) = true) (hp : 0 < cc.length) (hq : cc.length ≤ 1024) :
    Calls Tryd.prog 6 #[va, vb, vc] w fun e w' => e = .returned (.bool true) ∧ Below w.heap.size w w' := by
  have NA := Lib.hid NA
  have NB := Lib.hid NB
  have NC := Lib.hid NC
  have F1 := Lib.hid (cmpc C h1 h2)
  have F2 := Lib.hid (cmpc C h3 h4)
  have S1 := Lib.hid (samed k h5)
  have F3 := Lib.hid (subc C h6)
  have F4 := Lib.hid (addc C h7)
  have F5 := Lib.hid (addc C h8)
  have F6 := Lib.hid (mulc C h9)
  have F7 := Lib.hid (mulc C h10)
  have F8 := Lib.hid (cmpc C h11 h12)
  have F9 := Lib.hid (cmpc C h13 h14)
  have FO := Lib.hid (fun w g => C.of 1 w (by decide) (by decide) g)
  have F10 := Lib.hid (addc C h15)
  have LS := Lib.hid (lessc C ra ru h16)
  have W0 : Wd G w w := ⟨g, Below.refl _ _⟩
  obtain ⟨N, hN⟩ : ∃ N, N = cc.length := ⟨_, rfl⟩
  rw [← hN] at hp hq
  have HN := Lib.hid hN
  clear g h1 h2 h3 h4 h5 k h6 h7 h8 h9 h10 h11 h12 h13 h14 h15 ra ru h16 hN
  go_enter Tryd.func6, Tryd.ntmps6
  go_wp2_with (first | (go_at_call 12; (with_reducible refine (C.awake _ W0.g).mono ?_); rintro e w1 ⟨rfl, b1⟩; have W1 := W0.step C b1)  | (go_at_call 14; (with_reducible refine (NA.out _ W1.bl).mono ?_); rintro e w2 ⟨ada, na, ca, rfl, La_2, b2⟩; have W2 := W1.step C b2)  | (go_at_call 14; (with_reducible refine (NB.out _ W2.bl).mono ?_); rintro e w3 ⟨adb, nb, cb, rfl, Lb_3, b3⟩; have W3 := W2.step C b3; have La_3 := La_2.below b3)  | (go_at_call 14; (with_reducible refine (NC.out _ W3.bl).mono ?_); rintro e w4 ⟨adc, nc, cc, rfl, Lc_4, b4⟩; have W4 := W3.step C b4; have La_4 := La_3.below b4; have Lb_4 := Lb_3.below b4; obtain ⟨_, zc, _⟩ := Lc_4.cap; have zc' : nc = N := (by rw [HN.out]; exact zc); clear zc; subst zc')  | (go_at_call 23; (with_reducible refine (F1.out _ _ _ W4.g La_4 Lb_4).mono ?_); rintro e w5 ⟨rfl, b5⟩; have W5 := W4.step C b5; have La_5 := La_4.below b5; have Lb_5 := Lb_4.below b5; have Lc_5 := Lc_4.below b5)  | (go_at_call 23; (with_reducible refine (F2.out _ _ _ W5.g Lb_5 La_5).mono ?_); rintro e w6 ⟨rfl, b6⟩; have W6 := W5.step C b6; have La_6 := La_5.below b6; have Lb_6 := Lb_5.below b6; have Lc_6 := Lc_5.below b6)  | (go_at_call 20; (with_reducible refine (S1.out _ _ _ La_6 Lb_6).mono ?_); rintro e w7 ⟨rfl, q7⟩; have b7 := q7.bl; have W7 := W6.step C b7; have La_7 := La_6.below b7; have Lb_7 := Lb_6.below b7; have Lc_7 := Lc_6.below b7)  | (go_at_call 21; (with_reducible refine (F3.out _ _ _ W7.g La_7 Lb_7).mono ?_); rintro e w8 ⟨add, nd, cd, rfl, Ld_8, b8⟩; have W8 := W7.step C b8; have La_8 := La_7.below b8; have Lb_8 := Lb_7.below b8; have Lc_8 := Lc_7.below b8)  | (go_at_call 17; (with_reducible refine (F4.out _ _ _ W8.g La_8 Lc_8).mono ?_); rintro e w9 ⟨ads, ns, cs, rfl, Ls_9, b9⟩; have W9 := W8.step C b9; have La_9 := La_8.below b9; have Lb_9 := Lb_8.below b9; have Lc_9 := Lc_8.below b9)  | (go_at_call 17; (with_reducible refine (F5.out _ _ _ W9.g Lb_9 Lc_9).mono ?_); rintro e w10 ⟨adt, nt, ct, rfl, Lt_10, b10⟩; have W10 := W9.step C b10; have La_10 := La_9.below b10; have Lb_10 := Lb_9.below b10; have Lc_10 := Lc_9.below b10; have Ls_10 := Ls_9.below b10)  | (go_at_call 16; (with_reducible refine (F6.out _ _ _ W10.g La_10 Lc_10).mono ?_); rintro e w11 ⟨adp, np, cp, rfl, Lp_11, b11⟩; have W11 := W10.step C b11; have La_11 := La_10.below b11; have Lb_11 := Lb_10.below b11; have Lc_11 := Lc_10.below b11; have Ls_11 := Ls_10.below b11; have Lt_11 := Lt_10.below b11)  | (go_at_call 16; (with_reducible refine (F7.out _ _ _ W11.g Lb_11 Lc_11).mono ?_); rintro e w12 ⟨adq, nq, cq, rfl, Lq_12, b12⟩; have W12 := W11.step C b12; have La_12 := La_11.below b12; have Ls_12 := Ls_11.below b12; have Lt_12 := Lt_11.below b12; have Lp_12 := Lp_11.below b12)  | (go_at_call 23; (with_reducible refine (F8.out _ _ _ W12.g Ls_12 Lt_12).mono ?_); rintro e w13 ⟨rfl, b13⟩; have W13 := W12.step C b13; have La_13 := La_12.below b13; have Lp_13 := Lp_12.below b13; have Lq_13 := Lq_12.below b13)  | (go_at_call 23; (with_reducible refine (F9.out _ _ _ W13.g Lp_13 Lq_13).mono ?_); rintro e w14 ⟨rfl, b14⟩; have W14 := W13.step C b14; have La_14 := La_13.below b14)  | (go_at_call 22; (with_reducible refine (FO.out _ W14.g).mono ?_); rintro e w15 ⟨ado1, no1, co1, rfl, Lo1_15, b15⟩; have W15 := W14.step C b15; have La_15 := La_14.below b15)  | (go_at_call 17; (with_reducible refine (F10.out _ _ _ W15.g La_15 Lo1_15).mono ?_); rintro e w16 ⟨adup, nup, cup, rfl, Lup_16, b16⟩; have W16 := W15.step C b16; have La_16 := La_15.below b16)  | (go_at_call 19; (with_reducible refine (LS.out _ _ _ W16.g La_16 Lup_16).mono ?_); rintro e w17 ⟨rfl, b17⟩; have W17 := W16.step C b17))
  go_ret
  exact ⟨rfl, W17.bl⟩
set_option maxHeartbeats 800000 in
theorem order_any {G : World → Prop} (C : NatC G) (va vb vc : Value) (l m k : List Nat) (w : World) (g : G w) (h : Lm w va l) (h' : Lm w vb m) (h'' : Lm w vc k) (hl : l.length ≤ 9223372036854775807) (hl' : m.length ≤ 9223372036854775807) (hl'' : k.length ≤ 9223372036854775807) :
    Calls Tryd.prog 6 #[va, vb, vc] w fun e w' => e = .returned (.bool true) ∧ Below w.heap.size w w' := by
  obtain ⟨ra, fa, ka⟩ := Nt.num_ok h.fit 500 (by omega)
  obtain ⟨rb, fb, kb⟩ := Nt.num_ok h'.fit 500 (by omega)
  obtain ⟨rc, fc, kc⟩ := Nt.num_ok h''.fit 500 (by omega)
  obtain ⟨A, hA⟩ : ∃ A, Nt.num l 500 = A := ⟨_, rfl⟩
  obtain ⟨B, hB⟩ : ∃ B, Nt.num m 500 = B := ⟨_, rfl⟩
  obtain ⟨D, hD⟩ : ∃ D, Nt.num k 500 = D := ⟨_, rfl⟩
  have NA := numc 500 (by omega) va l w h hl hA (x := 500) rfl
  have NB := numc 500 (by omega) vb m w h' hl' hB (x := 500) rfl
  have NC := numc 500 (by omega) vc k w h'' hl'' hD (x := 500) rfl
  rw [hA] at ra fa ka
  rw [hB] at rb fb kb
  rw [hD] at rc fc kc
  obtain ⟨⟨e1, e2, e3, e4⟩, e5, e6, e7, e8, e9, e10, e11, e12, e13, e14, e15, e16⟩ := Nt.orders fa fb fc ra rb rc ka kb kc
  have nd : Nt.val A ≠ Nt.val B → decide (A = B) = false := fun x => decide_eq_false fun e => x (by rw [e])
  rcases Nat.lt_trichotomy (Nt.val A) (Nt.val B) with c | c | c
  · have sb : Nt.subR A B = ([], 2) := by unfold Nt.subR; rw [if_neg (fun x => by have := x.2.2; omega)]
    rw [Nt.ord_lt c] at e1
    rw [Nt.ord_gt c] at e3
    rw [Nt.ord_lt (by omega)] at e9
    by_cases z : D = []
    · subst z
      rw [Nt.ord_eq (by rw [Nt.val_nil, Nat.mul_zero, Nat.mul_zero])] at e11
      exact order_ltZ C va vb vc w g (d := []) NA NB NC e1 e2 e3 e4 (nd (by omega)) e16 sb e5 e6 e7 e8 e9 e10 e11 e12 e13 ra e14 e15
    · have zp : 0 < Nt.val D := Nat.pos_of_ne_zero fun x => z ((Nt.val_zero fc rc).1 x)
      rw [Nt.ord_lt (Nat.mul_lt_mul_of_pos_right c zp)] at e11
      exact order_ltP C va vb vc w g (d := []) NA NB NC e1 e2 e3 e4 (nd (by omega)) e16 sb e5 e6 e7 e8 e9 e10 e11 e12 e13 ra e14 e15 (List.length_pos_iff.2 z) (by omega)
  · have eab : A = B := Pos.val_inj (Nt.ok_of fa ra) (Nt.ok_of fb rb) c
    have sb : Nt.subR A B = ([], 0) := by rw [Nt.sub_ok ra rb (by omega), c, Nat.sub_self, Nt.dig_zero]
    rw [Nt.ord_eq c] at e1
    rw [Nt.ord_eq c.symm] at e3
    rw [Nt.ord_eq (by rw [c])] at e9
    rw [Nt.ord_eq (by rw [c])] at e11
    by_cases z : D = []
    · subst z
      exact order_eqZ C va vb vc w g (d := []) NA NB NC e1 e2 e3 e4 (decide_eq_true eab) e16 sb e5 e6 e7 e8 e9 e10 e11 e12 e13 ra e14 e15
    · exact order_eqP C va vb vc w g (d := []) NA NB NC e1 e2 e3 e4 (decide_eq_true eab) e16 sb e5 e6 e7 e8 e9 e10 e11 e12 e13 ra e14 e15 (List.length_pos_iff.2 z) (by omega)
  · have sb := Nt.sub_ok ra rb (show Nt.val B ≤ Nt.val A by omega)
    rw [Nt.ord_gt c] at e1
    rw [Nt.ord_lt c] at e3
    rw [Nt.ord_gt (by omega)] at e9
    by_cases z : D = []
    · subst z
      rw [Nt.ord_eq (by rw [Nt.val_nil, Nat.mul_zero, Nat.mul_zero])] at e11
      exact order_gtZ C va vb vc w g NA NB NC e1 e2 e3 e4 (nd (by omega)) e16 sb e5 e6 e7 e8 e9 e10 e11 e12 e13 ra e14 e15
    · have zp : 0 < Nt.val D := Nat.pos_of_ne_zero fun x => z ((Nt.val_zero fc rc).1 x)
      rw [Nt.ord_gt (Nat.mul_lt_mul_of_pos_right c zp)] at e11
      exact order_gtP C va vb vc w g NA NB NC e1 e2 e3 e4 (nd (by omega)) e16 sb e5 e6 e7 e8 e9 e10 e11 e12 e13 ra e14 e15 (List.length_pos_iff.2 z) (by omega)
end Go.Proofs.YtlmigbfpdbkkjaaDoor
