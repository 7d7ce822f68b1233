/- NatReads: its walk, from the contracts of layer 3's functions. -/
import Derived.Test.YtlmigbfpdbkkjaaDoorCNRing
import Derived.Test.YtlmigbfpdbkkjaaDoorTe
import Derived.Test.YtlmigbfpdbkkjaaDoorTc
namespace Go.Proofs.YtlmigbfpdbkkjaaDoor
open Go.RowKit
set_option linter.unusedVariables false

theorem textc {l : List Nat} {s : List UInt8} (h : Nt.rg l = true) (e : Nt.txt (Nt.val l) = s) (v : Value) (w : World) (_ : True) (hl : Lm w v l) :
    Calls Tryd.prog 25 #[v] w fun e w' => e = .returned (.tuple #[.string ⟨s.toArray⟩, .int .i64 0]) ∧ Below w.heap.size w w' := by
  have := text3_any v l w hl
  rw [show Nt.txtR l = (Nt.txt (Nt.val l), 0) by unfold Nt.txtR; rw [h]; rfl, e] at this
  exact this
theorem readc {s : List UInt8} {n : Nat} {r : List Nat} (hs : Nt.txt n = s) (hn : n < Nt.top) (hl : s.length ≤ 9865) (hr : Nt.dig n = r) (w : World) (_ : True) :
    Calls Tryd.prog 26 #[.string ⟨s.toArray⟩] w fun e w' => ∃ a k c, e = .returned (.tuple #[.slice a k c, .int .i64 0]) ∧ Lm w' (.slice a k c) r ∧ Below w.heap.size w w' := by
  subst hs hr
  have := read_yes3 (Nt.txt n) w hl (Nt.txt_is n)
  rw [Nt.txt_val, show Nt.numR n = (Nt.dig n, 0) by unfold Nt.numR; rw [if_pos hn]] at this
  exact this
theorem lessc {l m : List Nat} {b : Bool} (hl : Nt.rg l = true) (hm : Nt.rg m = true) (e : decide (Nt.val l < Nt.val m) = b) (v u : Value) (w : World) (_ : True) (h : Lm w v l) (h' : Lm w u m) :
    Calls Tryd.prog 19 #[v, u] w fun e w' => e = .returned (.bool b) ∧ Below w.heap.size w w' := by
  have := less_any natc v u l m w trivial h h' hl hm
  rw [e] at this; exact this
theorem txt_short {n L : Nat} (h : n < 10 ^ L) (h1 : 1 ≤ L) : (Nt.txt n).length ≤ L := by
  by_cases c : n = 0
  · subst c; exact h1
  · rw [Nt.txt_len c]; exact (Pos.dig_len (by decide) n L).2 h

set_option maxRecDepth 100000 in
set_option maxHeartbeats 3200000 in
theorem reads_zero_lt (va vb : Value) (w : World) (a m : List Nat) (S T U : List UInt8) (n : Nat) (b : Bool) (ha : a = []) (hS : S = [48]) (hU : U = [48]) (ho : S.length < T.length) (hb : b = true)
    (NA : Hid (∀ w', Below w.heap.size w w' → Calls Tryd.prog 14 #[va, .int .i64 200] w' fun e w'' => ∃ x n c, e = .returned (.slice x n c) ∧ Lm w'' (.slice x n c) a ∧ Below w'.heap.size w' w''))
    (NB : Hid (∀ w', Below w.heap.size w w' → Calls Tryd.prog 14 #[vb, .int .i64 200] w' fun e w'' => ∃ x n c, e = .returned (.slice x n c) ∧ Lm w'' (.slice x n c) m ∧ Below w'.heap.size w' w''))
    (T1 : Hid (∀ (v : Value) (w : World), True → Lm w v a → Calls Tryd.prog 25 #[v] w fun e w' => e = .returned (.tuple #[.string ⟨S.toArray⟩, .int .i64 0]) ∧ Below w.heap.size w w'))
    (T2 : Hid (∀ (v : Value) (w : World), True → Lm w v m → Calls Tryd.prog 25 #[v] w fun e w' => e = .returned (.tuple #[.string ⟨T.toArray⟩, .int .i64 0]) ∧ Below w.heap.size w w'))
    (RD : Hid (∀ (w : World), True → Calls Tryd.prog 26 #[.string ⟨S.toArray⟩] w fun e w' => ∃ x k c, e = .returned (.tuple #[.slice x k c, .int .i64 0]) ∧ Lm w' (.slice x k c) a ∧ Below w.heap.size w w'))
    (FM : Hid (∀ (v u : Value) (w : World), True → Lm w v a → Lm w u (Nt.dig 10) → Calls Tryd.prog 16 #[v, u] w fun e w' => ∃ x k c, e = .returned (.tuple #[.slice x k c, .int .i64 0]) ∧ Lm w' (.slice x k c) (Nt.dig n) ∧ Below w.heap.size w w'))
    (T3 : Hid (∀ (v : Value) (w : World), True → Lm w v (Nt.dig n) → Calls Tryd.prog 25 #[v] w fun e w' => e = .returned (.tuple #[.string ⟨U.toArray⟩, .int .i64 0]) ∧ Below w.heap.size w w'))
    (SM : Hid (∀ (v u : Value) (w : World), Lm w v a → Lm w u a → Calls Tryd.prog 20 #[v, u] w fun e w' => e = .returned (.bool true) ∧ Qt w w'))
    (LS : Hid (∀ (v u : Value) (w : World), True → Lm w v a → Lm w u m → Calls Tryd.prog 19 #[v, u] w fun e w' => e = .returned (.bool b) ∧ Below w.heap.size w w')) :
    Calls Tryd.prog 8 #[va, vb] w fun e w' => e = .returned (.bool true) ∧ Below w.heap.size w w' := by
  have C := natc
  subst ha hS hU
  subst hb
  have OL : (1 : Int) < (T.length : Int) := by simp only [List.length_cons, List.length_nil] at ho; omega
  have FO := Lib.hid (fun w g => C.of 10 w (by decide) (by decide) g)
  have W0 : Wd (fun _ => True) w w := ⟨trivial, Below.refl _ _⟩
  go_enter Tryd.func8, Tryd.ntmps8
  go_wp2_with (first | (go_at_call 12; (with_reducible refine (C.awake _ W0.g).mono ?_); rintro e w1 ⟨rfl, b1⟩; have W1 := W0.step C b1)  | (go_at_call 14; (with_reducible refine (NA.out _ W1.bl).mono ?_); rintro e w2 ⟨ada, na, ca, rfl, La_2, b2⟩; have W2 := W1.step C b2; obtain ⟨_, za, _⟩ := La_2.cap; have za' : na = 0 := za; clear za; subst za')  | (go_at_call 14; (with_reducible refine (NB.out _ W2.bl).mono ?_); rintro e w3 ⟨adb, nb, cb, rfl, Lb_3, b3⟩; have W3 := W2.step C b3; have La_3 := La_2.below b3)  | (go_at_call 25; (with_reducible refine (T1.out _ _ W3.g La_3).mono ?_); rintro e w4 ⟨rfl, b4⟩; have W4 := W3.step C b4; have La_4 := La_3.below b4; have Lb_4 := Lb_3.below b4)  | (go_at_call 25; (with_reducible refine (T2.out _ _ W4.g Lb_4).mono ?_); rintro e w5 ⟨rfl, b5⟩; have W5 := W4.step C b5; have La_5 := La_4.below b5; have Lb_5 := Lb_4.below b5)  | (go_at_call 26; (with_reducible refine (RD.out _ W5.g).mono ?_); rintro e w6 ⟨adback, nback, cback, rfl, Lback_6, b6⟩; have W6 := W5.step C b6; have La_6 := La_5.below b6; have Lb_6 := Lb_5.below b6)  | (go_at_call 22; (with_reducible refine (FO.out _ W6.g).mono ?_); rintro e w7 ⟨ado1, no1, co1, rfl, Lo1_7, b7⟩; have W7 := W6.step C b7; have La_7 := La_6.below b7; have Lb_7 := Lb_6.below b7; have Lback_7 := Lback_6.below b7)  | (go_at_call 16; (with_reducible refine (FM.out _ _ _ W7.g La_7 Lo1_7).mono ?_); rintro e w8 ⟨adten, nten, cten, rfl, Lten_8, b8⟩; have W8 := W7.step C b8; have La_8 := La_7.below b8; have Lb_8 := Lb_7.below b8; have Lback_8 := Lback_7.below b8)  | (go_at_call 25; (with_reducible refine (T3.out _ _ W8.g Lten_8).mono ?_); rintro e w9 ⟨rfl, b9⟩; have W9 := W8.step C b9; have La_9 := La_8.below b9; have Lb_9 := Lb_8.below b9; have Lback_9 := Lback_8.below b9)  | (go_at_call 20; (with_reducible refine (SM.out _ _ _ Lback_9 La_9).mono ?_); rintro e w10 ⟨rfl, q10⟩; have b10 := q10.bl; have W10 := W9.step C b10; have La_10 := La_9.below b10; have Lb_10 := Lb_9.below b10)  | (go_at_call 19; (with_reducible refine (LS.out _ _ _ W10.g La_10 Lb_10).mono ?_); rintro e w11 ⟨rfl, b11⟩; have W11 := W10.step C b11))
  go_ret
  first | exact ⟨rfl, W11.bl⟩ | exact ⟨ret_bool (decide_eq_true (by omega)), W11.bl⟩ | exact ⟨ret_bool (by simp; omega), W11.bl⟩
set_option maxRecDepth 100000 in
set_option maxHeartbeats 3200000 in
theorem reads_zero_gt (va vb : Value) (w : World) (a m : List Nat) (S T U : List UInt8) (n : Nat) (b : Bool) (ha : a = []) (hS : S = [48]) (hU : U = [48]) (ho : T.length < S.length) (hb : b = false)
    (NA : Hid (∀ w', Below w.heap.size w w' → Calls Tryd.prog 14 #[va, .int .i64 200] w' fun e w'' => ∃ x n c, e = .returned (.slice x n c) ∧ Lm w'' (.slice x n c) a ∧ Below w'.heap.size w' w''))
    (NB : Hid (∀ w', Below w.heap.size w w' → Calls Tryd.prog 14 #[vb, .int .i64 200] w' fun e w'' => ∃ x n c, e = .returned (.slice x n c) ∧ Lm w'' (.slice x n c) m ∧ Below w'.heap.size w' w''))
    (T1 : Hid (∀ (v : Value) (w : World), True → Lm w v a → Calls Tryd.prog 25 #[v] w fun e w' => e = .returned (.tuple #[.string ⟨S.toArray⟩, .int .i64 0]) ∧ Below w.heap.size w w'))
    (T2 : Hid (∀ (v : Value) (w : World), True → Lm w v m → Calls Tryd.prog 25 #[v] w fun e w' => e = .returned (.tuple #[.string ⟨T.toArray⟩, .int .i64 0]) ∧ Below w.heap.size w w'))
    (RD : Hid (∀ (w : World), True → Calls Tryd.prog 26 #[.string ⟨S.toArray⟩] w fun e w' => ∃ x k c, e = .returned (.tuple #[.slice x k c, .int .i64 0]) ∧ Lm w' (.slice x k c) a ∧ Below w.heap.size w w'))
    (FM : Hid (∀ (v u : Value) (w : World), True → Lm w v a → Lm w u (Nt.dig 10) → Calls Tryd.prog 16 #[v, u] w fun e w' => ∃ x k c, e = .returned (.tuple #[.slice x k c, .int .i64 0]) ∧ Lm w' (.slice x k c) (Nt.dig n) ∧ Below w.heap.size w w'))
    (T3 : Hid (∀ (v : Value) (w : World), True → Lm w v (Nt.dig n) → Calls Tryd.prog 25 #[v] w fun e w' => e = .returned (.tuple #[.string ⟨U.toArray⟩, .int .i64 0]) ∧ Below w.heap.size w w'))
    (SM : Hid (∀ (v u : Value) (w : World), Lm w v a → Lm w u a → Calls Tryd.prog 20 #[v, u] w fun e w' => e = .returned (.bool true) ∧ Qt w w'))
    (LS : Hid (∀ (v u : Value) (w : World), True → Lm w v a → Lm w u m → Calls Tryd.prog 19 #[v, u] w fun e w' => e = .returned (.bool b) ∧ Below w.heap.size w w')) :
    Calls Tryd.prog 8 #[va, vb] w fun e w' => e = .returned (.bool true) ∧ Below w.heap.size w w' := by
  have C := natc
  subst ha hS hU
  subst hb
  have OL : (T.length : Int) < 1 := by simp only [List.length_cons, List.length_nil] at ho; omega
  have FO := Lib.hid (fun w g => C.of 10 w (by decide) (by decide) g)
  have W0 : Wd (fun _ => True) w w := ⟨trivial, Below.refl _ _⟩
  go_enter Tryd.func8, Tryd.ntmps8
  go_wp2_with (first | (go_at_call 12; (with_reducible refine (C.awake _ W0.g).mono ?_); rintro e w1 ⟨rfl, b1⟩; have W1 := W0.step C b1)  | (go_at_call 14; (with_reducible refine (NA.out _ W1.bl).mono ?_); rintro e w2 ⟨ada, na, ca, rfl, La_2, b2⟩; have W2 := W1.step C b2; obtain ⟨_, za, _⟩ := La_2.cap; have za' : na = 0 := za; clear za; subst za')  | (go_at_call 14; (with_reducible refine (NB.out _ W2.bl).mono ?_); rintro e w3 ⟨adb, nb, cb, rfl, Lb_3, b3⟩; have W3 := W2.step C b3; have La_3 := La_2.below b3)  | (go_at_call 25; (with_reducible refine (T1.out _ _ W3.g La_3).mono ?_); rintro e w4 ⟨rfl, b4⟩; have W4 := W3.step C b4; have La_4 := La_3.below b4; have Lb_4 := Lb_3.below b4)  | (go_at_call 25; (with_reducible refine (T2.out _ _ W4.g Lb_4).mono ?_); rintro e w5 ⟨rfl, b5⟩; have W5 := W4.step C b5; have La_5 := La_4.below b5; have Lb_5 := Lb_4.below b5)  | (go_at_call 26; (with_reducible refine (RD.out _ W5.g).mono ?_); rintro e w6 ⟨adback, nback, cback, rfl, Lback_6, b6⟩; have W6 := W5.step C b6; have La_6 := La_5.below b6; have Lb_6 := Lb_5.below b6)  | (go_at_call 22; (with_reducible refine (FO.out _ W6.g).mono ?_); rintro e w7 ⟨ado1, no1, co1, rfl, Lo1_7, b7⟩; have W7 := W6.step C b7; have La_7 := La_6.below b7; have Lb_7 := Lb_6.below b7; have Lback_7 := Lback_6.below b7)  | (go_at_call 16; (with_reducible refine (FM.out _ _ _ W7.g La_7 Lo1_7).mono ?_); rintro e w8 ⟨adten, nten, cten, rfl, Lten_8, b8⟩; have W8 := W7.step C b8; have La_8 := La_7.below b8; have Lb_8 := Lb_7.below b8; have Lback_8 := Lback_7.below b8)  | (go_at_call 25; (with_reducible refine (T3.out _ _ W8.g Lten_8).mono ?_); rintro e w9 ⟨rfl, b9⟩; have W9 := W8.step C b9; have La_9 := La_8.below b9; have Lb_9 := Lb_8.below b9; have Lback_9 := Lback_8.below b9)  | (go_at_call 20; (with_reducible refine (SM.out _ _ _ Lback_9 La_9).mono ?_); rintro e w10 ⟨rfl, q10⟩; have b10 := q10.bl; have W10 := W9.step C b10; have La_10 := La_9.below b10; have Lb_10 := Lb_9.below b10)  | (go_at_call 19; (with_reducible refine (LS.out _ _ _ W10.g La_10 Lb_10).mono ?_); rintro e w11 ⟨rfl, b11⟩; have W11 := W10.step C b11))
  go_ret
  first | exact ⟨rfl, W11.bl⟩ | exact ⟨ret_bool (decide_eq_true (by omega)), W11.bl⟩ | exact ⟨ret_bool (by simp; omega), W11.bl⟩
set_option maxRecDepth 100000 in
set_option maxHeartbeats 3200000 in
theorem reads_zero_eq (va vb : Value) (w : World) (a m : List Nat) (S T U : List UInt8) (n : Nat) (b : Bool) (ha : a = []) (hS : S = [48]) (hU : U = [48]) (ho : S.length = T.length) (BL : Op.bytesLess S T = b)
    (NA : Hid (∀ w', Below w.heap.size w w' → Calls Tryd.prog 14 #[va, .int .i64 200] w' fun e w'' => ∃ x n c, e = .returned (.slice x n c) ∧ Lm w'' (.slice x n c) a ∧ Below w'.heap.size w' w''))
    (NB : Hid (∀ w', Below w.heap.size w w' → Calls Tryd.prog 14 #[vb, .int .i64 200] w' fun e w'' => ∃ x n c, e = .returned (.slice x n c) ∧ Lm w'' (.slice x n c) m ∧ Below w'.heap.size w' w''))
    (T1 : Hid (∀ (v : Value) (w : World), True → Lm w v a → Calls Tryd.prog 25 #[v] w fun e w' => e = .returned (.tuple #[.string ⟨S.toArray⟩, .int .i64 0]) ∧ Below w.heap.size w w'))
    (T2 : Hid (∀ (v : Value) (w : World), True → Lm w v m → Calls Tryd.prog 25 #[v] w fun e w' => e = .returned (.tuple #[.string ⟨T.toArray⟩, .int .i64 0]) ∧ Below w.heap.size w w'))
    (RD : Hid (∀ (w : World), True → Calls Tryd.prog 26 #[.string ⟨S.toArray⟩] w fun e w' => ∃ x k c, e = .returned (.tuple #[.slice x k c, .int .i64 0]) ∧ Lm w' (.slice x k c) a ∧ Below w.heap.size w w'))
    (FM : Hid (∀ (v u : Value) (w : World), True → Lm w v a → Lm w u (Nt.dig 10) → Calls Tryd.prog 16 #[v, u] w fun e w' => ∃ x k c, e = .returned (.tuple #[.slice x k c, .int .i64 0]) ∧ Lm w' (.slice x k c) (Nt.dig n) ∧ Below w.heap.size w w'))
    (T3 : Hid (∀ (v : Value) (w : World), True → Lm w v (Nt.dig n) → Calls Tryd.prog 25 #[v] w fun e w' => e = .returned (.tuple #[.string ⟨U.toArray⟩, .int .i64 0]) ∧ Below w.heap.size w w'))
    (SM : Hid (∀ (v u : Value) (w : World), Lm w v a → Lm w u a → Calls Tryd.prog 20 #[v, u] w fun e w' => e = .returned (.bool true) ∧ Qt w w'))
    (LS : Hid (∀ (v u : Value) (w : World), True → Lm w v a → Lm w u m → Calls Tryd.prog 19 #[v, u] w fun e w' => e = .returned (.bool b) ∧ Below w.heap.size w w')) :
    Calls Tryd.prog 8 #[va, vb] w fun e w' => e = .returned (.bool true) ∧ Below w.heap.size w w' := by
  have C := natc
  subst ha hS hU
  obtain ⟨m, hm⟩ : ∃ m, m = T.length := ⟨_, rfl⟩
  rw [← hm] at ho
  have ho2 := hm.symm
  clear hm
  have FO := Lib.hid (fun w g => C.of 10 w (by decide) (by decide) g)
  have W0 : Wd (fun _ => True) w w := ⟨trivial, Below.refl _ _⟩
  go_enter Tryd.func8, Tryd.ntmps8
  go_wp2_with (first | (go_at_call 12; (with_reducible refine (C.awake _ W0.g).mono ?_); rintro e w1 ⟨rfl, b1⟩; have W1 := W0.step C b1)  | (go_at_call 14; (with_reducible refine (NA.out _ W1.bl).mono ?_); rintro e w2 ⟨ada, na, ca, rfl, La_2, b2⟩; have W2 := W1.step C b2; obtain ⟨_, za, _⟩ := La_2.cap; have za' : na = 0 := za; clear za; subst za')  | (go_at_call 14; (with_reducible refine (NB.out _ W2.bl).mono ?_); rintro e w3 ⟨adb, nb, cb, rfl, Lb_3, b3⟩; have W3 := W2.step C b3; have La_3 := La_2.below b3)  | (go_at_call 25; (with_reducible refine (T1.out _ _ W3.g La_3).mono ?_); rintro e w4 ⟨rfl, b4⟩; have W4 := W3.step C b4; have La_4 := La_3.below b4; have Lb_4 := Lb_3.below b4)  | (go_at_call 25; (with_reducible refine (T2.out _ _ W4.g Lb_4).mono ?_); rintro e w5 ⟨rfl, b5⟩; have W5 := W4.step C b5; have La_5 := La_4.below b5; have Lb_5 := Lb_4.below b5)  | (go_at_call 26; (with_reducible refine (RD.out _ W5.g).mono ?_); rintro e w6 ⟨adback, nback, cback, rfl, Lback_6, b6⟩; have W6 := W5.step C b6; have La_6 := La_5.below b6; have Lb_6 := Lb_5.below b6)  | (go_at_call 22; (with_reducible refine (FO.out _ W6.g).mono ?_); rintro e w7 ⟨ado1, no1, co1, rfl, Lo1_7, b7⟩; have W7 := W6.step C b7; have La_7 := La_6.below b7; have Lb_7 := Lb_6.below b7; have Lback_7 := Lback_6.below b7)  | (go_at_call 16; (with_reducible refine (FM.out _ _ _ W7.g La_7 Lo1_7).mono ?_); rintro e w8 ⟨adten, nten, cten, rfl, Lten_8, b8⟩; have W8 := W7.step C b8; have La_8 := La_7.below b8; have Lb_8 := Lb_7.below b8; have Lback_8 := Lback_7.below b8)  | (go_at_call 25; (with_reducible refine (T3.out _ _ W8.g Lten_8).mono ?_); rintro e w9 ⟨rfl, b9⟩; have W9 := W8.step C b9; have La_9 := La_8.below b9; have Lb_9 := Lb_8.below b9; have Lback_9 := Lback_8.below b9)  | (go_at_call 20; (with_reducible refine (SM.out _ _ _ Lback_9 La_9).mono ?_); rintro e w10 ⟨rfl, q10⟩; have b10 := q10.bl; have W10 := W9.step C b10; have La_10 := La_9.below b10; have Lb_10 := Lb_9.below b10)  | (go_at_call 19; (with_reducible refine (LS.out _ _ _ W10.g La_10 Lb_10).mono ?_); rintro e w11 ⟨rfl, b11⟩; have W11 := W10.step C b11))
  go_ret
  first | exact ⟨rfl, W11.bl⟩ | exact ⟨ret_bool (decide_eq_true (by omega)), W11.bl⟩ | exact ⟨ret_bool (by simp; omega), W11.bl⟩
set_option maxRecDepth 100000 in
set_option maxHeartbeats 3200000 in
theorem reads_some_lt (va vb : Value) (w : World) (a m : List Nat) (S T U : List UInt8) (n : Nat) (b : Bool) (N : Nat) (HN : Hid (N = a.length)) (hN : 0 < N) (hU : U = S ++ [48]) (hSl : S.length ≤ 9865) (ho : S.length < T.length) (hb : b = true)
    (NA : Hid (∀ w', Below w.heap.size w w' → Calls Tryd.prog 14 #[va, .int .i64 200] w' fun e w'' => ∃ x n c, e = .returned (.slice x n c) ∧ Lm w'' (.slice x n c) a ∧ Below w'.heap.size w' w''))
    (NB : Hid (∀ w', Below w.heap.size w w' → Calls Tryd.prog 14 #[vb, .int .i64 200] w' fun e w'' => ∃ x n c, e = .returned (.slice x n c) ∧ Lm w'' (.slice x n c) m ∧ Below w'.heap.size w' w''))
    (T1 : Hid (∀ (v : Value) (w : World), True → Lm w v a → Calls Tryd.prog 25 #[v] w fun e w' => e = .returned (.tuple #[.string ⟨S.toArray⟩, .int .i64 0]) ∧ Below w.heap.size w w'))
    (T2 : Hid (∀ (v : Value) (w : World), True → Lm w v m → Calls Tryd.prog 25 #[v] w fun e w' => e = .returned (.tuple #[.string ⟨T.toArray⟩, .int .i64 0]) ∧ Below w.heap.size w w'))
    (RD : Hid (∀ (w : World), True → Calls Tryd.prog 26 #[.string ⟨S.toArray⟩] w fun e w' => ∃ x k c, e = .returned (.tuple #[.slice x k c, .int .i64 0]) ∧ Lm w' (.slice x k c) a ∧ Below w.heap.size w w'))
    (FM : Hid (∀ (v u : Value) (w : World), True → Lm w v a → Lm w u (Nt.dig 10) → Calls Tryd.prog 16 #[v, u] w fun e w' => ∃ x k c, e = .returned (.tuple #[.slice x k c, .int .i64 0]) ∧ Lm w' (.slice x k c) (Nt.dig n) ∧ Below w.heap.size w w'))
    (T3 : Hid (∀ (v : Value) (w : World), True → Lm w v (Nt.dig n) → Calls Tryd.prog 25 #[v] w fun e w' => e = .returned (.tuple #[.string ⟨U.toArray⟩, .int .i64 0]) ∧ Below w.heap.size w w'))
    (SM : Hid (∀ (v u : Value) (w : World), Lm w v a → Lm w u a → Calls Tryd.prog 20 #[v, u] w fun e w' => e = .returned (.bool true) ∧ Qt w w'))
    (LS : Hid (∀ (v u : Value) (w : World), True → Lm w v a → Lm w u m → Calls Tryd.prog 19 #[v, u] w fun e w' => e = .returned (.bool b) ∧ Below w.heap.size w w')) :
    Calls Tryd.prog 8 #[va, vb] w fun e w' => e = .returned (.bool true) ∧ Below w.heap.size w w' := by
  have C := natc
  have AP : (⟨S.toArray⟩ : ByteArray) ++ ⟨#[48]⟩ = ⟨U.toArray⟩ := by rw [hU]; exact app S [48]
  clear hU
  subst hb
  have OL : (S.length : Int) < (T.length : Int) := by omega
  have FO := Lib.hid (fun w g => C.of 10 w (by decide) (by decide) g)
  have W0 : Wd (fun _ => True) w w := ⟨trivial, Below.refl _ _⟩
  go_enter Tryd.func8, Tryd.ntmps8
  go_wp2_with (first | (go_at_call 12; (with_reducible refine (C.awake _ W0.g).mono ?_); rintro e w1 ⟨rfl, b1⟩; have W1 := W0.step C b1)  | (go_at_call 14; (with_reducible refine (NA.out _ W1.bl).mono ?_); rintro e w2 ⟨ada, na, ca, rfl, La_2, b2⟩; have W2 := W1.step C b2; obtain ⟨_, za, _⟩ := La_2.cap; have za' : na = N := (by rw [HN.out]; exact za); clear za; subst za')  | (go_at_call 14; (with_reducible refine (NB.out _ W2.bl).mono ?_); rintro e w3 ⟨adb, nb, cb, rfl, Lb_3, b3⟩; have W3 := W2.step C b3; have La_3 := La_2.below b3)  | (go_at_call 25; (with_reducible refine (T1.out _ _ W3.g La_3).mono ?_); rintro e w4 ⟨rfl, b4⟩; have W4 := W3.step C b4; have La_4 := La_3.below b4; have Lb_4 := Lb_3.below b4)  | (go_at_call 25; (with_reducible refine (T2.out _ _ W4.g Lb_4).mono ?_); rintro e w5 ⟨rfl, b5⟩; have W5 := W4.step C b5; have La_5 := La_4.below b5; have Lb_5 := Lb_4.below b5)  | (go_at_call 26; (with_reducible refine (RD.out _ W5.g).mono ?_); rintro e w6 ⟨adback, nback, cback, rfl, Lback_6, b6⟩; have W6 := W5.step C b6; have La_6 := La_5.below b6; have Lb_6 := Lb_5.below b6)  | (go_at_call 22; (with_reducible refine (FO.out _ W6.g).mono ?_); rintro e w7 ⟨ado1, no1, co1, rfl, Lo1_7, b7⟩; have W7 := W6.step C b7; have La_7 := La_6.below b7; have Lb_7 := Lb_6.below b7; have Lback_7 := Lback_6.below b7)  | (go_at_call 16; (with_reducible refine (FM.out _ _ _ W7.g La_7 Lo1_7).mono ?_); rintro e w8 ⟨adten, nten, cten, rfl, Lten_8, b8⟩; have W8 := W7.step C b8; have La_8 := La_7.below b8; have Lb_8 := Lb_7.below b8; have Lback_8 := Lback_7.below b8)  | (go_at_call 25; (with_reducible refine (T3.out _ _ W8.g Lten_8).mono ?_); rintro e w9 ⟨rfl, b9⟩; have W9 := W8.step C b9; have La_9 := La_8.below b9; have Lb_9 := Lb_8.below b9; have Lback_9 := Lback_8.below b9)  | (go_at_call 20; (with_reducible refine (SM.out _ _ _ Lback_9 La_9).mono ?_); rintro e w10 ⟨rfl, q10⟩; have b10 := q10.bl; have W10 := W9.step C b10; have La_10 := La_9.below b10; have Lb_10 := Lb_9.below b10)  | (go_at_call 19; (with_reducible refine (LS.out _ _ _ W10.g La_10 Lb_10).mono ?_); rintro e w11 ⟨rfl, b11⟩; have W11 := W10.step C b11))
  go_ret
  first | exact ⟨rfl, W11.bl⟩ | exact ⟨ret_bool (decide_eq_true (by omega)), W11.bl⟩ | exact ⟨ret_bool (by simp; omega), W11.bl⟩
set_option maxRecDepth 100000 in
set_option maxHeartbeats 3200000 in
theorem reads_some_gt (va vb : Value) (w : World) (a m : List Nat) (S T U : List UInt8) (n : Nat) (b : Bool) (N : Nat) (HN : Hid (N = a.length)) (hN : 0 < N) (hU : U = S ++ [48]) (hSl : S.length ≤ 9865) (ho : T.length < S.length) (hb : b = false)
    (NA : Hid (∀ w', Below w.heap.size w w' → Calls Tryd.prog 14 #[va, .int .i64 200] w' fun e w'' => ∃ x n c, e = .returned (.slice x n c) ∧ Lm w'' (.slice x n c) a ∧ Below w'.heap.size w' w''))
    (NB : Hid (∀ w', Below w.heap.size w w' → Calls Tryd.prog 14 #[vb, .int .i64 200] w' fun e w'' => ∃ x n c, e = .returned (.slice x n c) ∧ Lm w'' (.slice x n c) m ∧ Below w'.heap.size w' w''))
    (T1 : Hid (∀ (v : Value) (w : World), True → Lm w v a → Calls Tryd.prog 25 #[v] w fun e w' => e = .returned (.tuple #[.string ⟨S.toArray⟩, .int .i64 0]) ∧ Below w.heap.size w w'))
    (T2 : Hid (∀ (v : Value) (w : World), True → Lm w v m → Calls Tryd.prog 25 #[v] w fun e w' => e = .returned (.tuple #[.string ⟨T.toArray⟩, .int .i64 0]) ∧ Below w.heap.size w w'))
    (RD : Hid (∀ (w : World), True → Calls Tryd.prog 26 #[.string ⟨S.toArray⟩] w fun e w' => ∃ x k c, e = .returned (.tuple #[.slice x k c, .int .i64 0]) ∧ Lm w' (.slice x k c) a ∧ Below w.heap.size w w'))
    (FM : Hid (∀ (v u : Value) (w : World), True → Lm w v a → Lm w u (Nt.dig 10) → Calls Tryd.prog 16 #[v, u] w fun e w' => ∃ x k c, e = .returned (.tuple #[.slice x k c, .int .i64 0]) ∧ Lm w' (.slice x k c) (Nt.dig n) ∧ Below w.heap.size w w'))
    (T3 : Hid (∀ (v : Value) (w : World), True → Lm w v (Nt.dig n) → Calls Tryd.prog 25 #[v] w fun e w' => e = .returned (.tuple #[.string ⟨U.toArray⟩, .int .i64 0]) ∧ Below w.heap.size w w'))
    (SM : Hid (∀ (v u : Value) (w : World), Lm w v a → Lm w u a → Calls Tryd.prog 20 #[v, u] w fun e w' => e = .returned (.bool true) ∧ Qt w w'))
    (LS : Hid (∀ (v u : Value) (w : World), True → Lm w v a → Lm w u m → Calls Tryd.prog 19 #[v, u] w fun e w' => e = .returned (.bool b) ∧ Below w.heap.size w w')) :
    Calls Tryd.prog 8 #[va, vb] w fun e w' => e = .returned (.bool true) ∧ Below w.heap.size w w' := by
  have C := natc
  have AP : (⟨S.toArray⟩ : ByteArray) ++ ⟨#[48]⟩ = ⟨U.toArray⟩ := by rw [hU]; exact app S [48]
  clear hU
  subst hb
  have OL : (T.length : Int) < (S.length : Int) := by omega
  have FO := Lib.hid (fun w g => C.of 10 w (by decide) (by decide) g)
  have W0 : Wd (fun _ => True) w w := ⟨trivial, Below.refl _ _⟩
  go_enter Tryd.func8, Tryd.ntmps8
  go_wp2_with (first | (go_at_call 12; (with_reducible refine (C.awake _ W0.g).mono ?_); rintro e w1 ⟨rfl, b1⟩; have W1 := W0.step C b1)  | (go_at_call 14; (with_reducible refine (NA.out _ W1.bl).mono ?_); rintro e w2 ⟨ada, na, ca, rfl, La_2, b2⟩; have W2 := W1.step C b2; obtain ⟨_, za, _⟩ := La_2.cap; have za' : na = N := (by rw [HN.out]; exact za); clear za; subst za')  | (go_at_call 14; (with_reducible refine (NB.out _ W2.bl).mono ?_); rintro e w3 ⟨adb, nb, cb, rfl, Lb_3, b3⟩; have W3 := W2.step C b3; have La_3 := La_2.below b3)  | (go_at_call 25; (with_reducible refine (T1.out _ _ W3.g La_3).mono ?_); rintro e w4 ⟨rfl, b4⟩; have W4 := W3.step C b4; have La_4 := La_3.below b4; have Lb_4 := Lb_3.below b4)  | (go_at_call 25; (with_reducible refine (T2.out _ _ W4.g Lb_4).mono ?_); rintro e w5 ⟨rfl, b5⟩; have W5 := W4.step C b5; have La_5 := La_4.below b5; have Lb_5 := Lb_4.below b5)  | (go_at_call 26; (with_reducible refine (RD.out _ W5.g).mono ?_); rintro e w6 ⟨adback, nback, cback, rfl, Lback_6, b6⟩; have W6 := W5.step C b6; have La_6 := La_5.below b6; have Lb_6 := Lb_5.below b6)  | (go_at_call 22; (with_reducible refine (FO.out _ W6.g).mono ?_); rintro e w7 ⟨ado1, no1, co1, rfl, Lo1_7, b7⟩; have W7 := W6.step C b7; have La_7 := La_6.below b7; have Lb_7 := Lb_6.below b7; have Lback_7 := Lback_6.below b7)  | (go_at_call 16; (with_reducible refine (FM.out _ _ _ W7.g La_7 Lo1_7).mono ?_); rintro e w8 ⟨adten, nten, cten, rfl, Lten_8, b8⟩; have W8 := W7.step C b8; have La_8 := La_7.below b8; have Lb_8 := Lb_7.below b8; have Lback_8 := Lback_7.below b8)  | (go_at_call 25; (with_reducible refine (T3.out _ _ W8.g Lten_8).mono ?_); rintro e w9 ⟨rfl, b9⟩; have W9 := W8.step C b9; have La_9 := La_8.below b9; have Lb_9 := Lb_8.below b9; have Lback_9 := Lback_8.below b9)  | (go_at_call 20; (with_reducible refine (SM.out _ _ _ Lback_9 La_9).mono ?_); rintro e w10 ⟨rfl, q10⟩; have b10 := q10.bl; have W10 := W9.step C b10; have La_10 := La_9.below b10; have Lb_10 := Lb_9.below b10)  | (go_at_call 19; (with_reducible refine (LS.out _ _ _ W10.g La_10 Lb_10).mono ?_); rintro e w11 ⟨rfl, b11⟩; have W11 := W10.step C b11))
  go_ret
  first | exact ⟨rfl, W11.bl⟩ | exact ⟨ret_bool (decide_eq_true (by omega)), W11.bl⟩ | exact ⟨ret_bool (by simp; omega), W11.bl⟩
set_option maxRecDepth 100000 in
set_option maxHeartbeats 3200000 in
theorem reads_some_eq (va vb : Value) (w : World) (a m : List Nat) (S T U : List UInt8) (n : Nat) (b : Bool) (N : Nat) (HN : Hid (N = a.length)) (hN : 0 < N) (hU : U = S ++ [48]) (hSl : S.length ≤ 9865) (ho : S.length = T.length) (BL : Op.bytesLess S T = b)
    (NA : Hid (∀ w', Below w.heap.size w w' → Calls Tryd.prog 14 #[va, .int .i64 200] w' fun e w'' => ∃ x n c, e = .returned (.slice x n c) ∧ Lm w'' (.slice x n c) a ∧ Below w'.heap.size w' w''))
    (NB : Hid (∀ w', Below w.heap.size w w' → Calls Tryd.prog 14 #[vb, .int .i64 200] w' fun e w'' => ∃ x n c, e = .returned (.slice x n c) ∧ Lm w'' (.slice x n c) m ∧ Below w'.heap.size w' w''))
    (T1 : Hid (∀ (v : Value) (w : World), True → Lm w v a → Calls Tryd.prog 25 #[v] w fun e w' => e = .returned (.tuple #[.string ⟨S.toArray⟩, .int .i64 0]) ∧ Below w.heap.size w w'))
    (T2 : Hid (∀ (v : Value) (w : World), True → Lm w v m → Calls Tryd.prog 25 #[v] w fun e w' => e = .returned (.tuple #[.string ⟨T.toArray⟩, .int .i64 0]) ∧ Below w.heap.size w w'))
    (RD : Hid (∀ (w : World), True → Calls Tryd.prog 26 #[.string ⟨S.toArray⟩] w fun e w' => ∃ x k c, e = .returned (.tuple #[.slice x k c, .int .i64 0]) ∧ Lm w' (.slice x k c) a ∧ Below w.heap.size w w'))
    (FM : Hid (∀ (v u : Value) (w : World), True → Lm w v a → Lm w u (Nt.dig 10) → Calls Tryd.prog 16 #[v, u] w fun e w' => ∃ x k c, e = .returned (.tuple #[.slice x k c, .int .i64 0]) ∧ Lm w' (.slice x k c) (Nt.dig n) ∧ Below w.heap.size w w'))
    (T3 : Hid (∀ (v : Value) (w : World), True → Lm w v (Nt.dig n) → Calls Tryd.prog 25 #[v] w fun e w' => e = .returned (.tuple #[.string ⟨U.toArray⟩, .int .i64 0]) ∧ Below w.heap.size w w'))
    (SM : Hid (∀ (v u : Value) (w : World), Lm w v a → Lm w u a → Calls Tryd.prog 20 #[v, u] w fun e w' => e = .returned (.bool true) ∧ Qt w w'))
    (LS : Hid (∀ (v u : Value) (w : World), True → Lm w v a → Lm w u m → Calls Tryd.prog 19 #[v, u] w fun e w' => e = .returned (.bool b) ∧ Below w.heap.size w w')) :
    Calls Tryd.prog 8 #[va, vb] w fun e w' => e = .returned (.bool true) ∧ Below w.heap.size w w' := by
  have C := natc
  have AP : (⟨S.toArray⟩ : ByteArray) ++ ⟨#[48]⟩ = ⟨U.toArray⟩ := by rw [hU]; exact app S [48]
  clear hU
  obtain ⟨m, hm⟩ : ∃ m, m = T.length := ⟨_, rfl⟩
  rw [← hm] at ho
  have ho2 := hm.symm
  clear hm
  have FO := Lib.hid (fun w g => C.of 10 w (by decide) (by decide) g)
  have W0 : Wd (fun _ => True) w w := ⟨trivial, Below.refl _ _⟩
  go_enter Tryd.func8, Tryd.ntmps8
  go_wp2_with (first | (go_at_call 12; (with_reducible refine (C.awake _ W0.g).mono ?_); rintro e w1 ⟨rfl, b1⟩; have W1 := W0.step C b1)  | (go_at_call 14; (with_reducible refine (NA.out _ W1.bl).mono ?_); rintro e w2 ⟨ada, na, ca, rfl, La_2, b2⟩; have W2 := W1.step C b2; obtain ⟨_, za, _⟩ := La_2.cap; have za' : na = N := (by rw [HN.out]; exact za); clear za; subst za')  | (go_at_call 14; (with_reducible refine (NB.out _ W2.bl).mono ?_); rintro e w3 ⟨adb, nb, cb, rfl, Lb_3, b3⟩; have W3 := W2.step C b3; have La_3 := La_2.below b3)  | (go_at_call 25; (with_reducible refine (T1.out _ _ W3.g La_3).mono ?_); rintro e w4 ⟨rfl, b4⟩; have W4 := W3.step C b4; have La_4 := La_3.below b4; have Lb_4 := Lb_3.below b4)  | (go_at_call 25; (with_reducible refine (T2.out _ _ W4.g Lb_4).mono ?_); rintro e w5 ⟨rfl, b5⟩; have W5 := W4.step C b5; have La_5 := La_4.below b5; have Lb_5 := Lb_4.below b5)  | (go_at_call 26; (with_reducible refine (RD.out _ W5.g).mono ?_); rintro e w6 ⟨adback, nback, cback, rfl, Lback_6, b6⟩; have W6 := W5.step C b6; have La_6 := La_5.below b6; have Lb_6 := Lb_5.below b6)  | (go_at_call 22; (with_reducible refine (FO.out _ W6.g).mono ?_); rintro e w7 ⟨ado1, no1, co1, rfl, Lo1_7, b7⟩; have W7 := W6.step C b7; have La_7 := La_6.below b7; have Lb_7 := Lb_6.below b7; have Lback_7 := Lback_6.below b7)  | (go_at_call 16; (with_reducible refine (FM.out _ _ _ W7.g La_7 Lo1_7).mono ?_); rintro e w8 ⟨adten, nten, cten, rfl, Lten_8, b8⟩; have W8 := W7.step C b8; have La_8 := La_7.below b8; have Lb_8 := Lb_7.below b8; have Lback_8 := Lback_7.below b8)  | (go_at_call 25; (with_reducible refine (T3.out _ _ W8.g Lten_8).mono ?_); rintro e w9 ⟨rfl, b9⟩; have W9 := W8.step C b9; have La_9 := La_8.below b9; have Lb_9 := Lb_8.below b9; have Lback_9 := Lback_8.below b9)  | (go_at_call 20; (with_reducible refine (SM.out _ _ _ Lback_9 La_9).mono ?_); rintro e w10 ⟨rfl, q10⟩; have b10 := q10.bl; have W10 := W9.step C b10; have La_10 := La_9.below b10; have Lb_10 := Lb_9.below b10)  | (go_at_call 19; (with_reducible refine (LS.out _ _ _ W10.g La_10 Lb_10).mono ?_); rintro e w11 ⟨rfl, b11⟩; have W11 := W10.step C b11))
  go_ret
  first | exact ⟨rfl, W11.bl⟩ | exact ⟨ret_bool (decide_eq_true (by omega)), W11.bl⟩ | exact ⟨ret_bool (by simp; omega), W11.bl⟩
end Go.Proofs.YtlmigbfpdbkkjaaDoor
