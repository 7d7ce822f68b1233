/- StatsWrong: the walk. -/
import Derived.Test.YtjfopggpohakkaaSs
namespace Go.Proofs.Ytjfopggpohakkaa
open Go.RowKit

/-- A call that hands back no number and an error. -/
def NoE (c : Int) (w : World) (e : Ending) (w' : World) : Prop := ∃ a k, e = .returned (.tuple #[.slice a 0 k, .int .i64 c]) ∧ Below w.heap.size w w'
theorem NoE.out {c : Int} {w w' : World} {e : Ending} (h : NoE c w e w') : ∃ a k, e = .returned (.tuple #[.slice a 0 k, .int .i64 c]) ∧ Below w.heap.size w w' := h
theorem NumE.no {c : Int} {w w' : World} {e : Ending} (h : NumE 0 c w e w') : NoE c w e w' := by
  obtain ⟨a, n, k, rfl, d, b⟩ := h
  obtain rfl : n = 0 := (Lm.cap d).2.1
  exact ⟨a, k, rfl, b⟩
theorem choose_no (n k c : Int) (w : World) (h : chk n k true = c) (h0 : c ≠ 0) : Calls Try.prog 32 #[.int .i64 n, .int .i64 k] w (NoE c w) := by
  have := choose_any n k w
  rw [show valC n k = 0 by unfold valC; rw [if_neg (by rw [h]; exact h0)], h] at this
  exact this.mono fun e w' x => x.no
theorem chance_no (n k p c : Int) (w : World) (h : chk n k (shB p) = c) (h0 : c ≠ 0) : Calls Try.prog 22 #[.int .i64 n, .int .i64 k, .int .i64 p] w (NoE c w) := by
  have := chance_any n k p w
  rw [show valX n k p = 0 by unfold valX; rw [if_neg (by rw [h]; exact h0)], h] at this
  exact this.mono fun e w' x => x.no
theorem upper_no (n k p c : Int) (w : World) (h : chk n k (shB p) = c) (h0 : c ≠ 0) : Calls Try.prog 28 #[.int .i64 n, .int .i64 k, .int .i64 p] w (NoE c w) := by
  have := upper_any n k p w
  rw [show valU n k p = 0 by unfold valU; rw [if_neg (by rw [h]; exact h0)], h] at this
  exact this.mono fun e w' x => x.no
theorem lower_no (n k p c : Int) (w : World) (h : chk n k (shB p) = c) (h0 : c ≠ 0) : Calls Try.prog 29 #[.int .i64 n, .int .i64 k, .int .i64 p] w (NoE c w) := by
  have := lower_any n k p w
  rw [show valL n k p = 0 by unfold valL; rw [if_neg (by rw [h]; exact h0)], h] at this
  exact this.mono fun e w' x => x.no
theorem least_no (n k r c : Int) (w : World) (h : chk n k (rkB r) = c) (h0 : c ≠ 0) : Calls Try.prog 23 #[.int .i64 n, .int .i64 k, .int .i64 r] w fun e w' => e = .returned (.tuple #[.int .i64 0, .int .i64 c]) ∧ Below w.heap.size w w' := by
  have := least_any n k r w
  rw [show valB n k r = 0 by unfold valB; rw [if_neg (by rw [h]; exact h0)], h] at this
  exact this
theorem greatest_no (n k r c : Int) (w : World) (h : chk n k (rkB r) = c) (h0 : c ≠ 0) : Calls Try.prog 24 #[.int .i64 n, .int .i64 k, .int .i64 r] w fun e w' => e = .returned (.tuple #[.int .i64 0, .int .i64 c]) ∧ Below w.heap.size w w' := by
  have := greatest_any n k r w
  rw [show valG n k r = 0 by unfold valG; rw [if_neg (by rw [h]; exact h0)], h] at this
  exact this
theorem chk_two {n k : Int} {b : Bool} (h : k < 0 ∨ n < k ∨ b = false) : chk n k b = 2 := by unfold chk; rw [if_pos h]
theorem chk_three {n k : Int} {b : Bool} (h : 0 ≤ k) (h1 : k ≤ n) (h2 : b = true) (h3 : 500 < n) : chk n k b = 3 := by
  unfold chk
  rw [if_neg (by rw [h2]; simp; omega), if_pos h3]
theorem sh_no {p : Int} (h : p < 0 ∨ 10000 < p) : shB p = false := by unfold shB; exact decide_eq_false (by omega)
theorem rk_no {p : Int} (h : p < 1 ∨ 2000 < p) : rkB p = false := by unfold rkB; exact decide_eq_false (by omega)
/-- What a round asks of its row. -/
structure Bad (N K S R : Int) : Prop where
  ch : ∀ w, Calls Try.prog 22 #[.int .i64 N, .int .i64 K, .int .i64 S] w (NoE 2 w)
  up : ∀ w, Calls Try.prog 28 #[.int .i64 N, .int .i64 K, .int .i64 S] w (NoE 2 w)
  lo : ∀ w, Calls Try.prog 29 #[.int .i64 N, .int .i64 K, .int .i64 S] w (NoE 2 w)
  le : ∀ w, Calls Try.prog 23 #[.int .i64 N, .int .i64 K, .int .i64 R] w fun e w' => e = .returned (.tuple #[.int .i64 0, .int .i64 2]) ∧ Below w.heap.size w w'
  gr : ∀ w, Calls Try.prog 24 #[.int .i64 N, .int .i64 K, .int .i64 R] w fun e w' => e = .returned (.tuple #[.int .i64 0, .int .i64 2]) ∧ Below w.heap.size w w'
theorem bad_of {N K S R : Int} (h : (K < 0 ∨ N < K ∨ shB S = false) ∧ (K < 0 ∨ N < K ∨ rkB R = false)) : Bad N K S R :=
  ⟨fun w => chance_no N K S 2 w (chk_two h.1) (by omega), fun w => upper_no N K S 2 w (chk_two h.1) (by omega), fun w => lower_no N K S 2 w (chk_two h.1) (by omega), fun w => least_no N K R 2 w (chk_two h.2) (by omega), fun w => greatest_no N K R 2 w (chk_two h.2) (by omega)⟩
/-- Four cells that hold a row. -/
def Row4 (V : World) (b j : Nat) (N K S R : Int) : Prop := V.cell? ⟨b, j, none⟩ = some (.int .i64 N) ∧ V.cell? ⟨b, j + 1, none⟩ = some (.int .i64 K) ∧ V.cell? ⟨b, j + 2, none⟩ = some (.int .i64 S) ∧ V.cell? ⟨b, j + 3, none⟩ = some (.int .i64 R)
theorem Row4.out {V : World} {b j : Nat} {N K S R : Int} (h : Row4 V b j N K S R) : V.cell? ⟨b, j, none⟩ = some (.int .i64 N) ∧ V.cell? ⟨b, j + 1, none⟩ = some (.int .i64 K) ∧ V.cell? ⟨b, j + 2, none⟩ = some (.int .i64 S) ∧ V.cell? ⟨b, j + 3, none⟩ = some (.int .i64 R) := h
theorem Row4.zero {V : World} {b : Nat} {N K S R : Int} (h : Row4 V b 0 N K S R) : V.cell? ⟨b, 0, none⟩ = some (.int .i64 N) ∧ V.cell? ⟨b, 1, none⟩ = some (.int .i64 K) ∧ V.cell? ⟨b, 2, none⟩ = some (.int .i64 S) ∧ V.cell? ⟨b, 3, none⟩ = some (.int .i64 R) := h
theorem Row4.below {V V' : World} {b j : Nat} {N K S R : Int} (h : Row4 V b j N K S R) (hb : Below V.heap.size V V') : Row4 V' b j N K S R :=
  ⟨kept_cell hb h.1, kept_cell hb h.2.1, kept_cell hb h.2.2.1, kept_cell hb h.2.2.2⟩
set_option maxRecDepth 100000 in
set_option maxHeartbeats 6400000 in
theorem walk_statsWrong (w : World) (t : Int) (_t1 : -9223372036854775808 ≤ t) (_t2 : t ≤ 9223372036854775807) (x : Int) (_x1 : -9223372036854775808 ≤ x) (_x2 : x ≤ 9223372036854775807) :
    Calls Try.prog 13 #[.int .i64 t, .int .i64 x] w fun e w' => e = .returned (.bool true) ∧ Below w.heap.size w w' := by
  obtain ⟨n, en, hn⟩ := picked t 501 (by omega)
  obtain ⟨b, eb, hb⟩ := picked x 1099511627776 (by omega)
  obtain ⟨c, hc⟩ : ∃ c, c = 1 + b := ⟨_, rfl⟩
  have AW := Lib.hid (awake4_any w)
  have P1 := Lib.hid (fun w' => pick_any t 501 w' (by omega) (by omega))
  have P2 := Lib.hid (fun w' => pick_any x 1099511627776 w' (by omega) (by omega))
  rw [en] at P1
  rw [eb] at P2
  have e0 : (1 : Int) + (b : Int) = (c : Int) := by omega
  have n1 : (n : Int) ≤ 500 := by omega
  have c0 : (1 : Int) ≤ (c : Int) := by omega
  have c1 : (c : Int) ≤ 1099511627776 := by omega
  clear en eb hn hb hc
  have R0 : Hid (Bad (n : Int) (-(c : Int)) 1 1) := bad_of ⟨.inl (by omega), .inl (by omega)⟩
  have R1 : Hid (Bad (n : Int) ((n : Int) + (c : Int)) 1 1) := bad_of ⟨.inr (.inl (by omega)), .inr (.inl (by omega))⟩
  have R2 : Hid (Bad (n : Int) 0 (-(c : Int)) (1 - (c : Int))) := bad_of ⟨.inr (.inr (sh_no (by omega))), .inr (.inr (rk_no (by omega)))⟩
  have R3 : Hid (Bad (n : Int) (n : Int) (10000 + (c : Int)) (2000 + (c : Int))) := bad_of ⟨.inr (.inr (sh_no (by omega))), .inr (.inr (rk_no (by omega)))⟩
  have R4 : Hid (Bad (-(c : Int)) 0 1 1) := bad_of ⟨.inr (.inl (by omega)), .inr (.inl (by omega))⟩
  have R5 : Hid (Bad (500 + (c : Int)) (-1) 1 1) := bad_of ⟨.inl (by omega), .inl (by omega)⟩
  have Q0 : Hid (∀ w', Calls Try.prog 32 #[.int .i64 (500 + (c : Int)), .int .i64 0] w' (NoE 3 w')) := fun w' => choose_no _ _ _ w' (chk_three (by omega) (by omega) rfl (by omega)) (by omega)
  have Q1 : Hid (∀ w', Calls Try.prog 23 #[.int .i64 (500 + (c : Int)), .int .i64 (500 + (c : Int)), .int .i64 1] w' fun e w'' => e = .returned (.tuple #[.int .i64 0, .int .i64 3]) ∧ Below w'.heap.size w' w'') := fun w' => least_no _ _ _ _ w' (chk_three (by omega) (by omega) (by decide) (by omega)) (by omega)
  have Q2 : Hid (∀ w', Calls Try.prog 24 #[.int .i64 (500 + (c : Int)), .int .i64 0, .int .i64 1] w' fun e w'' => e = .returned (.tuple #[.int .i64 0, .int .i64 3]) ∧ Below w'.heap.size w' w'') := fun w' => greatest_no _ _ _ _ w' (chk_three (by omega) (by omega) (by decide) (by omega)) (by omega)
  have Q3 : Hid (∀ w', Calls Try.prog 37 #[.slice (some ⟨w'.heap.size, 0, none⟩) 1 1, .int .i64 (10000 + (c : Int))] (w'.alloc (.cells #[.int .i64 1] 3)) fun e w'' => e = .returned (.tuple #[.int .i64 0, .int .i64 2]) ∧ Below w'.heap.size w' w'') := fun w' => by
    have s1 : Sl (w'.alloc (.cells #[.int .i64 1] 3)) (.slice (some ⟨w'.heap.size, 0, none⟩) 1 1) [1] := ⟨_, 1, rfl, .inr ⟨_, 0, rfl, fun j hj => by
      obtain rfl : j = 0 := by simp at hj; omega
      exact cell_at _ _ _ 0 _ _ rfl rfl⟩⟩
    have := quantile_any _ [1] (10000 + (c : Int)) _ s1
    have eE : qE ([1] : List Int).length (10000 + (c : Int)) = 2 := by unfold qE; rw [if_neg (by simp), if_pos (sh_no (by omega))]
    rw [show qV [1] (10000 + (c : Int)) = 0 by unfold qV; rw [eE]; rfl, eE] at this
    have b0 : Below w'.heap.size w' (w'.alloc (.cells #[.int .i64 1] 3)) := (Below.refl _ _).alloc (Nat.le_refl _) _
    exact this.mono fun e w'' ⟨h1, h2⟩ => ⟨h1, b0.trans (h2.mono b0.size)⟩
  have Q4 : Hid (∀ w', Calls Try.prog 37 #[.slice none 0 0, .int .i64 (-(c : Int))] w' fun e w'' => e = .returned (.tuple #[.int .i64 0, .int .i64 2]) ∧ Below w'.heap.size w' w'') := fun w' => by
    have := quantile_any (.slice none 0 0) [] (-(c : Int)) w' ⟨none, 0, rfl, .inl rfl⟩
    have eE : qE ([] : List Int).length (-(c : Int)) = 2 := by unfold qE; rw [if_neg (by simp), if_pos (sh_no (by omega))]
    rw [show qV [] (-(c : Int)) = 0 by unfold qV; rw [eE]; rfl, eE] at this
    exact this
  go_enter Try.func13, Try.ntmps13
  go_wp2_with (first
    | (go_at_call 14; with_reducible refine AW.out.mono ?_; rintro e w1 ⟨rfl, b1⟩)
    | (go_at_call 19; with_reducible refine (P1.out _).mono ?_; rintro e w' ⟨rfl, rfl⟩)
    | (go_at_call 19; with_reducible refine (P2.out _).mono ?_; rintro e w' ⟨rfl, rfl⟩))
  have BB := Lib.hid b1
  obtain ⟨W0, hW0⟩ : ∃ W0, W0 = w1.alloc (.cells #[.int .i64 (n : Int), .int .i64 (-(c : Int)), .int .i64 1, .int .i64 1, .int .i64 (n : Int), .int .i64 ((n : Int) + (c : Int)), .int .i64 1, .int .i64 1, .int .i64 (n : Int), .int .i64 0, .int .i64 (-(c : Int)), .int .i64 (1 - (c : Int)), .int .i64 (n : Int), .int .i64 (n : Int), .int .i64 (10000 + (c : Int)), .int .i64 (2000 + (c : Int)), .int .i64 (-(c : Int)), .int .i64 0, .int .i64 1, .int .i64 1, .int .i64 (500 + (c : Int)), .int .i64 (-1), .int .i64 1, .int .i64 1] 52) := ⟨_, rfl⟩
  have BW : Hid (Below w.heap.size w W0) := by show Below _ _ _; rw [hW0]; exact b1.alloc b1.size _
  have C0 : Hid (Row4 W0 w1.heap.size 0 (n : Int) (-(c : Int)) 1 1) := by show Row4 _ _ _ _ _ _ _; rw [hW0]; exact ⟨cell_at w1 _ _ 0 _ _ rfl rfl, cell_at w1 _ _ 1 _ _ rfl rfl, cell_at w1 _ _ 2 _ _ rfl rfl, cell_at w1 _ _ 3 _ _ rfl rfl⟩
  have C1 : Hid (Row4 W0 w1.heap.size 4 (n : Int) ((n : Int) + (c : Int)) 1 1) := by show Row4 _ _ _ _ _ _ _; rw [hW0]; exact ⟨cell_at w1 _ _ 4 _ _ rfl rfl, cell_at w1 _ _ 5 _ _ rfl rfl, cell_at w1 _ _ 6 _ _ rfl rfl, cell_at w1 _ _ 7 _ _ rfl rfl⟩
  have C2 : Hid (Row4 W0 w1.heap.size 8 (n : Int) 0 (-(c : Int)) (1 - (c : Int))) := by show Row4 _ _ _ _ _ _ _; rw [hW0]; exact ⟨cell_at w1 _ _ 8 _ _ rfl rfl, cell_at w1 _ _ 9 _ _ rfl rfl, cell_at w1 _ _ 10 _ _ rfl rfl, cell_at w1 _ _ 11 _ _ rfl rfl⟩
  have C3 : Hid (Row4 W0 w1.heap.size 12 (n : Int) (n : Int) (10000 + (c : Int)) (2000 + (c : Int))) := by show Row4 _ _ _ _ _ _ _; rw [hW0]; exact ⟨cell_at w1 _ _ 12 _ _ rfl rfl, cell_at w1 _ _ 13 _ _ rfl rfl, cell_at w1 _ _ 14 _ _ rfl rfl, cell_at w1 _ _ 15 _ _ rfl rfl⟩
  have C4 : Hid (Row4 W0 w1.heap.size 16 (-(c : Int)) 0 1 1) := by show Row4 _ _ _ _ _ _ _; rw [hW0]; exact ⟨cell_at w1 _ _ 16 _ _ rfl rfl, cell_at w1 _ _ 17 _ _ rfl rfl, cell_at w1 _ _ 18 _ _ rfl rfl, cell_at w1 _ _ 19 _ _ rfl rfl⟩
  have C5 : Hid (Row4 W0 w1.heap.size 20 (500 + (c : Int)) (-1) 1 1) := by show Row4 _ _ _ _ _ _ _; rw [hW0]; exact ⟨cell_at w1 _ _ 20 _ _ rfl rfl, cell_at w1 _ _ 21 _ _ rfl rfl, cell_at w1 _ _ 22 _ _ rfl rfl, cell_at w1 _ _ 23 _ _ rfl rfl⟩
  rw [← hW0]
  obtain ⟨g, hg⟩ : ∃ g, g = w1.heap.size := ⟨_, rfl⟩
  rw [← hg] at C0 C1 C2 C3 C4 C5 ⊢
  clear hW0 b1 hg AW P1 P2 BB
  go_loopw [67] (fun i wr => ∃ k : Nat, k ≤ 6 ∧ i = .int .i64 k ∧ Hid (Below W0.heap.size W0 wr)) (fun i _ => 6 - (intOf i).toNat)
  case atStart => exact ⟨0, by omega, rfl, (show Below _ _ _ from Below.refl _ _)⟩
  case round =>
    obtain ⟨k, hk, rfl, B⟩ := hrel
    by_cases hlt : k < 6
    · have hk6 : k = 0 ∨ k = 1 ∨ k = 2 ∨ k = 3 ∨ k = 4 ∨ k = 5 := by omega
      clear hk hlt
      rcases hk6 with rfl | rfl | rfl | rfl | rfl | rfl
      · have D := Row4.below C0.out B.out
        obtain ⟨d0, d1, d2, d3⟩ := D
        have BV : Hid (Below W0.heap.size W0 (wr.alloc (.cells #[.int .i64 (n : Int), .int .i64 (-(c : Int)), .int .i64 1, .int .i64 1] 52))) := B.out.alloc B.out.size _
        have E0 : Row4 (wr.alloc (.cells #[.int .i64 (n : Int), .int .i64 (-(c : Int)), .int .i64 1, .int .i64 1] 52)) wr.heap.size 0 (n : Int) (-(c : Int)) 1 1 := ⟨cell_at wr _ _ 0 _ _ rfl rfl, cell_at wr _ _ 1 _ _ rfl rfl, cell_at wr _ _ 2 _ _ rfl rfl, cell_at wr _ _ 3 _ _ rfl rfl⟩
        have F0 := Lib.hid E0
        clear E0
        go_wp2_with (first
          | (go_at_call 22; with_reducible refine (R0.out.ch _).mono ?_; intro e y1 hq; obtain ⟨a1, m1, rfl, by1⟩ := NoE.out hq; clear hq; have B1 := BV.out.trans (by1.mono BV.out.size); have F1 := Lib.hid (Row4.below F0.out by1); obtain ⟨f10, f11, f12, f13⟩ := Row4.zero F1.out)
          | (go_at_call 28; with_reducible refine (R0.out.up _).mono ?_; intro e y2 hq; obtain ⟨a2, m2, rfl, by2⟩ := NoE.out hq; clear hq; have B2 := B1.trans (by2.mono B1.size); have F2 := Lib.hid (Row4.below F1.out by2); obtain ⟨f20, f21, f22, f23⟩ := Row4.zero F2.out)
          | (go_at_call 29; with_reducible refine (R0.out.lo _).mono ?_; intro e y3 hq; obtain ⟨a3, m3, rfl, by3⟩ := NoE.out hq; clear hq; have B3 := B2.trans (by3.mono B2.size); have F3 := Lib.hid (Row4.below F2.out by3); obtain ⟨f30, f31, f32, f33⟩ := Row4.zero F3.out)
          | (go_at_call 23; with_reducible refine (R0.out.le _).mono ?_; rintro e y4 ⟨rfl, by4⟩; have B4 := B3.trans (by4.mono B3.size); have F4 := Lib.hid (Row4.below F3.out by4); obtain ⟨f40, f41, f42, f43⟩ := Row4.zero F4.out)
          | (go_at_call 24; with_reducible refine (R0.out.gr _).mono ?_; rintro e y5 ⟨rfl, by5⟩; have B5 := B4.trans (by5.mono B4.size)))
        go_roundw
        case rel => exact ⟨1, by omega, by go_num, (show Below _ _ _ from B5)⟩
        case measure => simp [intOf]
      · have D := Row4.below C1.out B.out
        obtain ⟨d0, d1, d2, d3⟩ := D
        have BV : Hid (Below W0.heap.size W0 (wr.alloc (.cells #[.int .i64 (n : Int), .int .i64 ((n : Int) + (c : Int)), .int .i64 1, .int .i64 1] 52))) := B.out.alloc B.out.size _
        have E0 : Row4 (wr.alloc (.cells #[.int .i64 (n : Int), .int .i64 ((n : Int) + (c : Int)), .int .i64 1, .int .i64 1] 52)) wr.heap.size 0 (n : Int) ((n : Int) + (c : Int)) 1 1 := ⟨cell_at wr _ _ 0 _ _ rfl rfl, cell_at wr _ _ 1 _ _ rfl rfl, cell_at wr _ _ 2 _ _ rfl rfl, cell_at wr _ _ 3 _ _ rfl rfl⟩
        have F0 := Lib.hid E0
        clear E0
        go_wp2_with (first
          | (go_at_call 22; with_reducible refine (R1.out.ch _).mono ?_; intro e y1 hq; obtain ⟨a1, m1, rfl, by1⟩ := NoE.out hq; clear hq; have B1 := BV.out.trans (by1.mono BV.out.size); have F1 := Lib.hid (Row4.below F0.out by1); obtain ⟨f10, f11, f12, f13⟩ := Row4.zero F1.out)
          | (go_at_call 28; with_reducible refine (R1.out.up _).mono ?_; intro e y2 hq; obtain ⟨a2, m2, rfl, by2⟩ := NoE.out hq; clear hq; have B2 := B1.trans (by2.mono B1.size); have F2 := Lib.hid (Row4.below F1.out by2); obtain ⟨f20, f21, f22, f23⟩ := Row4.zero F2.out)
          | (go_at_call 29; with_reducible refine (R1.out.lo _).mono ?_; intro e y3 hq; obtain ⟨a3, m3, rfl, by3⟩ := NoE.out hq; clear hq; have B3 := B2.trans (by3.mono B2.size); have F3 := Lib.hid (Row4.below F2.out by3); obtain ⟨f30, f31, f32, f33⟩ := Row4.zero F3.out)
          | (go_at_call 23; with_reducible refine (R1.out.le _).mono ?_; rintro e y4 ⟨rfl, by4⟩; have B4 := B3.trans (by4.mono B3.size); have F4 := Lib.hid (Row4.below F3.out by4); obtain ⟨f40, f41, f42, f43⟩ := Row4.zero F4.out)
          | (go_at_call 24; with_reducible refine (R1.out.gr _).mono ?_; rintro e y5 ⟨rfl, by5⟩; have B5 := B4.trans (by5.mono B4.size)))
        go_roundw
        case rel => exact ⟨2, by omega, by go_num, (show Below _ _ _ from B5)⟩
        case measure => simp [intOf]
      · have D := Row4.below C2.out B.out
        obtain ⟨d0, d1, d2, d3⟩ := D
        have BV : Hid (Below W0.heap.size W0 (wr.alloc (.cells #[.int .i64 (n : Int), .int .i64 0, .int .i64 (-(c : Int)), .int .i64 (1 - (c : Int))] 52))) := B.out.alloc B.out.size _
        have E0 : Row4 (wr.alloc (.cells #[.int .i64 (n : Int), .int .i64 0, .int .i64 (-(c : Int)), .int .i64 (1 - (c : Int))] 52)) wr.heap.size 0 (n : Int) 0 (-(c : Int)) (1 - (c : Int)) := ⟨cell_at wr _ _ 0 _ _ rfl rfl, cell_at wr _ _ 1 _ _ rfl rfl, cell_at wr _ _ 2 _ _ rfl rfl, cell_at wr _ _ 3 _ _ rfl rfl⟩
        have F0 := Lib.hid E0
        clear E0
        go_wp2_with (first
          | (go_at_call 22; with_reducible refine (R2.out.ch _).mono ?_; intro e y1 hq; obtain ⟨a1, m1, rfl, by1⟩ := NoE.out hq; clear hq; have B1 := BV.out.trans (by1.mono BV.out.size); have F1 := Lib.hid (Row4.below F0.out by1); obtain ⟨f10, f11, f12, f13⟩ := Row4.zero F1.out)
          | (go_at_call 28; with_reducible refine (R2.out.up _).mono ?_; intro e y2 hq; obtain ⟨a2, m2, rfl, by2⟩ := NoE.out hq; clear hq; have B2 := B1.trans (by2.mono B1.size); have F2 := Lib.hid (Row4.below F1.out by2); obtain ⟨f20, f21, f22, f23⟩ := Row4.zero F2.out)
          | (go_at_call 29; with_reducible refine (R2.out.lo _).mono ?_; intro e y3 hq; obtain ⟨a3, m3, rfl, by3⟩ := NoE.out hq; clear hq; have B3 := B2.trans (by3.mono B2.size); have F3 := Lib.hid (Row4.below F2.out by3); obtain ⟨f30, f31, f32, f33⟩ := Row4.zero F3.out)
          | (go_at_call 23; with_reducible refine (R2.out.le _).mono ?_; rintro e y4 ⟨rfl, by4⟩; have B4 := B3.trans (by4.mono B3.size); have F4 := Lib.hid (Row4.below F3.out by4); obtain ⟨f40, f41, f42, f43⟩ := Row4.zero F4.out)
          | (go_at_call 24; with_reducible refine (R2.out.gr _).mono ?_; rintro e y5 ⟨rfl, by5⟩; have B5 := B4.trans (by5.mono B4.size)))
        go_roundw
        case rel => exact ⟨3, by omega, by go_num, (show Below _ _ _ from B5)⟩
        case measure => simp [intOf]
      · have D := Row4.below C3.out B.out
        obtain ⟨d0, d1, d2, d3⟩ := D
        have BV : Hid (Below W0.heap.size W0 (wr.alloc (.cells #[.int .i64 (n : Int), .int .i64 (n : Int), .int .i64 (10000 + (c : Int)), .int .i64 (2000 + (c : Int))] 52))) := B.out.alloc B.out.size _
        have E0 : Row4 (wr.alloc (.cells #[.int .i64 (n : Int), .int .i64 (n : Int), .int .i64 (10000 + (c : Int)), .int .i64 (2000 + (c : Int))] 52)) wr.heap.size 0 (n : Int) (n : Int) (10000 + (c : Int)) (2000 + (c : Int)) := ⟨cell_at wr _ _ 0 _ _ rfl rfl, cell_at wr _ _ 1 _ _ rfl rfl, cell_at wr _ _ 2 _ _ rfl rfl, cell_at wr _ _ 3 _ _ rfl rfl⟩
        have F0 := Lib.hid E0
        clear E0
        go_wp2_with (first
          | (go_at_call 22; with_reducible refine (R3.out.ch _).mono ?_; intro e y1 hq; obtain ⟨a1, m1, rfl, by1⟩ := NoE.out hq; clear hq; have B1 := BV.out.trans (by1.mono BV.out.size); have F1 := Lib.hid (Row4.below F0.out by1); obtain ⟨f10, f11, f12, f13⟩ := Row4.zero F1.out)
          | (go_at_call 28; with_reducible refine (R3.out.up _).mono ?_; intro e y2 hq; obtain ⟨a2, m2, rfl, by2⟩ := NoE.out hq; clear hq; have B2 := B1.trans (by2.mono B1.size); have F2 := Lib.hid (Row4.below F1.out by2); obtain ⟨f20, f21, f22, f23⟩ := Row4.zero F2.out)
          | (go_at_call 29; with_reducible refine (R3.out.lo _).mono ?_; intro e y3 hq; obtain ⟨a3, m3, rfl, by3⟩ := NoE.out hq; clear hq; have B3 := B2.trans (by3.mono B2.size); have F3 := Lib.hid (Row4.below F2.out by3); obtain ⟨f30, f31, f32, f33⟩ := Row4.zero F3.out)
          | (go_at_call 23; with_reducible refine (R3.out.le _).mono ?_; rintro e y4 ⟨rfl, by4⟩; have B4 := B3.trans (by4.mono B3.size); have F4 := Lib.hid (Row4.below F3.out by4); obtain ⟨f40, f41, f42, f43⟩ := Row4.zero F4.out)
          | (go_at_call 24; with_reducible refine (R3.out.gr _).mono ?_; rintro e y5 ⟨rfl, by5⟩; have B5 := B4.trans (by5.mono B4.size)))
        go_roundw
        case rel => exact ⟨4, by omega, by go_num, (show Below _ _ _ from B5)⟩
        case measure => simp [intOf]
      · have D := Row4.below C4.out B.out
        obtain ⟨d0, d1, d2, d3⟩ := D
        have BV : Hid (Below W0.heap.size W0 (wr.alloc (.cells #[.int .i64 (-(c : Int)), .int .i64 0, .int .i64 1, .int .i64 1] 52))) := B.out.alloc B.out.size _
        have E0 : Row4 (wr.alloc (.cells #[.int .i64 (-(c : Int)), .int .i64 0, .int .i64 1, .int .i64 1] 52)) wr.heap.size 0 (-(c : Int)) 0 1 1 := ⟨cell_at wr _ _ 0 _ _ rfl rfl, cell_at wr _ _ 1 _ _ rfl rfl, cell_at wr _ _ 2 _ _ rfl rfl, cell_at wr _ _ 3 _ _ rfl rfl⟩
        have F0 := Lib.hid E0
        clear E0
        go_wp2_with (first
          | (go_at_call 22; with_reducible refine (R4.out.ch _).mono ?_; intro e y1 hq; obtain ⟨a1, m1, rfl, by1⟩ := NoE.out hq; clear hq; have B1 := BV.out.trans (by1.mono BV.out.size); have F1 := Lib.hid (Row4.below F0.out by1); obtain ⟨f10, f11, f12, f13⟩ := Row4.zero F1.out)
          | (go_at_call 28; with_reducible refine (R4.out.up _).mono ?_; intro e y2 hq; obtain ⟨a2, m2, rfl, by2⟩ := NoE.out hq; clear hq; have B2 := B1.trans (by2.mono B1.size); have F2 := Lib.hid (Row4.below F1.out by2); obtain ⟨f20, f21, f22, f23⟩ := Row4.zero F2.out)
          | (go_at_call 29; with_reducible refine (R4.out.lo _).mono ?_; intro e y3 hq; obtain ⟨a3, m3, rfl, by3⟩ := NoE.out hq; clear hq; have B3 := B2.trans (by3.mono B2.size); have F3 := Lib.hid (Row4.below F2.out by3); obtain ⟨f30, f31, f32, f33⟩ := Row4.zero F3.out)
          | (go_at_call 23; with_reducible refine (R4.out.le _).mono ?_; rintro e y4 ⟨rfl, by4⟩; have B4 := B3.trans (by4.mono B3.size); have F4 := Lib.hid (Row4.below F3.out by4); obtain ⟨f40, f41, f42, f43⟩ := Row4.zero F4.out)
          | (go_at_call 24; with_reducible refine (R4.out.gr _).mono ?_; rintro e y5 ⟨rfl, by5⟩; have B5 := B4.trans (by5.mono B4.size)))
        go_roundw
        case rel => exact ⟨5, by omega, by go_num, (show Below _ _ _ from B5)⟩
        case measure => simp [intOf]
      · have D := Row4.below C5.out B.out
        obtain ⟨d0, d1, d2, d3⟩ := D
        have BV : Hid (Below W0.heap.size W0 (wr.alloc (.cells #[.int .i64 (500 + (c : Int)), .int .i64 (-1), .int .i64 1, .int .i64 1] 52))) := B.out.alloc B.out.size _
        have E0 : Row4 (wr.alloc (.cells #[.int .i64 (500 + (c : Int)), .int .i64 (-1), .int .i64 1, .int .i64 1] 52)) wr.heap.size 0 (500 + (c : Int)) (-1) 1 1 := ⟨cell_at wr _ _ 0 _ _ rfl rfl, cell_at wr _ _ 1 _ _ rfl rfl, cell_at wr _ _ 2 _ _ rfl rfl, cell_at wr _ _ 3 _ _ rfl rfl⟩
        have F0 := Lib.hid E0
        clear E0
        go_wp2_with (first
          | (go_at_call 22; with_reducible refine (R5.out.ch _).mono ?_; intro e y1 hq; obtain ⟨a1, m1, rfl, by1⟩ := NoE.out hq; clear hq; have B1 := BV.out.trans (by1.mono BV.out.size); have F1 := Lib.hid (Row4.below F0.out by1); obtain ⟨f10, f11, f12, f13⟩ := Row4.zero F1.out)
          | (go_at_call 28; with_reducible refine (R5.out.up _).mono ?_; intro e y2 hq; obtain ⟨a2, m2, rfl, by2⟩ := NoE.out hq; clear hq; have B2 := B1.trans (by2.mono B1.size); have F2 := Lib.hid (Row4.below F1.out by2); obtain ⟨f20, f21, f22, f23⟩ := Row4.zero F2.out)
          | (go_at_call 29; with_reducible refine (R5.out.lo _).mono ?_; intro e y3 hq; obtain ⟨a3, m3, rfl, by3⟩ := NoE.out hq; clear hq; have B3 := B2.trans (by3.mono B2.size); have F3 := Lib.hid (Row4.below F2.out by3); obtain ⟨f30, f31, f32, f33⟩ := Row4.zero F3.out)
          | (go_at_call 23; with_reducible refine (R5.out.le _).mono ?_; rintro e y4 ⟨rfl, by4⟩; have B4 := B3.trans (by4.mono B3.size); have F4 := Lib.hid (Row4.below F3.out by4); obtain ⟨f40, f41, f42, f43⟩ := Row4.zero F4.out)
          | (go_at_call 24; with_reducible refine (R5.out.gr _).mono ?_; rintro e y5 ⟨rfl, by5⟩; have B5 := B4.trans (by5.mono B4.size)))
        go_roundw
        case rel => exact ⟨6, by omega, by go_num, (show Below _ _ _ from B5)⟩
        case measure => simp [intOf]
    · obtain rfl : k = 6 := by omega
      go_wp2_with (first
        | (go_at_call 32; with_reducible refine (Q0.out _).mono ?_; intro e y1 hq; obtain ⟨a1, m1, rfl, by1⟩ := NoE.out hq; clear hq; have B1 := B.out.trans (by1.mono B.out.size))
        | (go_at_call 23; with_reducible refine (Q1.out _).mono ?_; rintro e y2 ⟨rfl, by2⟩; have B2 := B1.trans (by2.mono B1.size))
        | (go_at_call 24; with_reducible refine (Q2.out _).mono ?_; rintro e y3 ⟨rfl, by3⟩; have B3 := B2.trans (by3.mono B2.size))
        | (go_at_call 37; with_reducible refine (Q3.out y3).mono ?_; rintro e y4 ⟨rfl, by4⟩; have B4 := B3.trans (by4.mono B3.size))
        | (go_at_call 37; with_reducible refine (Q4.out _).mono ?_; rintro e y5 ⟨rfl, by5⟩; have B5 := B4.trans (by5.mono B4.size)))
      go_ret
      exact ⟨rfl, BW.out.trans (B5.mono BW.out.size)⟩
end Go.Proofs.Ytjfopggpohakkaa
