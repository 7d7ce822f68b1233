/- MoneyWrong: its walk. -/
import Derived.Test.YthdmgnlemmpjkaaDoorPk
namespace Go.Proofs.YthdmgnlemmpjkaaDoor
open Go.RowKit

theorem share0 (s : Int) (w : World) : Calls Tryd.prog 18 #[.int .i64 0, .int .i64 s, .int .u8 2] w fun e w' => ∃ v r, e = .returned (.tuple #[.int .i64 v, .int .i64 r]) ∧ (10000 < s → v = 0 ∧ r = 2) ∧ Below w.heap.size w w' := by
  by_cases h : 0 ≤ s ∧ s ≤ 10000
  · refine (share_ok 0 s 2 w (by omega) (by omega) h.1 h.2 (by omega) (by omega)).mono ?_
    rintro e w' ⟨rfl, hb⟩
    exact ⟨_, _, rfl, fun q => by omega, hb⟩
  · refine (share_bad 0 s 2 w (by omega) (by omega) (by omega)).mono ?_
    rintro e w' ⟨rfl, hb⟩
    exact ⟨_, _, rfl, fun _ => ⟨rfl, rfl⟩, hb⟩
theorem spl_s (v : Value) (xs : List Int) (c e : Int) (w : World) (h : Sl w v xs) (he : Mny.splE c xs = e) (h0 : e ≠ 0) :
    Calls Tryd.prog 15 #[.int .i64 c, v] w fun r w' => r = .returned (.tuple #[.slice none 0 0, .int .i64 e]) ∧ w = w' := by
  subst he; exact split_no v xs c w h h0
set_option maxRecDepth 100000 in
set_option maxHeartbeats 6400000 in
theorem walk_moneyWrong (n : Int) (_n1 : -9223372036854775808 ≤ n) (_n2 : n ≤ 9223372036854775807) (y : Int) (y1 : 0 ≤ y) (y2 : y ≤ 255) (w : World) (G : Gl w) :
    Calls Tryd.prog 10 #[.int .i64 n, .int .u8 y] w fun e w' => e = .returned (.bool true) ∧ Below w.heap.size w w' := by
  have PA := Lib.hid (fun w => pick_any n 1152921504606846976 w (by omega) (by omega))
  obtain ⟨p, hp⟩ : ∃ p, p = n % 1152921504606846976 := ⟨_, rfl⟩
  have p1 : 0 ≤ p := by omega
  have p2 : p < 1152921504606846976 := by omega
  rw [← hp] at PA
  clear hp
  have RB : ∀ x, x = 1000000000000001 + p ∨ x = -(1000000000000001 + p) → Mny.rt x = false := fun x h => by rw [Mny.rt_no]; omega
  have hA : ∀ x, Mny.rt x = false → Mny.sumE [x, 0] = 2 ∧ Mny.sumV [x, 0] = 0 := fun x h => Mny.sum_arg (by simp) (by simp [h])
  have hB : ∀ x, Mny.rt x = false → Mny.sumE [0, x] = 2 ∧ Mny.sumV [0, x] = 0 := fun x h => Mny.sum_arg (by simp) (by simp [h])
  have hC : ∀ x, Mny.rt x = false → Mny.splE x [1] = 2 := fun x h => (Mny.spl_bad (by simp) (by unfold Mny.okS; rw [h]; simp)).1
  have hD : ∀ x, Mny.rt x = false → Mny.splE 0 [1, x] = 2 := fun x h => (Mny.spl_bad (by simp) (by
    have : Mny.wt x = false := by rw [Mny.wt_no]; rw [Mny.rt_no] at h; omega
    unfold Mny.okS; simp [this])).1
  have A := Lib.hid (fun x h W => add_s x 0 0 2 W (hA x h).2 (hA x h).1)
  have B := Lib.hid (fun x h W => sum_s _ [0, x] 0 2 _ (sl2 W 0 x 3 2) (hB x h).2 (hB x h).1)
  have C := Lib.hid (fun x (h : Mny.rt x = false) W => share_bad x 0 4 W (by omega) (by omega) (Or.inl h))
  have D := Lib.hid (fun x h W => spl_s _ [1] x 2 _ (sl1 W 1 3 1) (hC x h) (by omega))
  have T := Lib.hid (fun x h W => text_no x W h)
  have R := Lib.hid (fun x h W => right_b x false W h)
  have E := Lib.hid (fun x h W => spl_s _ [1, x] 0 2 _ (sl2 W 1 x 3 2) (hD x h) (by omega))
  have RP := Lib.hid (RB _ (Or.inl rfl))
  have RN := Lib.hid (RB _ (Or.inr rfl))
  have U1 := Lib.hid (fun z (h0 : 0 ≤ z) (h1 : z ≤ 255) (h2 : z < 1 ∨ 4 < z) W => share_bad 1 1 z W h0 h1 (by omega))
  have U2 := Lib.hid (fun W => spl_s _ [0, 0] 1 2 _ (sl2 W 0 0 3 2) (by decide) (by omega))
  have U3 := Lib.hid (fun W => add_s 1000000000000000 1 0 3 W (by decide) (by decide))
  have U4 := Lib.hid (fun W => share_bad 1 (-1) 2 W (by omega) (by omega) (by omega))
  have U5 := Lib.hid (fun W => spl_s _ [] 1 2 W (Sl.nil W none 0) (by decide) (by omega))
  clear RB hA hB hC hD
  have q : 1 ≤ y ∧ y ≤ 4 ∨ y < 1 ∨ 4 < y := by omega
  rcases q with ⟨q1, q2⟩ | q1 | q1
  all_goals
    go_enter Tryd.func10, Tryd.ntmps10
    go_wp2_with (first | (go_at_call 11; refine (awake_any w _ (St.refl G)).mono ?_; rintro e wa ⟨rfl, S0⟩)  | (go_at_call 17; refine (PA.out _).mono ?_; rintro e w' ⟨rfl, rfl⟩))
    obtain ⟨w1, hw1⟩ : ∃ x, x = wa.alloc (.cells #[.int .i64 (1000000000000001 + p), .int .i64 (-(1000000000000001 + p))] 3) := ⟨_, rfl⟩
    obtain ⟨b, hb⟩ : ∃ x, x = wa.heap.size := ⟨_, rfl⟩
    have S1 : St w w1 := by rw [hw1]; exact S0.step (by go_grown)
    have D0 : Hid (w1.cell? ⟨b, 0, none⟩ = some (.int .i64 (1000000000000001 + p))) := by show _ = _; rw [hw1]; exact cell_at _ _ _ 0 _ _ hb rfl
    have D1 : Hid (w1.cell? ⟨b, 1, none⟩ = some (.int .i64 (-(1000000000000001 + p)))) := by show _ = _; rw [hw1]; exact cell_at _ _ _ 1 _ _ hb rfl
    rw [← hw1, ← hb]
    have S01 : Hid (Below w.heap.size w w1) := S1.bl
    have G1 := S1.gl
    clear hw1 hb S0 S1
    go_loopw [47] (fun i wr => ∃ k : Int, (0 ≤ k ∧ k ≤ 2) ∧ i = .int .i64 k ∧ St w1 wr) (fun i _ => 3 - (intOf i).toNat)
    case atStart => exact ⟨0, by omega, rfl, St.refl G1⟩
    case round =>
      obtain ⟨k, hk, rfl, SR⟩ := hrel
      have hk3 : k = 0 ∨ k = 1 ∨ k = 2 := by omega
      have SW : St w wr := ⟨SR.gl, S01.out.trans (SR.bl.mono S01.out.size)⟩
      rcases hk3 with rfl | rfl | rfl
      · have c0 : wr.cell? ⟨b, 0, none⟩ = some (.int .i64 (1000000000000001 + p)) := (SR.bl.cell (World.block_lt_of_cell? _ _ D0.out)).trans D0.out
        obtain ⟨x, hx⟩ : ∃ x, x = 1000000000000001 + p := ⟨_, rfl⟩
        rw [← hx] at c0 RP
        have xb : 1000000000000001 ≤ x ∧ x ≤ 2305843009213693952 := by omega
        obtain ⟨xb1, xb2⟩ := xb
        have SX := SR
        clear hx SW
        go_wp2_with (first | (go_at_call 20; (with_reducible refine (A.out x RP.out _).mono ?_); rintro e w2 ⟨rfl, b2⟩; have SX := SX.step b2)  | (go_at_call 16; (with_reducible refine (B.out x RP.out _).mono ?_); rintro e w' ⟨rfl, rfl⟩)  | (go_at_call 18; (with_reducible refine (C.out x RP.out _).mono ?_); rintro e w3 ⟨rfl, b3⟩; have SX := (SX.step ((Below.refl _ _).alloc (Nat.le_refl _) _)).step b3)  | (go_at_call 15; (with_reducible refine (D.out x RP.out _).mono ?_); rintro e w' ⟨rfl, rfl⟩)  | (go_at_call 21; (with_reducible refine (T.out x RP.out _).mono ?_); rintro e w' ⟨rfl, rfl⟩)  | (go_at_call 23; (with_reducible refine (R.out x RP.out _).mono ?_); rintro e w' ⟨rfl, rfl⟩)  | (go_at_call 18; (with_reducible refine (share0 _ _).mono ?_); rintro e w4 ⟨v4, r4, rfl, hv4, b4⟩; have SX := (SX.step ((Below.refl _ _).alloc (Nat.le_refl _) _)).step b4; obtain ⟨rfl, rfl⟩ := hv4 (by omega))  | (go_at_call 15; (with_reducible refine (E.out x RP.out _).mono ?_); rintro e w' ⟨rfl, rfl⟩))
        go_roundw
        case rel => exact ⟨1, by omega, rfl, SX.step ((Below.refl _ _).alloc (Nat.le_refl _) _)⟩
        case measure => simp [intOf]
      · have c0 : wr.cell? ⟨b, 1, none⟩ = some (.int .i64 (-(1000000000000001 + p))) := (SR.bl.cell (World.block_lt_of_cell? _ _ D1.out)).trans D1.out
        obtain ⟨x, hx⟩ : ∃ x, x = -(1000000000000001 + p) := ⟨_, rfl⟩
        rw [← hx] at c0 RN
        have xb : -2305843009213693952 ≤ x ∧ x ≤ -1000000000000001 := by omega
        obtain ⟨xb1, xb2⟩ := xb
        have SX := SR
        clear hx SW
        go_wp2_with (first | (go_at_call 20; (with_reducible refine (A.out x RN.out _).mono ?_); rintro e w2 ⟨rfl, b2⟩; have SX := SX.step b2)  | (go_at_call 16; (with_reducible refine (B.out x RN.out _).mono ?_); rintro e w' ⟨rfl, rfl⟩)  | (go_at_call 18; (with_reducible refine (C.out x RN.out _).mono ?_); rintro e w3 ⟨rfl, b3⟩; have SX := (SX.step ((Below.refl _ _).alloc (Nat.le_refl _) _)).step b3)  | (go_at_call 15; (with_reducible refine (D.out x RN.out _).mono ?_); rintro e w' ⟨rfl, rfl⟩)  | (go_at_call 21; (with_reducible refine (T.out x RN.out _).mono ?_); rintro e w' ⟨rfl, rfl⟩)  | (go_at_call 23; (with_reducible refine (R.out x RN.out _).mono ?_); rintro e w' ⟨rfl, rfl⟩)  | (go_at_call 18; (with_reducible refine (share0 _ _).mono ?_); rintro e w4 ⟨v4, r4, rfl, hv4, b4⟩; have SX := (SX.step ((Below.refl _ _).alloc (Nat.le_refl _) _)).step b4; clear hv4)  | (go_at_call 15; (with_reducible refine (E.out x RN.out _).mono ?_); rintro e w' ⟨rfl, rfl⟩))
        go_roundw
        case rel => exact ⟨2, by omega, rfl, SX.step ((Below.refl _ _).alloc (Nat.le_refl _) _)⟩
        case measure => simp [intOf]
      · clear SR
        go_wp2_with (first | (go_at_call 18; (with_reducible refine (U1.out _ (by omega) (by omega) (by omega) _).mono ?_); rintro e w2 ⟨rfl, b2⟩; have SX := SW.step b2)  | (go_at_call 15; (with_reducible refine (U2.out _).mono ?_); rintro e w' ⟨rfl, rfl⟩)  | (go_at_call 20; (with_reducible refine (U3.out _).mono ?_); rintro e w3 ⟨rfl, b3⟩; have SX := (SX.step ((Below.refl _ _).alloc (Nat.le_refl _) _)).step b3)  | (go_at_call 18; (with_reducible refine (U4.out _).mono ?_); rintro e w4 ⟨rfl, b4⟩; have SX := SX.step b4)  | (go_at_call 15; (with_reducible refine (U5.out _).mono ?_); rintro e w' ⟨rfl, rfl⟩))
        go_ret
        exact ⟨rfl, SX.bl⟩
end Go.Proofs.YthdmgnlemmpjkaaDoor
