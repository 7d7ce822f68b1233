/- StatsCovers: the walk. -/
import Derived.Test.YtjfopggpohakkaaSs
namespace Go.Proofs.Ytjfopggpohakkaa
open Go.RowKit

set_option maxRecDepth 100000 in
set_option maxHeartbeats 6400000 in
theorem walk_statsCovers (w : World) (t : Int) (_t1 : -9223372036854775808 ≤ t) (_t2 : t ≤ 9223372036854775807) (s : Int) (_s1 : -9223372036854775808 ≤ s) (_s2 : s ≤ 9223372036854775807) (r : Int) (_r1 : -9223372036854775808 ≤ r) (_r2 : r ≤ 9223372036854775807) :
    Calls Try.prog 7 #[.int .i64 t, .int .i64 s, .int .i64 r] w fun e w' => e = .returned (.bool true) ∧ Below w.heap.size w w' := by
  obtain ⟨n, en, hn⟩ := picked t 31 (by omega)
  obtain ⟨p, ep, hp⟩ := picked s 10001 (by omega)
  obtain ⟨a0, ea, ha⟩ := picked r 2000 (by omega)
  obtain ⟨a, haa⟩ : ∃ a, a = 1 + a0 := ⟨_, rfl⟩
  have AW := Lib.hid (awake4_any w)
  have PN := Lib.hid (fun w' => pick_any t 31 w' (by omega) (by omega))
  have PS := Lib.hid (fun w' => share4 s w')
  have PR := Lib.hid (fun w' => risk4 r w')
  rw [en] at PN
  rw [ep] at PS
  rw [ea, show (1 : Int) + (a0 : Int) = (a : Int) by omega] at PR
  have a1 : 1 ≤ a := by omega
  have a2 : a ≤ 2000 := by omega
  clear en ep ea haa ha
  go_enter Try.func7, Try.ntmps7
  go_wp2_with (first
    | (go_at_call 14; with_reducible refine AW.out.mono ?_; rintro e w1 ⟨rfl, b1⟩)
    | (go_at_call 19; with_reducible refine (PN.out _).mono ?_; rintro e w' ⟨rfl, rfl⟩)
    | (go_at_call 20; with_reducible refine (PS.out _).mono ?_; rintro e w' ⟨rfl, rfl⟩)
    | (go_at_call 21; with_reducible refine (PR.out _).mono ?_; rintro e w' ⟨rfl, rfl⟩))
  have BT := Lib.hid b1
  obtain ⟨q, hq⟩ : ∃ q, q = 10000 - p := ⟨_, rfl⟩
  have PQ : Hid (p + q = 10000) := by show _ = _; omega
  have QW : Hid (q = Bn.W - p) := by show _ = _; unfold Bn.W; omega
  have n30 : n ≤ 30 := by omega
  have p4 : p ≤ 10000 := by omega
  obtain ⟨fa, hfa⟩ : ∃ fa : Nat → Bool, fa = fun i => decide (p < Bn.low n i a) := ⟨_, rfl⟩
  obtain ⟨fb, hfb⟩ : ∃ fb : Nat → Bool, fb = fun i => decide (Bn.high n i a < p) := ⟨_, rfl⟩
  have FA := Lib.hid hfa
  have FB := Lib.hid hfb
  have ZN : ∀ f : Nat → Bool, ∀ k, Bn.A p q n f k ≤ 10000 ^ n := fun f k => Nat.le_trans (Bn.A_le p q n f k) (S_W (by have := PQ.out; omega))
  have HZ := Lib.hid ZN
  have TW : Hid (10000 * 10000 ^ n < Nt.top) := top_W (by omega) (by omega)
  have CH := Lib.hid (fun k (hk : k ≤ n) w' => chance_ok n k p w' (by omega) hk p4)
  rw [← hq] at CH
  have LE := Lib.hid (fun k (hk : k ≤ n) w' => least_ok n k a w' (by omega) hk a1 a2)
  have GR := Lib.hid (fun k (hk : k ≤ n) w' => greatest_ok n k a w' (by omega) hk a1 a2)
  have LH := Lib.hid (fun k (hk : k ≤ n) => Bn.low_high (n := n) (k := k) (r := a) hk (by unfold Bn.W; omega))
  have XA := Lib.hid (Bn.above (n := n) (p := p) (r := a) (by unfold Bn.W; omega) (by unfold Bn.W; omega))
  have XB := Lib.hid (Bn.below (n := n) (p := p) (r := a) (by unfold Bn.W; omega) (by unfold Bn.W; omega))
  rw [← QW.out, ← hfa] at XA
  rw [← QW.out, ← hfb] at XB
  clear hq hfa hfb ZN b1
  go_loopw [10, 11, 12] (fun u v i wr => ∃ (k : Nat) (x1 x2 : Option Addr) (m1 c1 m2 c2 : Nat), k ≤ n + 1 ∧ i = .int .i64 k ∧ u = .slice x1 m1 c1 ∧ v = .slice x2 m2 c2 ∧ Hid (Dg wr (.slice x1 m1 c1) (Bn.A p q n fa k)) ∧ Hid (Dg wr (.slice x2 m2 c2) (Bn.A p q n fb k)) ∧ Hid (Below w.heap.size w wr)) (fun _ _ i _ => n + 1 - (intOf i).toNat)
  case atStart => exact ⟨0, none, none, 0, 0, 0, 0, Nat.zero_le _, rfl, rfl, rfl, (show Dg _ _ _ from Dg.nil _), (show Dg _ _ _ from Dg.nil _), BT⟩
  case round =>
    obtain ⟨k, x1, x2, m1, c1, m2, c2, hk, rfl, rfl, rfl, D1, D2, B⟩ := hrel
    by_cases hlt : k ≤ n
    · have C := Lib.hid (CH.out k hlt wr)
      have L := Lib.hid (LE.out k hlt)
      have G := Lib.hid (GR.out k hlt)
      have ea : Hid (fa k = decide (p < Bn.low n k a)) := by show _ = _; rw [FA.out]
      have eb : Hid (fb k = decide (Bn.high n k a < p)) := by show _ = _; rw [FB.out]
      have lh := LH.out k hlt
      have l1 := low_le4 n k a
      have h1 := high_le n k a
      obtain ⟨lo, hlo⟩ : ∃ lo, lo = Bn.low n k a := ⟨_, rfl⟩
      obtain ⟨hi, hhi⟩ : ∃ hi, hi = Bn.high n k a := ⟨_, rfl⟩
      rw [← hlo] at L ea lh l1
      rw [← hhi] at G eb lh h1
      clear hlo hhi
      have n0 : (k : Int) ≤ (n : Int) := by omega
      have AA := Lib.hid (fun (h : fa k = true) u v w' (d1 : Dg w' u (Bn.A p q n fa k)) (d2 : Dg w' v (Bn.T p q n k)) => by
        have e : Bn.A p q n fa (k + 1) = Bn.A p q n fa k + Bn.T p q n k := by show (if fa k = true then _ else _) = _; rw [if_pos h]
        have := add_dig u v _ _ w' d1 d2 (by have := HZ.out fa (k + 1); have := TW.out; omega)
        rw [← e] at this; exact this)
      have AB := Lib.hid (fun (h : fb k = true) u v w' (d1 : Dg w' u (Bn.A p q n fb k)) (d2 : Dg w' v (Bn.T p q n k)) => by
        have e : Bn.A p q n fb (k + 1) = Bn.A p q n fb k + Bn.T p q n k := by show (if fb k = true then _ else _) = _; rw [if_pos h]
        have := add_dig u v _ _ w' d1 d2 (by have := HZ.out fb (k + 1); have := TW.out; omega)
        rw [← e] at this; exact this)
      have NA := Lib.hid (fun (h : fa k = false) => show Bn.A p q n fa (k + 1) = Bn.A p q n fa k by show (if fa k = true then _ else _) = _; rw [h]; rfl)
      have NB := Lib.hid (fun (h : fb k = false) => show Bn.A p q n fb (k + 1) = Bn.A p q n fb k by show (if fb k = true then _ else _) = _; rw [h]; rfl)
      by_cases ha : p < lo
      · have ka : Hid (fa k = true) := by show _ = _; rw [ea.out]; exact decide_eq_true ha
        by_cases hb : hi < p
        · exfalso; omega
        · have kb : Hid (fb k = false) := by show _ = _; rw [eb.out]; exact decide_eq_false hb
          go_wp2_with (first
            | (go_at_call 22; with_reducible refine C.out.mono ?_; intro e w2 hq; obtain ⟨x3, m3, c3, rfl, D3, b2⟩ := NumE.out hq; clear hq; have E1 := Dg.below D1.out b2; have E2 := Dg.below D2.out b2; have B2 := B.out.trans (b2.mono B.out.size))
            | (go_at_call 23; with_reducible refine (L.out w2).mono ?_; rintro e w3 ⟨rfl, b3⟩; have F1 := Dg.below E1 b3; have F2 := Dg.below E2 b3; have F3 := Dg.below D3 b3; have B3 := B2.trans (b3.mono B2.size))
            | (go_at_call 24; with_reducible refine (G.out w3).mono ?_; rintro e w4 ⟨rfl, b4⟩; have G1 := Dg.below F1 b4; have G2 := Dg.below F2 b4; have G3 := Dg.below F3 b4; have B4 := B3.trans (b4.mono B3.size))
            | (go_at_call 25; with_reducible refine (AA.out ka.out _ _ w4 G1 G3).mono ?_; rintro e w5 ⟨x5, m5, c5, rfl, D5, b5⟩; have H1 := Lib.hid D5; have H2 := Dg.below G2 b5; have H3 := Dg.below G3 b5; have B5 := B4.trans (b5.mono B4.size)))
          go_roundw
          case rel => exact ⟨k + 1, x5, x2, m5, c5, m2, c2, by omega, by go_num, rfl, rfl, (show Dg _ _ _ from H1.out), (show Dg _ _ _ by rw [NB.out kb.out]; exact H2), B5⟩
          case measure => simp [intOf]; omega
      · have ka : Hid (fa k = false) := by show _ = _; rw [ea.out]; exact decide_eq_false ha
        by_cases hb : hi < p
        · have kb : Hid (fb k = true) := by show _ = _; rw [eb.out]; exact decide_eq_true hb
          go_wp2_with (first
            | (go_at_call 22; with_reducible refine C.out.mono ?_; intro e w2 hq; obtain ⟨x3, m3, c3, rfl, D3, b2⟩ := NumE.out hq; clear hq; have E1 := Dg.below D1.out b2; have E2 := Dg.below D2.out b2; have B2 := B.out.trans (b2.mono B.out.size))
            | (go_at_call 23; with_reducible refine (L.out w2).mono ?_; rintro e w3 ⟨rfl, b3⟩; have F1 := Dg.below E1 b3; have F2 := Dg.below E2 b3; have F3 := Dg.below D3 b3; have B3 := B2.trans (b3.mono B2.size))
            | (go_at_call 24; with_reducible refine (G.out w3).mono ?_; rintro e w4 ⟨rfl, b4⟩; have G1 := Dg.below F1 b4; have G2 := Dg.below F2 b4; have G3 := Dg.below F3 b4; have B4 := B3.trans (b4.mono B3.size))
            | (go_at_call 25; with_reducible refine (AB.out kb.out _ _ w4 G2 G3).mono ?_; rintro e w6 ⟨x6, m6, c6, rfl, D6, b6⟩; have B6 := B4.trans (b6.mono B4.size)))
          go_roundw
          case rel => exact ⟨k + 1, x1, x6, m1, c1, m6, c6, by omega, by go_num, rfl, rfl, (show Dg _ _ _ by rw [NA.out ka.out]; exact Dg.below G1 b6), (show Dg _ _ _ from D6), B6⟩
          case measure => simp [intOf]; omega
        · have kb : Hid (fb k = false) := by show _ = _; rw [eb.out]; exact decide_eq_false hb
          go_wp2_with (first
            | (go_at_call 22; with_reducible refine C.out.mono ?_; intro e w2 hq; obtain ⟨x3, m3, c3, rfl, D3, b2⟩ := NumE.out hq; clear hq; have E1 := Dg.below D1.out b2; have E2 := Dg.below D2.out b2; have B2 := B.out.trans (b2.mono B.out.size))
            | (go_at_call 23; with_reducible refine (L.out w2).mono ?_; rintro e w3 ⟨rfl, b3⟩; have F1 := Dg.below E1 b3; have F2 := Dg.below E2 b3; have F3 := Dg.below D3 b3; have B3 := B2.trans (b3.mono B2.size))
            | (go_at_call 24; with_reducible refine (G.out w3).mono ?_; rintro e w4 ⟨rfl, b4⟩; have G1 := Dg.below F1 b4; have G2 := Dg.below F2 b4; have G3 := Dg.below F3 b4; have B4 := B3.trans (b4.mono B3.size)))
          go_roundw
          case rel => exact ⟨k + 1, x1, x2, m1, c1, m2, c2, by omega, by go_num, rfl, rfl, (show Dg _ _ _ by rw [NA.out ka.out]; exact G1), (show Dg _ _ _ by rw [NB.out kb.out]; exact G2), B4⟩
          case measure => simp [intOf]; omega
    · obtain rfl : k = n + 1 := by omega
      have E1 := Lib.hid (exceeds4 (.slice x1 m1 c1) n a _ wr D1.out (by omega) a2 (by have := HZ.out fa (n + 1); have := TW.out; omega))
      rw [XA.out] at E1
      have E2 := Lib.hid (fun w' (d : Dg w' (.slice x2 m2 c2) (Bn.A p q n fb (n + 1))) => exceeds4 (.slice x2 m2 c2) n a _ w' d (by omega) a2 (by have := HZ.out fb (n + 1); have := TW.out; omega))
      rw [XB.out] at E2
      go_wp2_with (first
        | (go_at_call 26; with_reducible refine E1.out.mono ?_; rintro e w2 ⟨rfl, b2⟩; have F2 := Dg.below D2.out b2)
        | (go_at_call 26; with_reducible refine (E2.out w2 F2).mono ?_; rintro e w3 ⟨rfl, b3⟩))
      go_ret
      have B2 := B.out.trans (b2.mono B.out.size)
      exact ⟨rfl, B2.trans (b3.mono B2.size)⟩
end Go.Proofs.Ytjfopggpohakkaa
