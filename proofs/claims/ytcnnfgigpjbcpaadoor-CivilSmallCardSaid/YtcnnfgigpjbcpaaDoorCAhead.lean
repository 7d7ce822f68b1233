/- CivilAhead: its walk. -/
import Derived.Test.YtcnnfgigpjbcpaaDoorF
namespace Go.Proofs.YtcnnfgigpjbcpaaDoor
open Go.RowKit
theorem ahead_hit (d n r : Int) (v : Value) (zs : List Int) (w0 w : World) (S : St w0 w) (h : Sl w v zs) (hr : Hol.right zs = true) (hn : 0 ≤ n) (h0 : 0 ≤ d) (m k : Nat) (hm : d + m = 730485) (hk : Hol.ahead zs d n m = k) (hlt : k < m) (hrr : r = d + k) :
    Calls Tryd.prog 36 #[.int .i64 d, .int .i64 n, v] w fun e w' => e = .returned (.tuple #[.int .i64 r, .int .i64 0]) ∧ St w0 w' := by
  have c := ahead_ok d n v zs w0 w S h hr hn h0 (by omega) m hm
  rw [hk, if_neg (by omega), if_neg (by omega)] at c
  subst hrr; exact c
theorem ahead_miss (d n : Int) (v : Value) (zs : List Int) (w0 w : World) (S : St w0 w) (h : Sl w v zs) (hr : Hol.right zs = true) (hn : 0 ≤ n) (h0 : 0 ≤ d) (h1 : d ≤ 730484) (m : Nat) (hm : d + m = 730485) (hk : Hol.ahead zs d n m = m) :
    Calls Tryd.prog 36 #[.int .i64 d, .int .i64 n, v] w fun e w' => e = .returned (.tuple #[.int .i64 0, .int .i64 3]) ∧ St w0 w' := by
  have c := ahead_ok d n v zs w0 w S h hr hn h0 h1 m hm
  rw [if_pos hk, if_pos hk] at c
  exact c
theorem between_eq (a b r : Int) (v : Value) (zs : List Int) (w0 w : World) (S : St w0 w) (h : Sl w v zs) (hr : Hol.right zs = true) (h0 : 0 ≤ a) (h1 : a ≤ b) (h2 : b ≤ 730484) (hrr : Hol.wb zs b - Hol.wb zs a = r) :
    Calls Tryd.prog 34 #[.int .i64 a, .int .i64 b, v] w fun e w' => e = .returned (.tuple #[.int .i64 r, .int .i64 0]) ∧ St w0 w' := by
  subst hrr; exact between_ok a b v zs w0 w S h hr h0 h1 h2
theorem works_eq (d : Int) (b : Bool) (v : Value) (zs : List Int) (w0 w : World) (S : St w0 w) (h : Sl w v zs) (hr : Hol.right zs = true) (h0 : 0 ≤ d) (h1 : d ≤ 730484) (hb : Hol.works zs d = b) :
    Calls Tryd.prog 35 #[.int .i64 d, v] w fun e w' => e = .returned (.tuple #[.bool b, .int .i64 0]) ∧ St w0 w' := by
  subst hb; exact (works_ok d v zs w h hr h0 h1).mono fun _ _ ⟨he, hq⟩ => ⟨he, hq.st S⟩
namespace Hol
/-- The day that is one more working day ahead is the next working day behind. -/
theorem ahead_next (l : List Int) (a n : Int) (m k m2 : Nat) (hp : l.Pairwise (· < ·)) (hn : 0 ≤ n) (hk : ahead l a n m = k) (hlt : k < m) (hm : m = k + 1 + m2) :
    (ahead l (a + k + 1) 0 m2 < m2 ∧ ahead l a (n + 1) m = k + 1 + ahead l (a + k + 1) 0 m2) ∨ (ahead l (a + k + 1) 0 m2 = m2 ∧ ahead l a (n + 1) m = m) := by
  obtain ⟨s1, s2, s3⟩ := ahead_spec l a n m hp hn
  rw [hk] at s2
  obtain ⟨w1, w2⟩ := s2 hlt
  have su := wb_succ l (a + k) hp
  rw [w1, if_pos rfl] at su
  obtain ⟨t1, t2, t3⟩ := ahead_spec l (a + k + 1) 0 m2 hp (by omega)
  obtain ⟨q, hq⟩ : ∃ q, q = ahead l (a + k + 1) 0 m2 := ⟨_, rfl⟩
  rw [← hq] at t1 t2 t3 ⊢
  by_cases c : q < m2
  · obtain ⟨x1, x2⟩ := t2 c
    refine Or.inl ⟨c, ahead_eq l a (n + 1) m (k + 1 + q) hp (by omega) (by omega) ?_ ?_⟩
    · rw [show a + ((k + 1 + q : Nat) : Int) = a + k + 1 + q by omega]; exact x1
    · rw [show a + ((k + 1 + q : Nat) : Int) = a + k + 1 + q by omega]; omega
  · have x := t3 (by omega)
    refine Or.inr ⟨by omega, ?_⟩
    obtain ⟨u1, u2, u3⟩ := ahead_spec l a (n + 1) m hp (by omega)
    by_cases d : ahead l a (n + 1) m = m
    · exact d
    · obtain ⟨v1, v2⟩ := u2 (by omega)
      have sv := wb_succ l (a + ahead l a (n + 1) m) hp
      rw [v1, if_pos rfl] at sv
      have mo := wb_mono l hp (a + ahead l a (n + 1) m + 1) (a + k + 1 + m2) (by omega)
      omega
end Hol
set_option maxRecDepth 100000 in
set_option maxHeartbeats 3200000 in
theorem ahead_walk (us : List Int) (v : Value) (a n : Int) (w : World) (G : Gl w) (hu : Su w v us) :
    Calls Tryd.prog 11 #[v, .int .i64 a, .int .i64 n] w fun e w' => e = .returned (.bool true) ∧ Below w.heap.size w w' := by
  have P := Lib.hid (fun w => day_pick a w)
  have Q := Lib.hid (fun w => pick_any n 1048576 w (by omega) (by omega))
  have L := Lib.hid (fun w1 (S1 : St w w1) => list_any v us w w1 S1 (hu.below S1.bl))
  obtain ⟨x, hx⟩ : ∃ x, x = a % 730485 := ⟨_, rfl⟩
  obtain ⟨y, hy⟩ : ∃ x, x = n % 1048576 := ⟨_, rfl⟩
  have x0 : 0 ≤ x := by omega
  have x1 : x < 730485 := by omega
  have y0 : 0 ≤ y := by omega
  have y1 : y < 1048576 := by omega
  rw [← hx] at P
  rw [← hy] at Q
  obtain ⟨m, hm⟩ : ∃ m : Nat, x + m = 730485 := ⟨(730485 - x).toNat, by omega⟩
  have HM := Lib.hid hm
  have hm1 : (m : Int) ≤ 730485 := by omega
  have hm2 : 1 ≤ m := by omega
  obtain ⟨ao, cp, hv, _⟩ := hu
  obtain ⟨len, hlen⟩ : ∃ n, n = us.length := ⟨_, rfl⟩
  rw [← hlen] at hv
  subst hv
  clear hx hy hm hlen
  go_enter Tryd.func11, Tryd.ntmps11
  go_wp2_with (first | (go_at_call 19; refine (awake_any w _ (St.refl G)).mono ?_; rintro e w1 ⟨rfl, S1⟩) | (go_at_call 32; fail))
  refine (L.out _ S1).mono ?_
  rintro e w2 ⟨ai, c, K, hK, rfl, sl, S2, _⟩
  have hr := lsn_right us K hK
  obtain ⟨l, hl⟩ : ∃ l, l = lsn us K := ⟨_, rfl⟩
  rw [← hl] at hr sl
  have pw := Hol.inc_pw l _ ((Hol.right_iff l).1 hr).2
  have HR := Lib.hid hr
  have PW := Lib.hid pw
  have SL := Lib.hid (fun w' (S : Below w2.heap.size w2 w') => sl.below S)
  obtain ⟨s1, s2, s3⟩ := Hol.ahead_spec l x y m pw y0
  obtain ⟨k, hk⟩ : ∃ k, k = Hol.ahead l x y m := ⟨_, rfl⟩
  rw [← hk] at s1 s2 s3
  have HK := Lib.hid hk.symm
  have Hs2 := Lib.hid s2
  have Hs3 := Lib.hid s3
  clear hl hr sl pw s2 s3 hk L G
  have T0 : St w2 w2 := St.refl S2.gl
  by_cases c : k < m
  · have hkx : x + k ≤ 730484 := by have := HM.out; omega
    by_cases cl : 730484 ≤ x + k
    · go_wp2_with (first | (go_at_call 33; (with_reducible refine (P.out _).mono ?_); rintro e w' ⟨rfl, rfl⟩) | (go_at_call 26; (with_reducible refine (Q.out _).mono ?_); rintro e w' ⟨rfl, rfl⟩)  | (go_at_call 36; (with_reducible refine (ahead_hit x y (x + k) _ l w2 _ T0 (SL.out _ T0.bl) HR.out y0 x0 m k HM.out HK.out c rfl).mono ?_); rintro e w3 ⟨rfl, T3⟩)  | (go_at_call 35; (with_reducible refine (works_eq (x + k) true _ l w2 _ T3 (SL.out _ T3.bl) HR.out (by omega) (by omega) (Hs2.out c).1).mono ?_); rintro e w4 ⟨rfl, T4⟩)  | (go_at_call 34; (with_reducible refine (between_eq x (x + k) y _ l w2 _ T4 (SL.out _ T4.bl) HR.out (by omega) (by omega) (by omega) (Hs2.out c).2).mono ?_); rintro e w5 ⟨rfl, T5⟩))
      go_ret
      exact ⟨rfl, S2.bl.trans (T5.bl.mono S2.bl.size)⟩
    · obtain ⟨m2, hm2'⟩ : ∃ m2, m = k + 1 + m2 := ⟨m - k - 1, by omega⟩
      have HM2 : Hid (x + k + 1 + m2 = 730485) := by have := HM.out; show _ = _; omega
      rcases Hol.ahead_next l x y m k m2 PW.out y0 HK.out c hm2' with ⟨n1, n2⟩ | ⟨n1, n2⟩
      · obtain ⟨q, hq⟩ : ∃ q, q = Hol.ahead l (x + k + 1) 0 m2 := ⟨_, rfl⟩
        rw [← hq] at n1 n2
        have HQ := Lib.hid hq.symm
        have N2 := Lib.hid n2
        have L2 : Hid (k + 1 + q < m) := by show _ < _; omega
        have E2 : Hid (x + k + 1 + q = x + ((k + 1 + q : Nat) : Int)) := by show _ = _; omega
        clear hq n2 hm2'
        go_wp2_with (first | (go_at_call 33; (with_reducible refine (P.out _).mono ?_); rintro e w' ⟨rfl, rfl⟩) | (go_at_call 26; (with_reducible refine (Q.out _).mono ?_); rintro e w' ⟨rfl, rfl⟩)  | (go_at_call 36; (with_reducible refine (ahead_hit x y (x + k) _ l w2 _ T0 (SL.out _ T0.bl) HR.out y0 x0 m k HM.out HK.out c rfl).mono ?_); rintro e w3 ⟨rfl, T3⟩)  | (go_at_call 35; (with_reducible refine (works_eq (x + k) true _ l w2 _ T3 (SL.out _ T3.bl) HR.out (by omega) (by omega) (Hs2.out c).1).mono ?_); rintro e w4 ⟨rfl, T4⟩)  | (go_at_call 34; (with_reducible refine (between_eq x (x + k) y _ l w2 _ T4 (SL.out _ T4.bl) HR.out (by omega) (by omega) (by omega) (Hs2.out c).2).mono ?_); rintro e w5 ⟨rfl, T5⟩)  | (go_at_call 36; (with_reducible refine (ahead_hit x (y + 1) (x + k + 1 + q) _ l w2 _ T5 (SL.out _ T5.bl) HR.out (by omega) x0 m (k + 1 + q) HM.out N2.out L2.out E2.out).mono ?_); rintro e w6 ⟨rfl, T6⟩)  | (go_at_call 36; (with_reducible refine (ahead_hit (x + k + 1) 0 (x + k + 1 + q) _ l w2 _ T6 (SL.out _ T6.bl) HR.out (by omega) (by omega) m2 q HM2.out HQ.out n1 rfl).mono ?_); rintro e w7 ⟨rfl, T7⟩))
        go_ret
        exact ⟨rfl, S2.bl.trans (T7.bl.mono S2.bl.size)⟩
      · have HQ := Lib.hid n1
        have N2 := Lib.hid n2
        clear n1 n2 hm2'
        go_wp2_with (first | (go_at_call 33; (with_reducible refine (P.out _).mono ?_); rintro e w' ⟨rfl, rfl⟩) | (go_at_call 26; (with_reducible refine (Q.out _).mono ?_); rintro e w' ⟨rfl, rfl⟩)  | (go_at_call 36; (with_reducible refine (ahead_hit x y (x + k) _ l w2 _ T0 (SL.out _ T0.bl) HR.out y0 x0 m k HM.out HK.out c rfl).mono ?_); rintro e w3 ⟨rfl, T3⟩)  | (go_at_call 35; (with_reducible refine (works_eq (x + k) true _ l w2 _ T3 (SL.out _ T3.bl) HR.out (by omega) (by omega) (Hs2.out c).1).mono ?_); rintro e w4 ⟨rfl, T4⟩)  | (go_at_call 34; (with_reducible refine (between_eq x (x + k) y _ l w2 _ T4 (SL.out _ T4.bl) HR.out (by omega) (by omega) (by omega) (Hs2.out c).2).mono ?_); rintro e w5 ⟨rfl, T5⟩)  | (go_at_call 36; (with_reducible refine (ahead_miss x (y + 1) _ l w2 _ T5 (SL.out _ T5.bl) HR.out (by omega) x0 (by omega) m HM.out N2.out).mono ?_); rintro e w6 ⟨rfl, T6⟩)  | (go_at_call 36; (with_reducible refine (ahead_miss (x + k + 1) 0 _ l w2 _ T6 (SL.out _ T6.bl) HR.out (by omega) (by omega) (by omega) m2 HM2.out HQ.out).mono ?_); rintro e w7 ⟨rfl, T7⟩))
        go_ret
        exact ⟨rfl, S2.bl.trans (T7.bl.mono S2.bl.size)⟩
  · have km : k = m := by omega
    have HK2 : Hid (Hol.ahead l x y m = m) := by have := HK.out; show _ = _; omega
    have z3 := Hs3.out km
    have su := Hol.wb_succ l 730484 PW.out
    rw [show x + (m : Int) = 730484 + 1 by have := HM.out; omega] at z3
    obtain ⟨r, hr⟩ : ∃ r, Hol.wb l 730484 - Hol.wb l x = r := ⟨_, rfl⟩
    obtain ⟨b, hb⟩ : ∃ b, Hol.works l 730484 = b := ⟨_, rfl⟩
    rw [hb] at su
    have b1 := wb_bd HR.out x x0 (by omega)
    have b2 := wb_bd HR.out 730484 (by omega) (by omega)
    have r1 : r ≤ 730485 := by omega
    have r2 : -730485 ≤ r := by omega
    have HRR := Lib.hid hr
    have HBB := Lib.hid hb
    cases b
    all_goals
      simp only [Bool.false_eq_true, if_false, if_true] at su
      first | (have rr : r ≤ y - 1 := by omega) | (have rr : r ≤ y := by omega)
      clear su z3 hr hb km c b1 b2
      go_wp2_with (first | (go_at_call 33; (with_reducible refine (P.out _).mono ?_); rintro e w' ⟨rfl, rfl⟩) | (go_at_call 26; (with_reducible refine (Q.out _).mono ?_); rintro e w' ⟨rfl, rfl⟩)  | (go_at_call 36; (with_reducible refine (ahead_miss x y _ l w2 _ T0 (SL.out _ T0.bl) HR.out y0 x0 (by omega) m HM.out HK2.out).mono ?_); rintro e w3 ⟨rfl, T3⟩)  | (go_at_call 34; (with_reducible refine (between_eq x 730484 r _ l w2 _ T3 (SL.out _ T3.bl) HR.out (by omega) (by omega) (by omega) HRR.out).mono ?_); rintro e w4 ⟨rfl, T4⟩)  | (go_at_call 35; (with_reducible refine (works_eq 730484 _ _ l w2 _ T4 (SL.out _ T4.bl) HR.out (by omega) (by omega) HBB.out).mono ?_); rintro e w5 ⟨rfl, T5⟩))
      go_ret
      first | exact ⟨rfl, S2.bl.trans (T5.bl.mono S2.bl.size)⟩ | (refine ⟨ret_bool ?_, S2.bl.trans (T5.bl.mono S2.bl.size)⟩; exact decide_eq_true (by omega))
theorem walk_civilAhead (w : World) (G : Gl w) (a0 : Option Addr) (len cap : Nat) (zs : List Int) (h : IsRow .u16 w a0 len cap zs) (a : Int) (_a1 : -9223372036854775808 ≤ a) (_a2 : a ≤ 9223372036854775807) (n : Int) (_n1 : -9223372036854775808 ≤ n) (_n2 : n ≤ 9223372036854775807) :
    Calls Tryd.prog 11 #[.slice a0 len cap, .int .i64 a, .int .i64 n] w fun e w' => e = .returned (.bool true) ∧ Below w.heap.size w w' :=
  ahead_walk (zs.take len) _ a n w G (su_of h)
end Go.Proofs.YtcnnfgigpjbcpaaDoor
