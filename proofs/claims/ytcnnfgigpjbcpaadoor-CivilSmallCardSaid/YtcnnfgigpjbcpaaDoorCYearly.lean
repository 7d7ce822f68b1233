/- CivilYearly: its walk. -/
import Derived.Test.YtcnnfgigpjbcpaaDoorS0
namespace Go.Proofs.YtcnnfgigpjbcpaaDoor
open Go.RowKit

namespace Cal
theorem dim_le (m : Int) (l : Bool) (h1 : 1 ≤ m) (h2 : m ≤ 12) : dim l m ≤ dim true m := by
  obtain ⟨k, rfl⟩ : ∃ k : Nat, m = k := ⟨m.toNat, by omega⟩
  exact (by decide : ∀ (k : Fin 13) (l : Bool), 1 ≤ k.val → dim l (k.val : Int) ≤ dim true (k.val : Int)) ⟨k, by omega⟩ l (by show 1 ≤ k; omega)
end Cal
theorem yd_of {n y m d : Int} (h : Cal.IsDate n y m d) : ydB (100 * m + d) = true := by
  have a := Cal.dim_le m (Cal.lp y) h.m1 h.m2
  have b := (Cal.dim_bd m true h.m1 h.m2).2
  obtain ⟨y1, y2, m1, m2, d1, d2, e⟩ := h
  have e1 : (100 * m + d).tdiv 100 = m := by rw [Int.tdiv_eq_ediv_of_nonneg (by omega)]; omega
  have e2 : (100 * m + d).tmod 100 = d := by rw [Int.tmod_eq_emod_of_nonneg (by omega)]; omega
  unfold ydB
  rw [e1, e2]
  exact decide_eq_true (by omega)
set_option maxHeartbeats 800000 in
theorem md_any {n y m d : Int} (o : Int) (w : World) (h : Cal.IsDate n y m d) (ho : 100 * m + d = o) (G : Gl w) :
    Calls Tryd.prog 37 #[.int .i64 n] w fun e w' => e = .returned (.int .i64 o) ∧ w = w' := by
  subst ho
  have m1 := h.m1
  have m2 := h.m2
  have d1 := h.d1
  have d2 : d ≤ 31 := Int.le_trans h.d2 (Cal.dim_bd m _ m1 m2).2
  go_enter Tryd.func37, Tryd.ntmps37
  go_wp2_with (go_at_call 27; refine (date_ok _ h G).mono ?_; rintro e w' ⟨rfl, rfl⟩)
  go_ret
  exact ⟨rfl, rfl⟩
/-- A day's own number, as a day of the year. -/
theorem own_day (x : Int) (h0 : 0 ≤ x) (h : x ≤ 730484) : ∃ y m d o : Int, Cal.IsDate x y m d ∧ 100 * m + d = o ∧ ydB o = true ∧ 0 ≤ o ∧ o ≤ 1300 := by
  have D := Cal.date_is x h0 h
  have b := (Cal.dim_bd (Cal.mOf x) (Cal.lp (Cal.yOf x)) D.m1 D.m2).2
  have y := yd_of D
  have a1 := D.m1
  have a2 := D.m2
  have a3 := D.d1
  have a4 := D.d2
  exact ⟨_, _, _, _, D, rfl, y, by omega, by omega⟩
set_option maxRecDepth 100000 in
set_option maxHeartbeats 3200000 in
theorem yearly_walk (n a b x xa xb y m d o ya ma da f yb mb db t : Int) (w : World) (G : Gl w) (D : Cal.IsDate x y m d) (ho : 100 * m + d = o) (A : Cal.IsDate xa ya ma da) (hf : 100 * ma + da = f) (B : Cal.IsDate xb yb mb db) (ht : 100 * mb + db = t)
    (P : Hid (∀ w, Calls Tryd.prog 33 #[.int .i64 n] w fun e w' => e = .returned (.int .i64 x) ∧ w = w')) (PA : Hid (∀ w, Calls Tryd.prog 33 #[.int .i64 a] w fun e w' => e = .returned (.int .i64 xa) ∧ w = w')) (PB : Hid (∀ w, Calls Tryd.prog 33 #[.int .i64 b] w fun e w' => e = .returned (.int .i64 xb) ∧ w = w'))
    (Y1 : Hid (∀ w, Gl w → Calls Tryd.prog 38 #[.int .i64 x, .int .i64 f, .int .i64 t] w fun e w' => e = .returned (.tuple #[.bool (inB o f t), .int .i64 0]) ∧ w = w')) (Y2 : Hid (∀ w, Gl w → Calls Tryd.prog 38 #[.int .i64 x, .int .i64 t, .int .i64 f] w fun e w' => e = .returned (.tuple #[.bool (inB o t f), .int .i64 0]) ∧ w = w')) :
    Calls Tryd.prog 12 #[.int .i64 n, .int .i64 a, .int .i64 b] w fun e w' => e = .returned (.bool true) ∧ Below w.heap.size w w' := by
  have HO := Lib.hid ho
  have HF := Lib.hid hf
  have HT := Lib.hid ht
  clear ho hf ht
  cases hin : inB o f t <;> cases hout : inB o t f <;> by_cases h1 : o = f <;> by_cases h2 : o = t <;> by_cases h3 : f = t
  all_goals first
    | (exfalso; clear HO HF HT Y1 Y2 P PA PB D A B; simp only [inB, decide_eq_true_eq, decide_eq_false_iff_not] at hin hout; omega)
    | (rw [hin] at Y1; rw [hout] at Y2; clear hin hout; (try subst h1); (try subst h2); (try subst h3); go_enter Tryd.func12, Tryd.ntmps12;  go_wp2_with (first | (go_at_call 19; refine (awake_any w _ (St.refl G)).mono ?_; rintro e w1 ⟨rfl, S1⟩)  | (go_at_call 33; (with_reducible refine (P.out _).mono ?_); rintro e w' ⟨rfl, rfl⟩) | (go_at_call 33; (with_reducible refine (PA.out _).mono ?_); rintro e w' ⟨rfl, rfl⟩) | (go_at_call 33; (with_reducible refine (PB.out _).mono ?_); rintro e w' ⟨rfl, rfl⟩)  | (go_at_call 37; (with_reducible refine (md_any _ _ D HO.out S1.gl).mono ?_); rintro e w' ⟨rfl, rfl⟩) | (go_at_call 37; (with_reducible refine (md_any _ _ A HF.out S1.gl).mono ?_); rintro e w' ⟨rfl, rfl⟩) | (go_at_call 37; (with_reducible refine (md_any _ _ B HT.out S1.gl).mono ?_); rintro e w' ⟨rfl, rfl⟩)  | (go_at_call 38; (with_reducible refine (Y1.out _ S1.gl).mono ?_); rintro e w' ⟨rfl, rfl⟩) | (go_at_call 38; (with_reducible refine (Y2.out _ S1.gl).mono ?_); rintro e w' ⟨rfl, rfl⟩));  go_ret; first | exact ⟨rfl, S1.bl⟩ | (refine ⟨ret_bool ?_, S1.bl⟩; simp [h1]; done) | (refine ⟨ret_bool ?_, S1.bl⟩; simp [h2]; done) | (refine ⟨ret_bool ?_, S1.bl⟩; simp [h1, h2]; done))
theorem walk_civilYearly (n : Int) (_n1 : -9223372036854775808 ≤ n) (_n2 : n ≤ 9223372036854775807) (a : Int) (_a1 : -9223372036854775808 ≤ a) (_a2 : a ≤ 9223372036854775807) (b : Int) (_b1 : -9223372036854775808 ≤ b) (_b2 : b ≤ 9223372036854775807) (w : World) (G : Gl w) :
    Calls Tryd.prog 12 #[.int .i64 n, .int .i64 a, .int .i64 b] w fun e w' => e = .returned (.bool true) ∧ Below w.heap.size w w' := by
  obtain ⟨y, m, d, o, D, ho, yo, o0, o1⟩ := own_day (n % 730485) (by omega) (by omega)
  obtain ⟨ya, ma, da, f, A, hf, yf, f0, f1⟩ := own_day (a % 730485) (by omega) (by omega)
  obtain ⟨yb, mb, db, t, B, ht, yt, t0, t1⟩ := own_day (b % 730485) (by omega) (by omega)
  exact yearly_walk n a b _ _ _ y m d o ya ma da f yb mb db t w G D ho A hf B ht (fun w => day_pick n w) (fun w => day_pick a w) (fun w => day_pick b w)
    (fun w G => ho ▸ yearly_ok w D (by omega) (by omega) (by omega) (by omega) yf yt G) (fun w G => ho ▸ yearly_ok w D (by omega) (by omega) (by omega) (by omega) yt yf G)
end Go.Proofs.YtcnnfgigpjbcpaaDoor
