/- Days of the year in the reference; civil and the reference answer the same. -/
import Derived.Test.YtcnnfgigpjbcpaaDoorWq
import Derived.Test.YtcnnfgigpjbcpaaDoorCYearly
namespace Go.Proofs.YtcnnfgigpjbcpaaDoor
open Go.RowKit

theorem yd_ok (n : Int) : Cal.ok 2004 (n.tdiv 100) (n.tmod 100) = ydB n := by
  have h : Cal.lp 2004 = true := by decide
  unfold Cal.ok ydB
  rw [h, Bool.eq_iff_iff]
  simp only [decide_eq_true_eq]
  constructor
  · rintro ⟨_, _, h1, h2, h3, h4⟩; exact ⟨h1, h2, h3, h4⟩
  · rintro ⟨h1, h2, h3, h4⟩; exact ⟨by omega, by omega, h1, h2, h3, h4⟩
theorem rdate_yd (n : Int) (b : Bool) (h : ydB n = b) (w : World) : Calls Tryd.prog 43 #[.int .i64 2004, .int .i64 (n.tdiv 100), .int .i64 (n.tmod 100)] w fun e w' => e = .returned (.bool b) ∧ w = w' := by
  have := rdate_any 2004 (n.tdiv 100) (n.tmod 100) w
  rw [yd_ok, h] at this
  exact this
set_option maxHeartbeats 800000 in
theorem ryearly_bad (n f t : Int) (w : World) (h : n < 0 ∨ 730484 < n) : Calls Tryd.prog 58 #[.int .i64 n, .int .i64 f, .int .i64 t] w fun e w' => e = .returned (.tuple #[.bool false, .int .i64 (err n 730484)]) ∧ w = w' := by
  have H := Lib.hid (rdate_bad n w h)
  rcases err_bad h with c | c
  all_goals
    rw [c] at H ⊢
    clear c h
    go_enter Tryd.func58, Tryd.ntmps58
    go_wp2_with (go_at_call 45; refine H.out.mono ?_; rintro e w' ⟨rfl, rfl⟩)
    go_ret2
    exact ⟨rfl, rfl⟩
set_option maxHeartbeats 1600000 in
theorem ryearly_date {n y m d f t : Int} (w : World) (hd : Cal.IsDate n y m d) (f1 : -9223372036854775808 ≤ f) (f2 : f ≤ 9223372036854775807) (t1 : -9223372036854775808 ≤ t) (t2 : t ≤ 9223372036854775807) (h : ydB f = false ∨ ydB t = false) :
    Calls Tryd.prog 58 #[.int .i64 n, .int .i64 f, .int .i64 t] w fun e w' => e = .returned (.tuple #[.bool false, .int .i64 10]) ∧ w = w' := by
  have hb := td_bd f f1 f2
  have hw : IntKind.i64.wrap (f.tdiv 100) = f.tdiv 100 := IntWalk.i64_in _ (by omega)
  have hw' : wrap64 (f.tdiv 100) = f.tdiv 100 := IntWalk.wrap64_in _ ⟨by omega, by omega⟩
  have hb2 := td_bd t t1 t2
  have hv : IntKind.i64.wrap (t.tdiv 100) = t.tdiv 100 := IntWalk.i64_in _ (by omega)
  have hv' : wrap64 (t.tdiv 100) = t.tdiv 100 := IntWalk.wrap64_in _ ⟨by omega, by omega⟩
  cases hf : ydB f
  · have F := Lib.hid (rdate_yd f _ hf)
    clear hf h
    go_enter Tryd.func58, Tryd.ntmps58
    go_wp2_with (first | (go_at_call 45; refine (rdate_ok _ hd).mono ?_; rintro e w' ⟨rfl, rfl⟩) | (go_at_call 43; (with_reducible refine (F.out _).mono ?_); rintro e w' ⟨rfl, rfl⟩))
    go_ret2
    exact ⟨rfl, rfl⟩
  · have ht : ydB t = false := by rcases h with h | h; · rw [hf] at h; cases h
                                  · exact h
    have F := Lib.hid (rdate_yd f _ hf)
    have T := Lib.hid (rdate_yd t _ ht)
    clear hf ht h
    go_enter Tryd.func58, Tryd.ntmps58
    go_wp2_with (first | (go_at_call 45; refine (rdate_ok _ hd).mono ?_; rintro e w' ⟨rfl, rfl⟩) | (go_at_call 43; (with_reducible refine (F.out _).mono ?_); rintro e w' ⟨rfl, rfl⟩) | (go_at_call 43; (with_reducible refine (T.out _).mono ?_); rintro e w' ⟨rfl, rfl⟩))
    go_ret2
    exact ⟨rfl, rfl⟩
set_option maxHeartbeats 3200000 in
theorem ryearly_ok {n y m d f t : Int} (w : World) (hd : Cal.IsDate n y m d) (f1 : -9223372036854775808 ≤ f) (f2 : f ≤ 9223372036854775807) (t1 : -9223372036854775808 ≤ t) (t2 : t ≤ 9223372036854775807) (hf : ydB f = true) (ht : ydB t = true) :
    Calls Tryd.prog 58 #[.int .i64 n, .int .i64 f, .int .i64 t] w fun e w' => e = .returned (.tuple #[.bool (inB (100 * m + d) f t), .int .i64 0]) ∧ w = w' := by
  have hb := td_bd f f1 f2
  have hw : IntKind.i64.wrap (f.tdiv 100) = f.tdiv 100 := IntWalk.i64_in _ (by omega)
  have hw' : wrap64 (f.tdiv 100) = f.tdiv 100 := IntWalk.wrap64_in _ ⟨by omega, by omega⟩
  have hb2 := td_bd t t1 t2
  have hv : IntKind.i64.wrap (t.tdiv 100) = t.tdiv 100 := IntWalk.i64_in _ (by omega)
  have hv' : wrap64 (t.tdiv 100) = t.tdiv 100 := IntWalk.wrap64_in _ ⟨by omega, by omega⟩
  have F := Lib.hid (rdate_yd f _ hf)
  have T := Lib.hid (rdate_yd t _ ht)
  have hm1 := hd.m1
  have hm2 := hd.m2
  have hd1 := hd.d1
  have hd2 : d ≤ 31 := Int.le_trans hd.d2 (Cal.dim_bd m _ (by omega) (by omega)).2
  have F2 : Hid (0 ≤ f → ∀ w : World, Calls Tryd.prog 43 #[.int .i64 2004, .int .i64 (f.tdiv 100), .int .i64 (f % 100)] w fun e w' => e = .returned (.bool true) ∧ w = w') := fun h w => by
    have := rdate_yd f _ hf w
    rwa [Int.tmod_eq_emod_of_nonneg h] at this
  have T2 : Hid (0 ≤ t → ∀ w : World, Calls Tryd.prog 43 #[.int .i64 2004, .int .i64 (t.tdiv 100), .int .i64 (t % 100)] w fun e w' => e = .returned (.bool true) ∧ w = w') := fun h w => by
    have := rdate_yd t _ ht w
    rwa [Int.tmod_eq_emod_of_nonneg h] at this
  clear hf ht
  by_cases c : t < f <;> by_cases c2 : f ≤ 100 * m + d
  all_goals
    go_enter Tryd.func58, Tryd.ntmps58
    go_wp2_with (first | (go_at_call 45; refine (rdate_ok _ hd).mono ?_; rintro e w' ⟨rfl, rfl⟩) | (go_at_call 43; (with_reducible refine (F.out _).mono ?_); rintro e w' ⟨rfl, rfl⟩) | (go_at_call 43; (with_reducible refine (T.out _).mono ?_); rintro e w' ⟨rfl, rfl⟩) | (go_at_call 43; (with_reducible refine (F2.out (by omega) _).mono ?_); rintro e w' ⟨rfl, rfl⟩) | (go_at_call 43; (with_reducible refine (T2.out (by omega) _).mono ?_); rintro e w' ⟨rfl, rfl⟩))
    go_ret2
    refine ⟨ret2b ?_, rfl⟩
    rw [Bool.eq_iff_iff]
    unfold inB
    first | (simp only [Bool.or_eq_true, decide_eq_true_eq]; omega) | (simp only [decide_eq_true_eq]; omega) | (simp only [decide_eq_true_eq, true_iff]; omega) | (simp only [decide_eq_true_eq, Bool.false_eq_true, false_iff]; omega)

theorem yearly_pair (n f t : Int) (f1 : -9223372036854775808 ≤ f) (f2 : f ≤ 9223372036854775807) (t1 : -9223372036854775808 ≤ t) (t2 : t ≤ 9223372036854775807) : ∃ (b : Bool) (e : Int), (0 ≤ e ∧ e ≤ 10) ∧
    (∀ w : World, Gl w → Calls Tryd.prog 38 #[.int .i64 n, .int .i64 f, .int .i64 t] w fun r w' => r = .returned (.tuple #[.bool b, .int .i64 e]) ∧ w = w') ∧
    (∀ w : World, Calls Tryd.prog 58 #[.int .i64 n, .int .i64 f, .int .i64 t] w fun r w' => r = .returned (.tuple #[.bool b, .int .i64 e]) ∧ w = w') := by
  by_cases hb : n < 0 ∨ 730484 < n
  · exact ⟨false, err n 730484, by have := err_bad hb; omega, fun w _ => yearly_bad n f t w hb, fun w => ryearly_bad n f t w hb⟩
  · obtain ⟨y, m, d, o, hd, _⟩ := own_day n (by omega) (by omega)
    by_cases hf : ydB f = false ∨ ydB t = false
    · exact ⟨false, 10, by omega, fun w G => yearly_date w hd f1 f2 t1 t2 hf G, fun w => ryearly_date w hd f1 f2 t1 t2 hf⟩
    · have h1 : ydB f = true := by cases h : ydB f; · exact absurd (Or.inl h) hf
                                   · rfl
      have h2 : ydB t = true := by cases h : ydB t; · exact absurd (Or.inr h) hf
                                   · rfl
      exact ⟨_, 0, by omega, fun w G => yearly_ok w hd f1 f2 t1 t2 h1 h2 G, fun w => ryearly_ok w hd f1 f2 t1 t2 h1 h2⟩
theorem works_pair (d : Int) (zs : List Int) (hlen : zs.length ≤ 1000000) : ∃ (b : Bool) (e : Int), (0 ≤ e ∧ e ≤ 10) ∧
    (∀ (v : Value) (w0 w : World), St w0 w → Sl w v zs → Calls Tryd.prog 35 #[.int .i64 d, v] w fun r w' => r = .returned (.tuple #[.bool b, .int .i64 e]) ∧ St w0 w') ∧
    (∀ (v : Value) (w0 w : World), St w0 w → Sl w v zs → Calls Tryd.prog 54 #[.int .i64 d, v] w fun r w' => r = .returned (.tuple #[.bool b, .int .i64 e]) ∧ St w0 w') := by
  cases hr : Hol.right zs
  · exact ⟨false, 2, by omega, fun v w0 w S h => (works_list d v zs w h hr).mono fun _ _ ⟨he, hw⟩ => ⟨he, hw ▸ S⟩, fun v w0 w S h => rworksA_list d v zs w0 w S h hlen hr⟩
  · by_cases hb : d < 0 ∨ 730484 < d
    · exact ⟨false, err d 730484, by have := err_bad hb; omega, fun v w0 w S h => (works_bad d v zs w h hr hb).mono fun _ _ ⟨he, hw⟩ => ⟨he, hw ▸ S⟩, fun v w0 w S h => rworksA_bad d v zs w0 w S h hlen hr hb⟩
    · exact ⟨_, 0, by omega, fun v w0 w S h => (works_ok d v zs w h hr (by omega) (by omega)).mono fun _ _ ⟨he, hq⟩ => ⟨he, hq.st S⟩, fun v w0 w S h => rworksA_ok d v zs w0 w S h hlen hr (by omega) (by omega)⟩
theorem between_pair (a b : Int) (zs : List Int) (hlen : zs.length ≤ 1000000) : ∃ (x e : Int), (0 ≤ e ∧ e ≤ 10) ∧
    (∀ (v : Value) (w0 w : World), St w0 w → Sl w v zs → Calls Tryd.prog 34 #[.int .i64 a, .int .i64 b, v] w fun r w' => r = .returned (.tuple #[.int .i64 x, .int .i64 e]) ∧ St w0 w') ∧
    (∀ (v : Value) (w0 w : World), St w0 w → Sl w v zs → Calls Tryd.prog 56 #[.int .i64 a, .int .i64 b, v] w fun r w' => r = .returned (.tuple #[.int .i64 x, .int .i64 e]) ∧ St w0 w') := by
  by_cases hr : Hol.right zs = false ∨ a < 0 ∨ b < a
  · exact ⟨0, 2, by omega, fun v w0 w S h => (between_arg a b v zs w h hr).mono fun _ _ ⟨he, hw⟩ => ⟨he, hw ▸ S⟩, fun v w0 w S h => rbetween_arg a b v zs w0 w S h hlen hr⟩
  · have hr' : Hol.right zs = true := by cases h : Hol.right zs; · exact absurd (Or.inl h) hr
                                         · rfl
    have h0 : 0 ≤ a := by by_cases c : a < 0; · exact absurd (Or.inr (Or.inl c)) hr
                          · omega
    have h1 : a ≤ b := by by_cases c : b < a; · exact absurd (Or.inr (Or.inr c)) hr
                          · omega
    by_cases hb : 730484 < b
    · exact ⟨0, 3, by omega, fun v w0 w S h => (between_long a b v zs w h hr' h0 h1 hb).mono fun _ _ ⟨he, hw⟩ => ⟨he, hw ▸ S⟩, fun v w0 w S h => rbetween_long a b v zs w0 w S h hlen hr' h0 h1 hb⟩
    · exact ⟨_, 0, by omega, fun v w0 w S h => between_ok a b v zs w0 w S h hr' h0 h1 (by omega), fun v w0 w S h => rbetween_ok a b v zs w0 w S h hlen hr' h0 h1 (by omega)⟩
theorem ahead_pair (d n : Int) (hn2 : n ≤ 9223372036854775807) (zs : List Int) (hlen : zs.length ≤ 1000000) : ∃ (x e : Int), (0 ≤ e ∧ e ≤ 10) ∧
    (∀ (v : Value) (w0 w : World), St w0 w → Sl w v zs → Calls Tryd.prog 36 #[.int .i64 d, .int .i64 n, v] w fun r w' => r = .returned (.tuple #[.int .i64 x, .int .i64 e]) ∧ St w0 w') ∧
    (∀ (v : Value) (w0 w : World), St w0 w → Sl w v zs → Calls Tryd.prog 57 #[.int .i64 d, .int .i64 n, v] w fun r w' => r = .returned (.tuple #[.int .i64 x, .int .i64 e]) ∧ St w0 w') := by
  by_cases hr : Hol.right zs = false ∨ n < 0
  · exact ⟨0, 2, by omega, fun v w0 w S h => (ahead_arg d n v zs w h hr).mono fun _ _ ⟨he, hb⟩ => ⟨he, S.step hb⟩, fun v w0 w S h => rahead_arg d n v zs w0 w S h hlen (hr.elim Or.inl fun x => Or.inr (Or.inr x))⟩
  · have hr' : Hol.right zs = true := by cases h : Hol.right zs; · exact absurd (Or.inl h) hr
                                         · rfl
    have hn : 0 ≤ n := by by_cases c : n < 0; · exact absurd (Or.inr c) hr
                          · omega
    by_cases c0 : d < 0
    · refine ⟨0, 2, by omega, fun v w0 w S h => ?_, fun v w0 w S h => rahead_arg d n v zs w0 w S h hlen (Or.inr (Or.inl c0))⟩
      have := ahead_bad d n v zs w h hr' hn (Or.inl c0)
      rw [err_neg c0] at this
      exact this.mono fun _ _ ⟨he, hb⟩ => ⟨he, S.step hb⟩
    by_cases c1 : 730484 < d
    · refine ⟨0, 3, by omega, fun v w0 w S h => ?_, fun v w0 w S h => rahead_long d n v zs w0 w S h hlen hr' hn c1⟩
      have := ahead_bad d n v zs w h hr' hn (Or.inr c1)
      rw [err_long (by omega) c1] at this
      exact this.mono fun _ _ ⟨he, hb⟩ => ⟨he, S.step hb⟩
    · obtain ⟨m, hm⟩ : ∃ m : Nat, d + m = 730485 := ⟨(730485 - d).toNat, by omega⟩
      refine ⟨_, _, ?_, fun v w0 w S h => ahead_ok d n v zs w0 w S h hr' hn (by omega) (by omega) m hm, fun v w0 w S h => rahead_ok d n v zs w0 w S h hlen hr' hn hn2 (by omega) (by omega) m _ hm rfl _ _ (fun h => ⟨if_neg (by omega), if_neg (by omega)⟩) (fun h => ⟨if_pos h, if_pos h⟩)⟩
      split <;> omega
end Go.Proofs.YtcnnfgigpjbcpaaDoor
